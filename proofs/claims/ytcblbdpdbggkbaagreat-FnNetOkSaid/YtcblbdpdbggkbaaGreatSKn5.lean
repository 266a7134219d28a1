/-
  What the laws of Kn need of the texts before it, part 5.
-/
import Derived.BigQuiet
import Derived.Deep.AppendLies
import Derived.Deep.DeepCutAuto
import Derived.Deep.MidRow
import Derived.Deep.QuietTactic
import Derived.Deep.RegionHeld3
import Derived.Deep.RegionLaw
import Derived.Deep.RegionWith
import Derived.Deep.WholeRow
import Derived.DeepKeys5
import Derived.IntWalk
import Derived.KernelRfl
import Derived.Laws.AppendOwnNone
import Derived.Laws.EntriesVeiled
import Derived.Lib.AppendZerosOnto
import Derived.Lib.Hide
import Derived.Lib.QuietBelow
import Derived.Lib.SliceRun
import Derived.Lib.Walk
import Derived.LoopIn
import Derived.LoopNIn
import Derived.Maps.AppendAt
import Derived.Maps.Keyed
import Derived.OneCell
import Derived.OpenShut
import Derived.OrdersHeld
import Derived.OwnWalkIn
import Derived.RangeFuncBound
import Derived.RangeFuncBox
import Derived.RangeFuncCalls
import Derived.RangeFuncLeaves
import Derived.RangeFuncNested
import Derived.RegionTactic
import Derived.Shelf.Abstract
import Derived.Shelf.RegionOpen
import Derived.Shelf.SlSortCmp.InsertionK
import Derived.StillTail
import Derived.TacticsInMore
import Derived.Test.YtcblbdpdbggkbaaGreatRows
import Derived.WalkKit
import Derived.WalkLawsBesides
import Derived.WalkSpells
import Derived.Test.YtcblbdpdbggkbaaGreatSKn4
set_option maxRecDepth 100000
set_option maxHeartbeats 16000000
set_option linter.unusedVariables false
set_option linter.unusedSectionVars false
set_option linter.unusedSimpArgs false
namespace Go.Proofs.YtcblbdpdbggkbaaGreat
theorem ze {P:Prop} (h:P:=by
 subst q
 clear p10 p11
 go_wp2_with fail
 refine (H1.out.pick o_ 5 o_ o_).mono ?_;rintro e w2 ⟨p2,rfl,p20,p21,h2⟩;have H2:=hd_ h2;clear h2
 go_wp2_with fail
 refine (H2.out.pick o_ 64 o_ o_).mono ?_;rintro e w3 ⟨p3,rfl,p30,p31,h3⟩;have H3:=hd_ h3;clear h3;obtain⟨u,hu⟩:=nm_ w3.heap.size;have H4:=hd_ (((H3.out.alloc #[iv 3,iv 5,iv 9,iv 17,iv p3] 3).p1))
 go_wp2_with fail
 refine (H4.out.pick o_ 5 o_ o_).mono ?_;rintro e w5 ⟨p5,rfl,p50,p51,h5⟩;obtain⟨n,hn⟩:∃n:Nat,p5=n:=⟨p5.toNat,o_⟩
 subst hn;obtain⟨u5,hu5⟩:=aKI p3 (n:=n) o_;have g5:=h5.p1.cell hu5;have nn:n<5:=o_;have H5:=hd_ h5.p1.drop;clear h5 hu hu5;have hr5:=H5.out.p1.cells3;obtain⟨r0,r1,r2⟩:=hr5;have rf:=H5.out.p1.free;have F:=hd_ (H5.out.p1.set3 (iv 1) (iv p2) (iv u5));go_wp2;obtain⟨d0,d1,d2⟩:=F.out.cells3
 refine bodyPost_ret (v:=.agg #[iv 1,iv p2,iv u5]) (by simp[results,results261,go_sem,d0,d1,d2]) rfl ⟨_,_,_,rfl,(F.out.drop).more o_⟩):P:=h
theorem zg {P:Prop} (h:P:=by
 go_simp;refine hK _ _ (.inl rfl) ?_;clear hK K'
 try refine tP_ ?_
 refine aD ?_;clear r0 r1 r2 rf;go_wp2;obtain⟨d0,d1,d2⟩:=F.out.cells3;refine bodyPost_ret (v:=.agg #[iv u5,iv p6,iv p8]) (by simp[results,results261,go_sem,d0,d1,d2]) rfl ⟨_,_,_,rfl,(F.out.drop.p1.drop).more o_⟩):P:=h
theorem zk {P:Prop} (h:P:=by
 subst q
 clear p10 p11
 go_wp2_with fail
 refine (H1.out.pick o_ 4 o_ o_).mono ?_;rintro e w2 ⟨p2,rfl,p20,p21,h2⟩;have H2:=hd_ h2;clear h2;have hr2:=H2.out.p1.cells3;obtain⟨r0,r1,r2⟩:=hr2;have rf:=H2.out.p1.free;have F:=hd_ (H2.out.p1.set3 (iv 4) (iv p2) (iv 0));go_wp2;obtain⟨d0,d1,d2⟩:=F.out.cells3;refine bodyPost_ret (v:=.agg #[iv 4,iv p2,iv 0]) (by simp[results,results261,go_sem,d0,d1,d2]) rfl ⟨_,_,_,rfl,(F.out.drop).more o_⟩):P:=h
theorem zx {P:Prop} (h:P:=by
 subst q
 clear p10 p11
 go_wp2_with fail
 refine (H1.out.pick o_ 5 o_ o_).mono ?_;rintro e w2 ⟨p2,rfl,p20,p21,h2⟩;have H2:=hd_ h2;clear h2;have hr2:=H2.out.p1.cells3;obtain⟨r0,r1,r2⟩:=hr2;have rf:=H2.out.p1.free;have F:=hd_ (H2.out.p1.set3 (iv 3) (iv p2) (iv 0));go_wp2;obtain⟨d0,d1,d2⟩:=F.out.cells3;refine bodyPost_ret (v:=.agg #[iv 3,iv p2,iv 0]) (by simp[results,results261,go_sem,d0,d1,d2]) rfl ⟨_,_,_,rfl,(F.out.drop).more o_⟩):P:=h
theorem zy {P:Prop} (h:P:=by
 subst q
 clear p10 p11
 go_wp2_with fail
 refine (H1.out.pick o_ 5 o_ o_).mono ?_;rintro e w2 ⟨p2,rfl,p20,p21,h2⟩;have H2:=hd_ h2;clear h2;have hr2:=H2.out.p1.cells3;obtain⟨r0,r1,r2⟩:=hr2;have rf:=H2.out.p1.free;have F:=hd_ (H2.out.p1.set3 (iv 2) (iv p2) (iv 0));go_wp2;obtain⟨d0,d1,d2⟩:=F.out.cells3;refine bodyPost_ret (v:=.agg #[iv 2,iv p2,iv 0]) (by simp[results,results261,go_sem,d0,d1,d2]) rfl ⟨_,_,_,rfl,(F.out.drop).more o_⟩):P:=h
theorem zAh {P:Prop} (h:P:=by
 refine hK _ _ (.inr trivial) ?_;clear hK K'
 try refine tP_ ?_
 repeat (first|refine tA_ ?_|refine tB_ ?_)
 refine aB r_ (fun K' hK=>?_);obtain⟨r0,r1,r2⟩:=HDbabb.out.p2.cells3;have rf:=HDbabb.out.p2.free;have F:=hd_ (HDbabb.out.p2.set3 (iv u5) (iv p6) (iv p8));exact zg):P:=h
theorem zAi {P:Prop} (h:P:=by
 refine hK _ _ (.inr trivial) ?_;clear hK K'
 try refine tP_ ?_
 repeat (first|refine tA_ ?_|refine tB_ ?_)
 refine aB r_ (fun K' hK=>?_);obtain⟨r0,r1,r2⟩:=HDabbb.out.p2.cells3;have rf:=HDabbb.out.p2.free;have F:=hd_ (HDabbb.out.p2.set3 (iv u5) (iv p6) (iv p8));exact zg):P:=h
theorem zAM {P:Prop} (h:P:=by
 rcases h.2 with ⟨rfl,h0⟩|⟨g,cap,cur,rfl,_⟩
 ·exact⟨none,0,by rw[h0]⟩
 ·exact⟨_,_,rfl⟩):P:=h
theorem zAP {P:Prop} (h:P:=by
 refine hK _ _ (.inr trivial) ?_;clear hK K'
 try refine tP_ ?_
 repeat (first|refine tA_ ?_|refine tB_ ?_)
 refine aB r_ (fun K' hK=>?_);obtain⟨r0,r1,r2⟩:=HDbbab.out.p2.cells3;have rf:=HDbbab.out.p2.free;have F:=hd_ (HDbbab.out.p2.set3 (iv u5) (iv p6) (iv p8));exact zg):P:=h
theorem zAQ {P:Prop} (h:P:=by
 exact bodyPost_ret (v:=.tuple #[.agg #[zn,iv 0,iv 0],.bool false]) (by simp[results,results197,go_sem,hr0,hr1,hr2]) rfl ⟨rfl,BZ.out⟩):P:=h
theorem zAY {P:Prop} (h:P:=by
 refine hK _ _ (.inr trivial) ?_;clear hK K'
 try refine tP_ ?_
 refine aB r_ (fun K' hK=>?_);go_simp;refine (HDbab.out.pick o_ 5 o_ o_).mono ?_;rintro e w8 ⟨p8,rfl,p80,p81,hh⟩;have HDbabb:=hd_ hh;clear hh;exact zAh):P:=h
theorem zAZ {P:Prop} (h:P:=by
 refine hK _ _ (.inr trivial) ?_;clear hK K'
 try refine tP_ ?_
 refine aB r_ (fun K' hK=>?_);go_simp;refine (HDabb.out.pick o_ 5 o_ o_).mono ?_;rintro e w8 ⟨p8,rfl,p80,p81,hh⟩;have HDabbb:=hd_ hh;clear hh;exact zAi):P:=h
theorem zA3 {P:Prop} (h:P:=by
 rw[aAi h,h]
 exact (qV w u v ps qs la aa lb ab hp hq h).mono fun e w' ⟨he,hb⟩=>⟨_,he,aJ.nil _ _,hb⟩):P:=h
theorem zBx {P:Prop} (h:P:=by
 obtain⟨⟨v,n,p,hb,ht,hn,p0,p1⟩,rfl⟩:=hf;exact⟨[a],⟨⟨v,n,p,hb,ht,hn,p0,o_⟩,rfl⟩,nd,fun _ q=>q⟩):P:=h
theorem zBR {P:Prop} (h:P:=by
 rw[e];clear e;go_enter func314,ntmps314;exact zAb):P:=h
end Go.Proofs.YtcblbdpdbggkbaaGreat
namespace Go.Proofs.YtcblbdpdbggkbaaGreat.T
open _root_.Go.Proofs.Tryz
open Go.RowKit Go.Sort Go.Shelf
def aHE:Go.Shelf.Ren:=⟨fun| 20=>325|n=>n,fun| 24=>213| 22=>39| 3=>3| 25=>321| 4=>4| 0=>0|n=>n,fun|n=>n⟩
theorem aMv:Go.Proofs.SlLaysF0.n20 prog aHE:={
  mixed:=by kernel_rfl
  f20:=⟨Tryz.f325.name,by decide,func325.trans (congrArg some kr_)⟩
  t0:=underlying0
  a0:=Tryz.isAgg0
  z0:=Tryz.sizeOf0
  v0:=Tryz.zeroValue0
  t3:=underlying3
  a3:=Tryz.isAgg3
  z3:=Tryz.sizeOf3
  v3:=Tryz.zeroValue3
  t4:=underlying4
  a4:=Tryz.isAgg4
  z4:=Tryz.sizeOf4
  v4:=Tryz.zeroValue4
  t22:=underlying39
  a22:=Tryz.isAgg39
  z22:=Tryz.sizeOf39
  v22:=Tryz.zeroValue39
  t25:=underlying321
  a25:=Tryz.isAgg321
  z25:=Tryz.sizeOf321
  v25:=Tryz.zeroValue321 }
def oI (a b:Int):Int:=if a<b then -1 else if b<a then 1 else 0
theorem aBl (a b:Int) (w:World):Calls prog 314 #[iv a,iv b] w fun e w'=>e=.returned (iv (oI a b))/\w=w':=by
 have e1:(a != a)=false:=by simp
 have e2:(b != b)=false:=by simp
 rcases (by omega:a<b\/a=b\/b<a)with h|h|h
 ·have e:oI a b= -1:=if_pos h
  exact zBR
 ·subst h
  have e:oI a a=0:=by simp[oI]
  exact zBR
 ·have e:oI a b=1:=by simp[oI,h];omega
  have h':¬a<b:=o_;exact zBR
def orV (a b:Int):Int:=if a=0 then b else a
theorem aMk (g:Nat) (a b:Int) (w:World) (h0:w.cell? ⟨g,0,none⟩=some (.int .i64 a)) (h1:w.cell? ⟨g,1,none⟩=some (.int .i64 b)):
  Calls prog 315 #[.slice (some ⟨g,0,none⟩) 2 2] w fun e w'=>e=.returned (iv (orV a b))/\w=w':=by
 by_cases ha:a=0
 ·subst ha
  rw[show orV 0 b=b from if_pos rfl]
  by_cases hb:b=0
  ·subst hb
   go_enter func315,ntmps315;go_wp2;refine wp_loop_rounds 3 ?_;rw[rounds_succ];go_wp2;rw[rounds_succ];go_wp2;rw[rounds_succ];exact zAb
  ·have e1:(b != 0)=true:=by simpa using hb
   have e2:decide (b=0)=false:=by simpa using hb
   clear hb;go_enter func315,ntmps315;go_wp2;refine wp_loop_rounds 2 ?_;rw[rounds_succ];go_wp2;rw[rounds_succ];exact zAb
 ·have e1:(a != 0)=true:=by simpa using ha
  have e2:decide (a=0)=false:=by simpa using ha
  rw[show orV a b=a from if_neg ha];clear ha;go_enter func315,ntmps315;go_wp2;refine wp_loop_rounds 1 ?_;rw[rounds_succ];exact zAb
def mB (p:Pr):List Value:=[iv p.1,iv p.2]
theorem rO (x y:Pr) (w:World):Calls prog 301 #[.agg #[iv x.1,iv x.2],.agg #[iv y.1,iv y.2]] w fun e w'=>e=.returned (iv (oI x.1 y.1))/\
  (w.alloc (.cells #[iv x.1,iv x.2] 213)).alloc (.cells #[iv y.1,iv y.2] 213)=w':=by
 obtain⟨a,b⟩:=x;obtain⟨c,d⟩:=y;simp only;have K:Hid (∀W,Calls prog 314 #[iv a,iv c] W fun e w'=>e=.returned (iv (oI a c))/\W=w'):=fun W=>aBl a c W
 generalize oI a c=V at K ⊢;go_enter func301,ntmps301
 go_wp2_with fail
 refine (K.out _).mono ?_;rintro e w1 ⟨rfl,rfl⟩;go_wp2;go_ret;exact⟨rfl,rfl⟩
def aA0 (x y:Pr):Int:=orV (oI y.2 x.2) (oI x.1 y.1)
theorem aBP (x y:Pr) (w:World):Calls prog 302 #[.agg #[iv x.1,iv x.2],.agg #[iv y.1,iv y.2]] w fun e w'=>e=.returned (iv (aA0 x y))/\∃q os,w'=grow (w.drewN q) os:=by
 obtain⟨a,b⟩:=x;obtain⟨c,d⟩:=y;have K:Hid (∀W,Calls prog 314 #[iv d,iv b] W fun e w'=>e=.returned (iv (oI d b))/\W=w'):=fun W=>aBl d b W
 have KT:Hid (∀W,Calls prog 301 #[.agg #[iv a,iv b],.agg #[iv c,iv d]] W fun e w'=>e=.returned (iv (oI a c))/\
    (W.alloc (.cells #[iv a,iv b] 213)).alloc (.cells #[iv c,iv d] 213)=w'):=fun W=>rO (a,b) (c,d) W
 show Calls _ _ #[.agg #[iv a,iv b],.agg #[iv c,iv d]] _ fun e w'=>e=.returned (iv (orV (oI d b) (oI a c)))/\_
 generalize oI d b=V at K ⊢;generalize oI a c=U at KT ⊢;have KO:Hid (∀W g,W.cell? ⟨g,0,none⟩=some (.int .i64 V)->W.cell? ⟨g,1,none⟩=some (.int .i64 U)->Calls prog 315 #[.slice (some ⟨g,0,none⟩) 2 2] W fun e w'=>e=.returned (iv (orV V U))/\W=w'):=fun W g h0 h1=>aMk g V U W h0 h1
 generalize orV V U=Z at KO ⊢;obtain⟨W0,hW0⟩:=nm_ ((w.alloc (.cells #[iv a,iv b] 213)).alloc (.cells #[iv c,iv d] 213));have G0:Hid (∃os,W0=grow w os):=by show ∃os,_;rw[hW0,alloc_eq_grow,alloc_eq_grow,grow_grow];exact⟨_,rfl⟩
 have c0:W0.cell? ⟨w.heap.size,0,none⟩=some (.int .i64 a)/\W0.cell? ⟨w.heap.size,1,none⟩=some (.int .i64 b):=by constructor<;>(rw[hW0,World.cell?_alloc_past (hn:=by simp)];simp)
 have c1:W0.cell? ⟨w.heap.size+1,0,none⟩=some (.int .i64 c)/\W0.cell? ⟨w.heap.size+1,1,none⟩=some (.int .i64 d):=by constructor<;>(rw[hW0,World.cell?_alloc_at (hn:=by simp)];simp)
 have far:∀(p:Addr) v o,W0.cell? p=some v->(W0.alloc o).cell? p=some v:=fun p v o h=>(World.cell?_alloc_lt (h:=World.block_lt_of_cell? _ _ h) ..).trans h
 have far2:∀(p:Addr) v o o',W0.cell? p=some v->((W0.alloc o).alloc o').cell? p=some v:=fun p v o o' h=>(World.cell?_alloc_lt (h:=World.block_lt_of_cell? _ _ (far p v o h)) ..).trans (far p v o h)
 have F2:=hd_ far2;have HW0:=hd_ hW0;obtain⟨x0,x1⟩:=c0;obtain⟨y0,y1⟩:=c1;have a0:=fun o o'=>F2.out _ _ o o' x0
 have a1:=fun o o'=>F2.out _ _ o o' x1
 have b0:=fun o o'=>F2.out _ _ o o' y0
 have b1:=fun o o'=>F2.out _ _ o o' y1
 have n0:∀o o',(((W0.alloc o).alloc o').alloc (.cells #[iv V,iv U] 3)).cell? ⟨W0.heap.size+1+1,0,none⟩=some (.int .i64 V):=fun o o'=>by rw[World.cell?_alloc_at (hn:=by simp)];simp
 have n1:∀o o',(((W0.alloc o).alloc o').alloc (.cells #[iv V,iv U] 3)).cell? ⟨W0.heap.size+1+1,1,none⟩=some (.int .i64 U):=fun o o'=>by rw[World.cell?_alloc_at (hn:=by simp)];simp
 clear hW0 far far2;go_enter func302,ntmps302
 go_wp2_with fail
 rw[<-HW0.out];clear HW0
 go_wp2_with fail
 go_region_held3 (fun w'=>w'.cell? ⟨w.heap.size,0,none⟩=some (.int .i64 a)/\w'.cell? ⟨w.heap.size,1,none⟩=some (.int .i64 b)/\w'.cell? ⟨w.heap.size+1,0,none⟩=some (.int .i64 c)/\w'.cell? ⟨w.heap.size+1,1,none⟩=some (.int .i64 d)) (go_keep)
  (first
      |(go_at_call 314;refine (K.out _).mono ?_;rintro e w1 ⟨rfl,rfl⟩)
      |(go_at_call 301;refine (KT.out _).mono ?_;rintro e w1 ⟨rfl,rfl⟩)
      |(go_at_call 315;refine (KO.out _ _ (by simpa using n0 _ _) (by simpa using n1 _ _)).mono ?_;rintro e w1 ⟨rfl,rfl⟩))
 all_goals
  go_wp2;go_ret;obtain⟨os,hg⟩:=G0.out;exact⟨rfl,1,_,by rw[hg,alloc_eq_grow,alloc_eq_grow,alloc_eq_grow,grow_grow,grow_grow,grow_grow];rfl⟩
theorem aE2 (ps:List Pr):flatK mB 2 ps.toArray=(prs ps).toArray:=by
 apply ext_get!
 ·simp[iN]
 ·intro t ht
  simp only[size_flatK,List.size_toArray]at ht;rw[get_flatK mB 2 ps.toArray t (by simpa using ht)];have hi:t / 2<ps.length:=o_;have hg:=oV ps (t / 2) hi;have e1:ps.toArray[t / 2]! =pr ps (t / 2):=by
   rw[getElem!_pos _ _ (by simpa using hi)];simp[pr,hi]
  rw[e1];have hl:t<(prs ps).length:=by rw[iN];exact ht
  have key:(prs ps)[t]? =some ((mB (pr ps (t / 2)))[t % 2]!):=by
   rcases (by omega:t % 2=0\/t % 2=1)with h|h
   ·rw[show t=t / 2 * 2 by omega,hg.1,show t / 2 * 2 / 2=t / 2 by omega,show t / 2 * 2 % 2=0 by omega];rfl
   ·rw[show t=t / 2 * 2+1 by omega,hg.2,show (t / 2 * 2+1) / 2=t / 2 by omega,show (t / 2 * 2+1) % 2=1 by omega];rfl
  rw[getElem!_pos (prs ps).toArray t (by simpa using hl)];rw[List.getElem?_eq_getElem hl]at key;simpa using (Option.some.inj key).symm
theorem aJ.holds {w:World} {B g n c:Nat} {ps:List Pr} (h:aJ w B (.slice (some ⟨g,0,none⟩) n c) ps):HoldsK mB 2 w g 0 ps.toArray/\g<w.heap.size/\B<=g/\n=ps.length:=by
 rcases h.2 with ⟨e,_⟩|⟨g',cap,cur,e,hb,hg,hn,hc,hs,ht⟩
 ·cases e
 ·obtain⟨e1,rfl,rfl⟩:=Value.slice.inj e
  have e2:g=g':=by simpa using e1
  subst e2;have hl:=(Array.getElem?_eq_some_iff.1 hg).1;refine⟨?_,hl,hb,rfl⟩;unfold HoldsK;rw[aE2];intro j hj;simp only[List.size_toArray]at hj
  constructor
  ·have:=World.ownsRow.cells h (g:=g) rfl j ((prs ps)[j]) (List.getElem?_eq_getElem hj)
   rw[lN]at this;rw[this];simp[getElem!_pos,hj]
  ·simp[World.frozen?,hg]
theorem yQ (w:World) (g n:Nat) (d:Array Pr) (os:Array Obj):w.grownBy (sortWorldK mB 2 w g 0 n d os) (some g):=by
 refine⟨rfl,rfl,rfl,size_sortWorldK_c mB 2 w g 0 n d os,fun k hk hne=>?_⟩;have hne':g≠k:=fun e=>hne (by rw[e])
 show ((w.heap.modify g _)++os)[k]? =_
 rw[Array.getElem?_append_left (by simpa using hk)];simp[Array.getElem?_modify,hne']
theorem aAq {w:World} {g c n:Nat} {d d':Array Pr} {os:Array Obj} (h:HoldsK mB 2 w g 0 d) (hg:g<w.heap.size) (hs:d'.size=d.size) (hc:d.size<=c) (hm:c<=maxLen):
  Prs (sortWorldK mB 2 w g 0 n d' os) (.slice (some ⟨g,0,none⟩) d.size c) d'.toList:=by
 have H:=holdsK_sortWorldK_c mB 2 w g 0 d d' n os h hg hs;have e:d'.toList.toArray=d':=by simp
 rw[<-e]at H;unfold HoldsK at H;rw[aE2]at H;refine .inr ⟨g,0,c,by simp[hs],by simpa[hs]using hc,hm,Nat.lt_of_lt_of_le hg (size_sortWorldK_c mB 2 w g 0 n _ os),fun i hi=>?_⟩;have hgg:=oV d'.toList i hi;have hl:=iN d'.toList;have a:=(H (i * 2) (by simp only[List.size_toArray];omega)).1;have b:=(H (i * 2+1) (by simp only[List.size_toArray];omega)).1
 have l0:i * 2<(prs d'.toList).length:=o_;have l1:i * 2+1<(prs d'.toList).length:=o_;rw[List.getElem?_eq_getElem l0]at hgg;rw[List.getElem?_eq_getElem l1]at hgg;rw[e]at a b;refine⟨by rw[a];rw[getElem!_pos _ _ (by simpa using l0)];simpa using hgg.1,?_⟩;rw[Nat.add_assoc,b,getElem!_pos _ _ (by simpa using l1)];simpa using hgg.2
def qL (cf:Pr->Pr->Int) (qs:List Pr):Prop:=∀i j,i<j->j<qs.length->ltOf cf (pr qs j) (pr qs i)=false
theorem aJQ (n:Nat) (w:World) (h:n<=8):Calls prog 164 #[.int .u64 n] w fun e w'=>(∃l:Int,e=.returned (iv l))/\w=w':=by
 rcases (by omega:n=0\/n=1\/n=2\/n=3\/n=4\/n=5\/n=6\/n=7\/n=8)with rfl|rfl|rfl|rfl|rfl|rfl|rfl|rfl|rfl
 all_goals
  clear h;go_enter func164,ntmps164;go_wp2;go_ret;exact⟨⟨_,rfl⟩,rfl⟩
section
variable (g:Nat) (cf:Pr->Pr->Int) (eg:∀args w,(callFunc g args).run prog w=.ok (.enter g args) w) (hg:∀x y W,Calls prog g #[.agg (mB x).toArray,.agg (mB y).toArray] W fun e w'=>e=.returned (iv (cf x y))/\∃q os,w'=grow (W.drewN q) os)
include eg hg
theorem aH7 (w:World) (k c:Nat) (d:Array Pr) (hH:HoldsK mB 2 w k 0 d) (hk:k<w.heap.size) (hn:d.size<=8):
  Calls prog 325 #[.slice (some ⟨k,0,none⟩) d.size c,iv 0,iv d.size,.func (.func g) #[] #[]] w fun e w'=>e=.returned (.tuple #[])/\∃n os,w'=sortWorldK mB 2 w k 0 n (Sort.insertionSort (ltOf cf) d 0 d.size) os:=by
 have h:=AnyQ.insertionSortCmpFunc aMv 2 Tryz.isAgg213 Tryz.sizeOf213 mB (fun _=>rfl) (fun x v hv=>by simp[mB]at hv;rcases hv with rfl|rfl<;>rfl) cf g #[] k 0 c 0 d.size d w eg
  (fun m os dk _ x y=>hg x y _) hH hk (Nat.zero_le _) lr_ o_
 exact h
theorem aBE (w:World) (k c n:Nat) (d:Array Pr) (hs:d.size=n) (hH:HoldsK mB 2 w k 0 d) (hk:k<w.heap.size) (hn:n<=8):
  Calls prog 317 #[.slice (some ⟨k,0,none⟩) n c,.func (.func g) #[] #[]] w fun e w'=>e=.returned (.tuple #[])/\∃n os,w'=sortWorldK mB 2 w k 0 n (Sort.insertionSort (ltOf cf) d 0 d.size) os:=by
 have hi:Hid (Calls prog 325 #[.slice (some ⟨k,0,none⟩) n c,iv 0,iv n,.func (.func g) #[] #[]] w fun e w'=>e=.returned (.tuple #[])/\∃n os,w'=sortWorldK mB 2 w k 0 n (Sort.insertionSort (ltOf cf) d 0 d.size) os):=by
  have h:=aH7 g cf eg hg w k c d hH hk o_;rw[hs]at h ⊢;exact h
 clear hH hs;have hp:Hid (∀l:Int,Calls prog 323 #[.slice (some ⟨k,0,none⟩) n c,iv 0,iv n,iv l,.func (.func g) #[] #[]] w fun e w'=>e=.returned (.tuple #[])/\∃n os,w'=sortWorldK mB 2 w k 0 n (Sort.insertionSort (ltOf cf) d 0 d.size) os):=fun l=>by
  generalize Sort.insertionSort (ltOf cf) d 0 d.size=r at hi ⊢;go_enter func323,ntmps323;go_wp2;refine wp_loop_rounds 1 ?_;rw[rounds_succ]
  go_wp2_with fail
  refine hi.out.mono ?_;rintro e w' ⟨rfl,n',os,rfl⟩;go_wp2
  (try simp only[Exit.inBlock,Exit.then]);refine bodyPost_ret (results_none rfl _ _ _) rfl ?_
  exact⟨rfl,n',os,rfl⟩
 generalize Sort.insertionSort (ltOf cf) d 0 d.size=r at hp ⊢;have e0:IntKind.u64.wrap (n:Int)=(n:Int):=by unfold IntKind.wrap;simp[IntKind.bits,IntKind.signed];omega
 clear hi;go_enter func317,ntmps317
 go_wp2_with fail
 refine (aJQ n w hn).mono ?_;rintro e w' ⟨⟨l,rfl⟩,rfl⟩
 go_wp2_with fail
 refine (hp.out l).mono ?_;rintro e w' ⟨rfl,n',os,rfl⟩;go_wp2
 go_end0
 exact⟨rfl,n',os,rfl⟩
omit eg hg in
theorem aBK (w:World):Calls prog 317 #[zn,.func (.func g) #[] #[]] w fun e w'=>e=.returned (.tuple #[])/\w=w':=by
 have hi:Hid (Calls prog 325 #[zn,iv 0,iv 0,.func (.func g) #[] #[]] w fun e w'=>e=.returned (.tuple #[])/\w=w'):=by
  show Calls _ _ _ _ _
  go_enter func325,ntmps325;go_wp2;refine wp_loop_rounds 1 ?_;rw[rounds_succ];go_wp2
  go_end0
  exact⟨rfl,rfl⟩
 have hp:Hid (∀l:Int,Calls prog 323 #[zn,iv 0,iv 0,iv l,.func (.func g) #[] #[]] w fun e w'=>e=.returned (.tuple #[])/\w=w'):=fun l=>by
  go_enter func323,ntmps323;go_wp2;refine wp_loop_rounds 1 ?_;rw[rounds_succ]
  go_wp2_with fail
  refine hi.out.mono ?_;rintro e w' ⟨rfl,rfl⟩;go_wp2
  (try simp only[Exit.inBlock,Exit.then]);refine bodyPost_ret (results_none rfl _ _ _) rfl ?_
  exact⟨rfl,rfl⟩
 go_enter func317,ntmps317
 go_wp2_with fail
 refine (aJQ 0 w o_).mono ?_;rintro e w' ⟨⟨l,rfl⟩,rfl⟩
 go_wp2_with fail
 refine (hp.out l).mono ?_;rintro e w' ⟨rfl,rfl⟩;go_wp2
 go_end0
 exact⟨rfl,rfl⟩
theorem aD7 (hS:SWO (ltOf cf)) (w:World) (B:Nat) (v:Value) (ps:List Pr) (h:aJ w B v ps) (hn:ps.length<=8):
  Calls prog 317 #[v,.func (.func g) #[] #[]] w fun e w'=>e=.returned (.tuple #[])/\∃qs:List Pr,qs.Perm ps/\qL cf qs/\Prs w' v qs/\w.grownBy w' v.ownBlock:=by
 by_cases hv:v=.slice none 0 0
 ·subst hv
  have h0:ps=[]:=by
   rcases h.2 with ⟨_,h0⟩|⟨g',cap,cur,e,_⟩
   ·exact List.eq_nil_of_length_eq_zero h0
   ·cases e
  subst h0;refine (aBK g w).mono fun e w' ⟨he,hw⟩=>⟨he,[],List.Perm.refl _,fun i j _ hj=>(by cases hj),.inl ⟨rfl,rfl⟩,?_⟩
  subst hw;exact qM _ _
 ·rcases h.2 with ⟨e,_⟩|⟨k,c,cur,e,_,_,hnc,hcm,_⟩
  ·exact absurd e hv
  ·subst e
   have hh:=h.holds;refine (aBE g cf eg hg w k c ps.length ps.toArray (by simp) hh.1 hh.2.1 hn).mono fun e w' ⟨he,n,os,hw⟩=>⟨he,?_⟩
   have hi:=insertionSort_holds (lt:=ltOf cf) hS ps.toArray 0 ps.toArray.size (Nat.zero_le _) lr_;obtain⟨⟨hsz,_,hperm⟩,hsrt⟩:=hi;generalize Sort.insertionSort (ltOf cf) ps.toArray 0 ps.toArray.size=d' at hw hsz hperm hsrt;subst hw;have hp:=aAq (n:=n) (os:=os) (c:=c) hh.1 hh.2.1 hsz (by simpa using hnc) hcm
   refine⟨d'.toList,?_,?_,by simpa using hp,by simpa[Value.ownBlock]using yQ w k n d' os⟩
   ·have e1:(d'.extract 0 ps.toArray.size).toList=d'.toList:=by simp[<-hsz]
    have e2:(ps.toArray.extract 0 ps.toArray.size).toList=ps:=by simp
    rw[e1,e2]at hperm;exact hperm
   ·intro i j hij hj
    have h2:=hsrt i j (Nat.zero_le _) hij (by rw[<-hsz];simpa using hj);have f:∀k,k<d'.toList.length->pr d'.toList k=d'[k]! :=fun k hk=>by
     have hk':k<d'.size:=by simpa using hk
     rw[getElem!_pos d' k hk'];simp[pr,List.getD_eq_getElem?_getD,hk']
    rw[f j hj,f i o_];exact h2
end
end Go.Proofs.YtcblbdpdbggkbaaGreat.T
namespace Go.Proofs.YtcblbdpdbggkbaaGreat.T
open _root_.Go.Proofs.Tryz
open Go.RowKit Go.Shelf
attribute [local go_sem] Oper.semAt_some
def InP (n₀:Nat) (w:World) (v:Value) (ps:List Pr):Prop:=
 (v=.slice none 0 0/\ps=[])\/
 ∃b o c,v=.slice (some ⟨b,o,none⟩) ps.length c/\ps.length<=c/\c<=maxLen/\b<n₀/\∀i,i<ps.length->w.cell? ⟨b,o+i * 2,none⟩=some (.int .i64 (pr ps i).1)/\w.cell? ⟨b,o+i * 2+1,none⟩=some (.int .i64 (pr ps i).2)
theorem InP.below {n₀:Nat} {w w':World} {v:Value} {ps:List Pr} (h:InP n₀ w v ps) (hb:Below n₀ w w'):InP n₀ w' v ps:=by
 rcases h with h|⟨b,o,c,e,h1,h2,h3,h4⟩
 ·exact .inl h
 ·exact .inr ⟨b,o,c,e,h1,h2,h3,fun i hi=>⟨(hb.cell (p:=⟨b,o+i * 2,none⟩) h3).trans (h4 i hi).1,(hb.cell (p:=⟨b,o+i * 2+1,none⟩) h3).trans (h4 i hi).2⟩⟩
theorem Prs.inP {w:World} {v:Value} {ps:List Pr} (h:Prs w v ps):InP w.heap.size w v ps:=h
theorem aC6 (n:Nat) (hn:1<=n) (l Bs n₀ b off len cap:Nat) (ps:List Pr) (hl:ps.length=len) (hm:len<=1000) (hb:b<n₀) (J Jx:List Pr->World->Prop)
  (hY:∀pre (x:Pr) W,J pre W->pre.length<len->YieldAt Fence.wide (n - 1) prog l #[.agg #[iv x.1,iv x.2]] W fun e W'=>
      (e=.returned (.bool true)/\J (pre++[x]) W'/\Below n₀ W W')\/(e=.returned (.bool false)/\Jx (pre++[x]) W'))
  (hJa:∀s W1 o,J s W1->J s (W1.alloc o)) (W:World) (hW:n₀<=W.heap.size) (hBs:W.cell? ⟨Bs,0,none⟩=some (.slice (some ⟨b,off,none⟩) len cap))
  (hc:∀i,i<len->W.cell? ⟨b,off+i * 2,none⟩=some (.int .i64 (pr ps i).1)/\W.cell? ⟨b,off+i * 2+1,none⟩=some (.int .i64 (pr ps i).2)) (h0:J [] W):
  CallsIn Fence.wide n prog 318 #[.func (.yield l) #[] #[],.pointer (some ⟨Bs,0,none⟩)] W fun e W'=>(∃v,e=.returned v)/\
   ((∃ys,ys=ps/\J ys W')\/(∃pre,pre<+:ps/\Jx pre W')):=by
 have HY:=hd_ hY;have HA:=hd_ hJa;have HC:=hd_ hc;have HL:=hd_ hl;have H0:=hd_ h0;clear hY hJa hc hl h0;refine callsIn_of_wp func318 rfl trivial ?_ rfl;simp only[ntmps318,List.size_toArray,List.length_cons,List.length_nil,Nat.reduceAdd,Nat.reduceSub,Array.replicate_succ,Array.replicate_zero,List.push_toArray,List.append_toArray,List.nil_append,List.cons_append]
 gi_wp2
 gi_loopw [7] (fun i wr=>∃k:Nat,k<=len/\i=.int .i64 k/\J (ps.take k) wr/\Below n₀ W wr)
  (fun i _=>len - (intOf i).toNat)
 case atStart=>exact⟨0,Nat.zero_le _,rfl,by simpa using H0.out,Below.refl _ _⟩
 case round=>
  obtain⟨k,hk,rfl,hJs,hnx⟩:=hrel;have HJ:=hd_ hJs;have HX:=hd_ hnx;have hsz:=hnx.size;clear hJs hnx
  by_cases hlt:k<len
  ·have h1:=(HX.out.cell (p:=⟨b,off+k * 2,none⟩) hb).trans (HC.out k hlt).1
   have h2:=(HX.out.cell (p:=⟨b,off+k * 2+1,none⟩) hb).trans (HC.out k hlt).2;have hs:Hid (ps.take (k+1)=ps.take k++[pr ps k]):=eA ps k (by rw[HL.out];exact hlt);have HLt:Hid ((ps.take k).length<len):=by show _<_;have:=HL.out;simp;omega
   generalize pr ps k=q at h1 h2 hs;obtain⟨t,m⟩:=q;simp only at h1 h2;obtain⟨fn,tmps,assign,body,hy,hR⟩:=HY.out (ps.take k) (t,m) (wr.alloc (.cells #[iv t,iv m] 213)) (HA.out _ _ _ HJ.out) HLt.out;dsimp only at hy
   gi_wp2
   refine hR.mono ?_;rintro e W3 (⟨rfl,hJ3,hk3⟩|⟨rfl,hJx3⟩)
   ·have B3:=hd_ (hk3)
    have J3:=hd_ hJ3;clear hk3 hJ3 hR hy
    gi_wp2
    go_roundw
    case rel=>exact⟨k+1,o_,by simp,by rw[hs.out];exact J3.out,(HX.out.alloc o_ _).trans B3.out⟩
    case measure=>simp[intOf];omega
   ·have JX:=hd_ hJx3
    have PF:Hid (ps.take k++[(t,m)]<+:ps):=by show _<+:_;rw[<-hs.out];exact List.take_prefix _ _
    clear hJx3 hR hy
    gi_wp2
    refine bodyPost_ret (results_none rfl _ _ _) rfl ?_;exact⟨⟨_,rfl⟩,.inr ⟨_,PF.out,JX.out⟩⟩
  ·obtain rfl:k=len:=o_
   have e1:ps.take k=ps:=List.take_of_length_le (by rw[HL.out];exact Nat.le_refl _);have E1:=hd_ e1;clear e1
   gi_wp2
   go_end0
   exact⟨⟨_,rfl⟩,.inl ⟨ps,rfl,by have h:=HJ.out;rw[E1.out]at h;exact h⟩⟩
theorem aDV (n:Nat) (l Bs:Nat) (J:List Pr->World->Prop) (W:World) (hBs:W.cell? ⟨Bs,0,none⟩=some (.slice none 0 0)) (h0:J [] W):
  CallsIn Fence.wide n prog 318 #[.func (.yield l) #[] #[],.pointer (some ⟨Bs,0,none⟩)] W fun e W'=>(∃v,e=.returned v)/\J [] W':=by
 have H0:=hd_ h0;clear h0;refine callsIn_of_wp func318 rfl trivial ?_ rfl;simp only[ntmps318,List.size_toArray,List.length_cons,List.length_nil,Nat.reduceAdd,Nat.reduceSub,Array.replicate_succ,Array.replicate_zero,List.push_toArray,List.append_toArray,List.nil_append,List.cons_append]
 gi_wp2
 gi_loopw [7] (fun i wr=>i=.int .i64 0/\J [] wr) (fun _ _=>0)
 case atStart=>exact⟨rfl,H0.out⟩
 case round=>
  obtain⟨rfl,hJs⟩:=hrel;have HJ:=hd_ hJs;clear hJs
  gi_wp2
  go_end0
  exact⟨⟨_,rfl⟩,HJ.out⟩
theorem aCX (n:Nat) (hn:1<=n) (Bs n₀:Nat) (v:Value) (ps:List Pr) (hm:ps.length<=1000) (w:World) (hBs:Bs<w.heap.size) (hn₀:n₀<=w.heap.size) (hc:w.cell? ⟨Bs,0,none⟩=some v) (hI:InP n₀ w v ps):
  SeqStopsK Fence.wide n prog 318 #[.pointer (some ⟨Bs,0,none⟩)] (fun x:Pr=>#[.agg #[iv x.1,iv x.2]]) (Below n₀) (fun ys=>ys=ps) (fun pre=>pre<+:ps) ps.length w:=fun l J Jx W hW hJ _ hY h0=>by
 have hc':=(hW.cell (p:=⟨Bs,0,none⟩) hBs).trans hc;have hJa:∀s W1 o,J s W1->J s (W1.alloc o):=fun s W1 o h=>hJ s W1 _ none h (World.grownBy_alloc W1 o none) (fun r e=>by cases e)
 rcases hI.below (hW.mono hn₀)with ⟨rfl,rfl⟩|⟨b,off,cap,rfl,h1,h2,hb,hcs⟩
 ·exact (aDV n l Bs J W hc' h0).mono fun e W' ⟨he,hj⟩=>⟨he,.inl ⟨_,rfl,hj⟩⟩
 ·exact aC6 n hn l Bs n₀ b off ps.length cap ps rfl hm hb J Jx hY hJa W (Nat.le_trans hn₀ hW.size) hc' hcs h0
def bD (W:World) (B:Nat) (x:Pr):Prop:=W.heap[B]? =some (.cells #[iv x.1,iv x.2] 213 (0,0))
theorem bD.cell0 {W:World} {B:Nat} {x:Pr} (h:bD W B x):W.cell? ⟨B,0,none⟩=some (.int .i64 x.1):=by unfold bD at h;simp[World.cell?,h]
theorem bD.cell1 {W:World} {B:Nat} {x:Pr} (h:bD W B x):W.cell? ⟨B,1,none⟩=some (.int .i64 x.2):=by unfold bD at h;simp[World.cell?,h]
theorem aIJ (B:Nat) (x:Pr) {X Y:World} {row:Option Nat} (h:bD X B x) (hg:X.grownBy Y row) (hr:∀r,row=some r->∃o:Obj,X.heap[r]? =some o/\o.isCells=false):bD Y B x:=by
 unfold bD at h ⊢;refine (hg.block B (Array.getElem?_eq_some_iff.1 h).1 (fun e=>?_)).trans h;obtain⟨o,ho,hc⟩:=hr B e.symm;rw[h]at ho;cases ho;cases hc
theorem aDa (w:World) (Bs:Nat) (v:Value) (ps:List Pr) (hm:ps.length<=1000) (hc:w.cell? ⟨Bs,0,none⟩=some v) (hp:Prs w v ps):
  CallsIn Fence.wide 8 prog 322 #[zn,.func (.func 318) #[] #[.pointer (some ⟨Bs,0,none⟩)]] w fun e w'=>∃u,e=.returned u/\aJ w' w.heap.size u ps/\Below w.heap.size w w':=by
 obtain⟨i0,hi,hz0,hz1,hz2⟩:=info_parts fQ;have hBs:=World.block_lt_of_cell? _ _ hc;simp only at hBs;have IA:=hd_ hp.inP;have hb0:=(Below.refl w.heap.size w).alloc lr_ (.cells #[zn] 39);have B0:=hd_ hb0;have C0:=hd_ (cell_later hb0 hc);have S0:Hid ((w.alloc (.cells #[zn] 39)).heap.size=w.heap.size+1):=by show _=_;simp
 have X0:=hd_ (Go.Boxed.new w 39 zn);have HM:=hd_ hm;clear hc hp hb0 hm;refine callsIn_of_wp_marks func322 rfl trivial ?_ rfl;simp only[ntmps322,List.size_toArray,List.length_cons,List.length_nil,Nat.reduceAdd,Nat.reduceSub,Array.replicate_succ,Array.replicate_zero,List.push_toArray,List.append_toArray,List.nil_append,List.cons_append]
 gi_wp2
 obtain⟨W0,hW0⟩:=nm_ (w.alloc (.cells #[zn] 39));rw[<-hW0]at B0 C0 S0 X0 ⊢;clear hW0;refine wpIn_rangeFunc_ownH rfl o_ (gf:=318) (lb:=#[.pointer (some ⟨Bs,0,none⟩)]) rfl trivial (enters_of func318 kr_ rfl)
  (aCX 7 o_ Bs w.heap.size v ps HM.out W0 (by rw[S0.out];omega) B0.out.size C0.out (IA.out.below B0.out)) belowK_t (belowK_b (by rw[S0.out];omega)) (Below.refl _ _) (fun _=>rfl)
  (fun (pre:List Pr) W=>(∃u,Go.Boxed W w.heap.size 39 u/\W.ownsRow w.heap.size 213 2 u pre.length (prs pre)/\True)/\Below w.heap.size w W)
  (fun _ _ _=>False)
  (OwnFrom.and (Own.from (holdsRow_own w.heap.size w.heap.size 39 213 2 (fun pre:List Pr=>pre.length) (fun pre=>prs pre) (fun _ _=>True)) _) (ownFrom_below lr_ (by rw[S0.out];omega)))
  (fun _ _ _ _ _ hs _ _=>hs)
  ⟨⟨_,X0.out,World.ownsRow_nil _ _ _ _,trivial⟩,B0.out⟩
  (fun x a' W=>∃Bx,w.heap.size<Bx/\bD W Bx x/\a'={ tmps:=#[zn,.func (.func 318) #[] #[.pointer (some ⟨Bs,0,none⟩)],.pointer (some ⟨w.heap.size,0,none⟩),undef,zn,.pointer (some ⟨Bx,0,none⟩),.func (.func 318) #[] #[.pointer (some ⟨Bs,0,none⟩)],.agg #[iv x.1,iv x.2],undef,undef,undef,undef,undef],defers:=[] })
  (fun x a' _ X Y row hs hg hr=>by obtain⟨Bx,h1,h2,h3⟩:=hs;exact⟨Bx,h1,aIJ Bx x h2 hg (fun r e=>(hr r e).2),h3⟩)
  ?assign ?body ?done ?stop
 case assign=>
  rintro l pre x W K ⟨⟨u,hu,hrow,_⟩,hB⟩ hK;obtain⟨t,m⟩:=x
  gi_wp2
  exact hK _ _ ((KeepsOthers.alloc _ _).from _) ((Below.refl _ W).alloc hB.size _) ⟨⟨u,hu.alloc _,hrow.alloc _,trivial⟩,hB.alloc hB.size _⟩ ⟨W.heap.size,hu.lt,heap_alloc_new W _,rfl⟩
 case body=>
  rintro l pre x a' W hl hr ⟨⟨u,hu,hrow,_⟩,hB⟩ ⟨Bx,hBx,bX,rfl⟩ hlt;obtain⟨t,m⟩:=x;obtain⟨xu,cu,rfl,_,_⟩:=(show aJ W w.heap.size u pre from hrow).form;obtain⟨np,hnp⟩:=nm_ pre.length;have n1000:np<1000:=by have:=HM.out;omega
  rw[<-hnp]at hu hrow;have NP:=hd_ hnp;have c0:=hu.cell;have x0:=bX.cell0;have x1:=bX.cell1;have HBW:=hd_ hB;have lS:=hB.size;simp only at x0 x1;clear hr hB hnp hlt bX
  gi_wp2_with (gi_at_builtin;refine wpListIn_append_own _ rfl _ _ 39 rfl w.heap.size 213 i0 (.agg #[iv 0,iv 0]) 2 16 underlying39 hi hz0 hz1 hz2 rfl dc_ _ _ _ rfl (hrow.alloc _) ⟨W.heap.size,0,none⟩ 1 1 [iv t,iv m] rfl rfl (cW _ _ _ _) (by simp[Value.oneCell']) (by unfold maxLen;omega) o_ (by simp;omega) ?_;intro v' w1 hown' hgrow _;obtain⟨g',cap',rfl⟩:=ownsRow_succ hown';obtain⟨hv1,hv2,hr2,hk2,hb2⟩:=hu.appended dc_ hrow lS lr_ hown' hgrow;have hc1:=hv1.cell;have hf1:=hv1.frozen)
  have R:(w1.setCell ⟨w.heap.size,0,none⟩ (.slice (some ⟨g',0,none⟩) (np+1) cap')).ownsRow w.heap.size 213 2 (.slice (some ⟨g',0,none⟩) (np+1) cap') (pre++[(t,m)]).length (prs (pre++[(t,m)])):=by
   rw[List.length_append, <-NP.out,sB];exact hr2
  first
   |exact⟨hk2.from _,hb2,⟨_,hv2,R,trivial⟩,HBW.out.trans hb2⟩
   |exact⟨hk2.from _,hb2,⟨_,hv2,R⟩,HBW.out.trans hb2⟩
 case done=>
  rintro D xs W hD rfl ⟨⟨u,hu,hrow,_⟩,hB⟩ hK;have c0:=hu.cell;obtain⟨xu,cu,rfl,_,_⟩:=(show aJ W w.heap.size u xs from hrow).form;obtain⟨np,hnp⟩:=nm_ xs.length;rw[<-hnp]at c0
  gi_wp2
  refine⟨by simp,.inl ⟨_,_,rfl,run_takeDeferred hK,?_⟩⟩;have o3:=ownsRow_putObj hrow (.deferred none) hK rfl;refine⟨_,results_tmp rfl _ _ _,_,rfl,?_,hB.trans (belowK_b (w:=w) lr_ W D _ _ (by have:=S0.out;omega) hK rfl rfl)⟩;exact o3
 case stop=>
  rintro D c pre W _ _ h _;exact h.elim
end Go.Proofs.YtcblbdpdbggkbaaGreat.T
namespace Go.Proofs.YtcblbdpdbggkbaaGreat.T
open _root_.Go.Proofs.Tryz
open Go.RowKit Go.Sort Go.Shelf
theorem aBY (x:Option Addr) (n c:Nat) (w:World):Calls prog 304 #[.slice x n c] w fun e w'=>e=.returned (.func (.func 318) #[] #[.pointer (some ⟨w.heap.size,0,none⟩)])/\w.alloc (.cells #[.slice x n c] 39)=w':=by
 go_enter func304,ntmps304;exact zAb
theorem aFy (w:World) (Bs:Nat) (v:Value) (ps:List Pr) (hm:ps.length<=1000) (hc:w.cell? ⟨Bs,0,none⟩=some v) (hp:Prs w v ps):
  Calls prog 316 #[.func (.func 318) #[] #[.pointer (some ⟨Bs,0,none⟩)]] w fun e w'=>∃u,e=.returned u/\aJ w' w.heap.size u ps/\Below w.heap.size w w':=by
 have K:=hd_ (callsIn_wide.1 (aDa w Bs v ps hm hc hp));clear hc hp hm;go_enter func316,ntmps316
 go_wp2_with fail
 refine K.out.mono ?_;rintro e w1 ⟨u,rfl,ho,hb⟩;obtain⟨x,c,rfl,_,_⟩:=ho.form;go_wp2;go_ret;exact⟨_,rfl,ho,hb⟩
def qY (cf:Pr->Pr->Int) (w:World) (ps:List Pr) (w':World) (u:Value):Prop:=∃qs:List Pr,qs.Perm ps/\qL cf qs/\Prs w' u qs/\Below w.heap.size w w'
theorem uF (g:Nat) (cf:Pr->Pr->Int) (eg:∀args w,(callFunc g args).run prog w=.ok (.enter g args) w) (hg:∀x y W,Calls prog g #[.agg (mB x).toArray,.agg (mB y).toArray] W fun e w'=>e=.returned (iv (cf x y))/\∃q os,w'=grow (W.drewN q) os) (hS:SWO (ltOf cf))
  (w:World) (Bs:Nat) (v:Value) (ps:List Pr) (hm:ps.length<=8) (hc:w.cell? ⟨Bs,0,none⟩=some v) (hp:Prs w v ps):
  Calls prog 303 #[.func (.func 318) #[] #[.pointer (some ⟨Bs,0,none⟩)],.func (.func g) #[] #[]] w fun e w'=>∃u,e=.returned u/\qY cf w ps w' u:=by
 have K:=hd_ (aFy w Bs v ps o_ hc hp);have KS:Hid (∀W u,aJ W w.heap.size u ps->Calls prog 317 #[u,.func (.func g) #[] #[]] W fun e w'=>e=.returned (.tuple #[])/\∃qs:List Pr,qs.Perm ps/\qL cf qs/\Prs w' u qs/\W.grownBy w' u.ownBlock):=fun W u h=>aD7 g cf eg hg hS W w.heap.size u ps h hm
 clear hc hp hm eg hg hS;go_enter func303,ntmps303
 go_wp2_with fail
 refine K.out.mono ?_;rintro e w1 ⟨u,rfl,ho,hb⟩;have KS1:=hd_ (KS.out w1 u ho);have LT:=hd_ (fun k e=>(World.ownsRow.lt ho k e).1);have HB:=hd_ hb;obtain⟨x,c,rfl,_,_⟩:=ho.form;clear ho hb
 go_wp2_with fail
 refine KS1.out.mono ?_;rintro e w2 ⟨rfl,qs,h1,h2,h3,h4⟩;have fin:Hid (qY cf w ps w2 (.slice x ps.length c)):=⟨qs,h1,h2,h3,HB.out.grown h4 HB.out.size (fun k e=>LT.out k e)⟩
 clear h1 h2 h3 h4;go_wp2;go_ret;exact⟨_,rfl,fin.out⟩
def yK (x y:Pr):Int:=oI x.1 y.1
theorem aAk (a b:Int):oI a b<0↔a<b:=by
 unfold oI
 by_cases h:a<b
 ·simp[h]
 ·by_cases h':b<a<;>simp[h,h']
theorem aGZ (a b:Int):oI a b=0↔a=b:=by
 unfold oI
 by_cases h:a<b
 ·simp[h];omega
 ·by_cases h':b<a
  ·simp[h,h'];omega
  ·simp[h,h'];omega
theorem aGr (x y:Pr):ltOf yK x y=true↔x.1<y.1:=by
 simp only[ltOf,yK,decide_eq_true_eq,aAk]
theorem aGR (x y:Pr):ltOf aA0 x y=true↔y.2<x.2\/(y.2=x.2/\x.1<y.1):=by
 simp only[ltOf,aA0,orV];have h0:=aGZ y.2 x.2;have h1:=aAk y.2 x.2;have h2:=aAk x.1 y.1
 split
 ·rw[decide_eq_true_eq,h2];omega
 ·rw[decide_eq_true_eq,h1];omega
theorem aFW (x y:Pr):ltOf yK x y=false↔¬x.1<y.1:=by rw[<-aGr];simp
theorem aGo (x y:Pr):ltOf aA0 x y=false↔¬(y.2<x.2\/(y.2=x.2/\x.1<y.1)):=by rw[<-aGR];simp
theorem aMy:SWO (ltOf yK):=⟨fun x=>by rw[aFW];omega,fun x y z=>by simp only[aGr];omega,fun x y z=>by simp only[aFW];omega⟩
theorem aMC:SWO (ltOf aA0):=⟨fun x=>by rw[aGo];omega,fun x y z=>by simp only[aGR];omega,fun x y z=>by simp only[aGo];omega⟩
theorem egT:∀args w,(callFunc 301 args).run prog w=.ok (.enter 301 args) w:=enters_of func301 kr_ rfl
theorem egN:∀args w,(callFunc 302 args).run prog w=.ok (.enter 302 args) w:=enters_of func302 kr_ rfl
theorem hgT (x y:Pr) (W:World):Calls prog 301 #[.agg (mB x).toArray,.agg (mB y).toArray] W fun e w'=>e=.returned (iv (yK x y))/\∃q os,w'=grow (W.drewN q) os:=
 (rO x y W).mono fun e w' ⟨he,hw⟩=>⟨he,0,#[.cells #[iv x.1,iv x.2] 213 ]++#[.cells #[iv y.1,iv y.2] 213 ],by subst hw;rw[alloc_eq_grow,alloc_eq_grow,grow_grow];rfl⟩
theorem aD3 (x y:Pr) (W:World):Calls prog 302 #[.agg (mB x).toArray,.agg (mB y).toArray] W fun e w'=>e=.returned (iv (aA0 x y))/\∃q os,w'=grow (W.drewN q) os:=aBP x y W
theorem aEU (w:World) (v:Value) (ps:List Pr) (hp:Prs w v ps) (hn:ps.length<=8):
  Calls prog 289 #[v,iv 0] w fun e w'=>∃u,e=.returned u/\qY yK w ps w' u:=by
 obtain⟨x,c,rfl,_,_⟩:=hp.form;obtain⟨n,hn'⟩:=nm_ ps.length;rw[<-hn']at hp ⊢;obtain⟨W0,hW0⟩:=nm_ (w.alloc (.cells #[.func (.func 301) #[] #[],.func (.func 302) #[] #[]] 323));have B0:Hid (Below w.heap.size w W0):=by show Below _ _ _;rw[hW0];exact (Below.refl _ _).alloc lr_ _
 have P0:=hd_ (hp.below B0.out lr_);have c0:W0.cell? ⟨w.heap.size,0,none⟩=some (.func (.func 301) #[] #[]):=by rw[hW0];simp
 have l0:w.heap.size<W0.heap.size:=by rw[hW0];simp
 have c1:(W0.drew.alloc (.cells #[.slice x n c] 39)).cell? ⟨w.heap.size,0,none⟩=some (.func (.func 301) #[] #[]):=(World.cell?_alloc_lt (h:=l0) ..).trans c0
 have KS:Hid (Calls prog 303 #[.func (.func 318) #[] #[.pointer (some ⟨W0.heap.size,0,none⟩)],.func (.func 301) #[] #[]] (W0.drew.alloc (.cells #[.slice x n c] 39)) fun e w'=>∃u,e=.returned u/\qY yK (W0.drew.alloc (.cells #[.slice x n c] 39)) ps w' u):=
  uF _ yK egT hgT aMy _ W0.heap.size (.slice x n c) ps hn (by rw[World.cell?_alloc_at (hn:=by simp)];simp) (Prs.below (show Prs W0.drew _ ps from P0.out) ((Below.refl _ _).alloc lr_ _) lr_)
 have HW:=hd_ hW0;clear hp hn hn' hW0;go_enter func289,ntmps289
 go_wp2_with fail
 rw[<-HW.out];clear HW
 go_wp2_with fail
 go_region_with (first
    |(go_at_call 304;refine (aBY x n c _).mono ?_;rintro e w1 ⟨rfl,rfl⟩)
    |(go_at_call 303;refine KS.out.mono ?_;rintro e w2 ⟨u,rfl,qs,h1,h2,h3,h4⟩;obtain⟨xu,cu,rfl,_,_⟩:=h3.form))
 all_goals
  have fin:Hid (qY yK w ps w2 (.slice xu qs.length cu)):=⟨qs,h1,h2,h3,(B0.out.trans (Below.drew (Below.refl _ _))).trans ((((Below.refl _ _).alloc lr_ _).trans (h4.mono (by simp))).mono (by simpa using B0.out.size))⟩
  clear h1 h2 h3 h4;go_wp2;go_ret;exact⟨_,rfl,fin.out⟩
theorem aD2 (w:World) (v:Value) (ps:List Pr) (hp:Prs w v ps) (hn:ps.length<=8):
  Calls prog 289 #[v,iv 1] w fun e w'=>∃u,e=.returned u/\qY aA0 w ps w' u:=by
 obtain⟨x,c,rfl,_,_⟩:=hp.form;obtain⟨n,hn'⟩:=nm_ ps.length;rw[<-hn']at hp ⊢;obtain⟨W0,hW0⟩:=nm_ (w.alloc (.cells #[.func (.func 301) #[] #[],.func (.func 302) #[] #[]] 323));have B0:Hid (Below w.heap.size w W0):=by show Below _ _ _;rw[hW0];exact (Below.refl _ _).alloc lr_ _
 have P0:=hd_ (hp.below B0.out lr_);have c0:W0.cell? ⟨w.heap.size,1,none⟩=some (.func (.func 302) #[] #[]):=by rw[hW0];simp
 have l0:w.heap.size<W0.heap.size:=by rw[hW0];simp
 have c1:(W0.drew.alloc (.cells #[.slice x n c] 39)).cell? ⟨w.heap.size,1,none⟩=some (.func (.func 302) #[] #[]):=(World.cell?_alloc_lt (h:=l0) ..).trans c0
 have KS:Hid (Calls prog 303 #[.func (.func 318) #[] #[.pointer (some ⟨W0.heap.size,0,none⟩)],.func (.func 302) #[] #[]] (W0.drew.alloc (.cells #[.slice x n c] 39)) fun e w'=>∃u,e=.returned u/\qY aA0 (W0.drew.alloc (.cells #[.slice x n c] 39)) ps w' u):=
  uF _ aA0 egN aD3 aMC _ W0.heap.size (.slice x n c) ps hn (by rw[World.cell?_alloc_at (hn:=by simp)];simp) (Prs.below (show Prs W0.drew _ ps from P0.out) ((Below.refl _ _).alloc lr_ _) lr_)
 have HW:=hd_ hW0;clear hp hn hn' hW0;go_enter func289,ntmps289
 go_wp2_with fail
 rw[<-HW.out];clear HW
 go_wp2_with fail
 go_region_with (first
    |(go_at_call 304;refine (aBY x n c _).mono ?_;rintro e w1 ⟨rfl,rfl⟩)
    |(go_at_call 303;refine KS.out.mono ?_;rintro e w2 ⟨u,rfl,qs,h1,h2,h3,h4⟩;obtain⟨xu,cu,rfl,_,_⟩:=h3.form))
 all_goals
  have fin:Hid (qY aA0 w ps w2 (.slice xu qs.length cu)):=⟨qs,h1,h2,h3,(B0.out.trans (Below.drew (Below.refl _ _))).trans ((((Below.refl _ _).alloc lr_ _).trans (h4.mono (by simp))).mono (by simpa using B0.out.size))⟩
  clear h1 h2 h3 h4;go_wp2;go_ret;exact⟨_,rfl,fin.out⟩
end Go.Proofs.YtcblbdpdbggkbaaGreat.T
namespace Go.Proofs.YtcblbdpdbggkbaaGreat.T
open _root_.Go.Proofs.Tryz
open Go.RowKit Go.Sort
theorem kO {w:World} {B:Nat} {e:TypeId} {size n:Nat} {v:Value} {xs:List Value} (h:w.ownsRow B e size v n xs):∃x c,v=.slice x n c:=by
 exact zAM
theorem nB (ps:List Pr):∀u ∈ prs ps,u.oneCell'=true:=by
 induction ps with
 |nil=>intro u hu;cases hu
 |cons p ps ih=>
  intro u hu;rw[mH]at hu;simp only[List.mem_cons]at hu;rcases hu with rfl|rfl|hu
  ·rfl
  ·rfl
  ·exact ih u hu
theorem Prs.news {w:World} {b o n c:Nat} {ps:List Pr} (h:Prs w (.slice (some ⟨b,o,none⟩) n c) ps):∀j u,(prs ps)[j]? =some u->w.cell? ((⟨b,o,none⟩:Addr).add j)=some u:=fun j u hu=>by
 have hj:j<(prs ps).length:=(List.getElem?_eq_some_iff.1 hu).1;rw[iN]at hj;obtain⟨b',o',e,_,h1,h2⟩:=h.cells (j / 2) o_;cases e;have hg:=oV ps (j / 2) o_;rw[lN];rcases (by omega:j % 2=0\/j % 2=1)with h0|h0
 ·have e:j=j / 2 * 2:=o_
  rw[e]at hu ⊢;rw[hg.1]at hu;rw[h1, <-hu]
 ·have e:j=j / 2 * 2+1:=o_
  rw[e]at hu ⊢;rw[hg.2]at hu;rw[<-Nat.add_assoc,h2, <-hu]
theorem vG (n:Nat) (w:World) (hn:n<=100):Calls prog 305 #[zn,iv n] w fun e w'=>∃v,e=.returned v/\aJ w' w.heap.size v []/\Below w.heap.size w w':=by
 obtain⟨i0,hi,hz0,hz1,hz2⟩:=info_parts fQ
 by_cases h0:n=0
 ·subst h0
  go_enter func305,ntmps305;go_wp2;go_ret;exact⟨_,rfl,aJ.nil _ _,Below.refl _ _⟩
 ·have h1:¬((n:Int)<0):=o_
  have h4:(0:Int)<(n:Int):=o_;have hrz:∀ty,(Builtin.append_ #[39,3 ] ty #[zn,iv (n:Int)]).run prog w=
    .ok (.slice (some ⟨w.heap.size,0,none⟩) n (grownCap w n 0 213)) (w.drew.alloc (.cells ((([]:List Value).toArray++Builtin.zeroCells (Value.agg #[iv 0,iv 0]).cells n)++Builtin.zeroCells (Value.agg #[iv 0,iv 0]).cells (grownCap w n 0 213 - n)) 213)):=fun ty=>by
   have h:=Lib.run_append_grow_zeros w 39 3 ty 213 i0 _ .i64 .i64 underlying39 underlying3 hi hz0 none 0 0 [] (run_firstCells_none w.drew i0.size 0 0 0) n o_ (by rw[hz1];omega) o_ o_ (by rw[hz2];omega)
    (by rw[Nat.zero_add];exact growslice_fits o_ (by rw[hz2];omega))
   rw[Nat.zero_add]at h;exact h
  have hGn:n<=grownCap w n 0 213:=grownCap_ge w _ _ _;have hG63:=grownCap_le_maxLen w n 0 213 (by unfold maxLen;omega);have hsz:∀G,n<=G->((([]:List Value).toArray++Builtin.zeroCells (Value.agg #[iv 0,iv 0]).cells n)++Builtin.zeroCells (Value.agg #[iv 0,iv 0]).cells (G - n)).size=G * 2:=fun G hG=>by
   simp only[Array.size_append,size_zeroCells,Value.cells];simp;omega
  obtain⟨G,hG⟩:=nm_ (grownCap w n 0 213);rw[<-hG]at hrz hGn hG63;obtain⟨CS,hCS⟩:=nm_ ((([]:List Value).toArray++Builtin.zeroCells (Value.agg #[iv 0,iv 0]).cells n)++Builtin.zeroCells (Value.agg #[iv 0,iv 0]).cells (G - n));have hs:=hsz G hGn;rw[<-hCS]at hrz hs
  have FIN:Hid (aJ (w.drew.alloc (.cells CS 213)) w.heap.size (.slice (some ⟨w.heap.size,0,none⟩) 0 G) []/\Below w.heap.size w (w.drew.alloc (.cells CS 213))):=
   ⟨World.ownsRow_made w.drew CS G lr_ hG63 hs,(Below.drew (Below.refl _ _)).alloc lr_ _⟩
  have hGi:(n:Int)<=(G:Int):=o_;have hG0:(0:Int)<=(G:Int):=o_;have hG64:(G:Int)<=9223372036854775807:=by unfold maxLen at hG63;omega
  clear hG hCS hsz hs;go_enter func305,ntmps305
  go_wp2_with (at_builtin;refine Lib.wpList_append_run _ rfl _ _ _ _ rfl _ _ rfl rfl _ _ (hrz _) ?_)
  go_ret;exact⟨_,rfl,FIN.out.1,FIN.out.2⟩
theorem yV (w:World) (g na nb ca cb:Nat) (x y:Option Addr) (ps qs:List Pr) (ha:ps.length=na) (hb:qs.length=nb) (la:na<=8) (lb:nb<=8) (hp:Prs w (.slice x na ca) ps) (hq:Prs w (.slice y nb cb) qs)
  (c0:w.cell? ⟨g,0,none⟩=some (.slice x na ca)) (c1:w.cell? ⟨g,1,none⟩=some (.slice y nb cb)):
  Calls prog 290 #[.slice (some ⟨g,0,none⟩) 2 2] w fun e w'=>∃v,e=.returned v/\aJ w' w.heap.size v (ps++qs)/\Below w.heap.size w w':=by
 obtain⟨i0,hi,hz0,hz1,hz2⟩:=info_parts fQ;have HA:=hd_ ha;have HB:=hd_ hb;have HP:=hd_ hp;have HQ:=hd_ hq;have C0:=hd_ c0;have C1:=hd_ c1;have n0:¬(na:Int)<0:=o_;have n1:¬(na:Int)+(nb:Int)<0:=o_;have KG:Hid (Calls prog 305 #[zn,iv ((na:Int)+(nb:Int))] w fun e w'=>∃v,e=.returned v/\aJ w' w.heap.size v []/\Below w.heap.size w w'):=by
  have h:=vG (na+nb) w o_;rw[Int.natCast_add]at h;exact h
 have NP:Hid (x=none->ps=[]/\na=0/\ca=0):=fun e=>by
  subst e;rcases HP.out with ⟨e,h0⟩|⟨b,o,c,e,_⟩
  ·injection e with e1 e2 e3;exact⟨h0,e2,e3⟩
  ·cases e
 have NQ:Hid (y=none->qs=[]/\nb=0/\cb=0):=fun e=>by
  subst e;rcases HQ.out with ⟨e,h0⟩|⟨b,o,c,e,_⟩
  ·injection e with e1 e2 e3;exact⟨h0,e2,e3⟩
  ·cases e
 have SX:Hid (∀a,x=some a->∃b o,a=⟨b,o,none⟩):=fun a e=>by
  rcases HP.out with ⟨e',_⟩|⟨b,o,c,e',_⟩
  ·rw[e]at e';cases e'
  ·rw[e]at e';injection e' with e1;exact⟨b,o,Option.some.inj e1⟩
 have SY:Hid (∀a,y=some a->∃b o,a=⟨b,o,none⟩):=fun a e=>by
  rcases HQ.out with ⟨e',_⟩|⟨b,o,c,e',_⟩
  ·rw[e]at e';cases e'
  ·rw[e]at e';injection e' with e1;exact⟨b,o,Option.some.inj e1⟩
 clear ha hb hp hq;go_enter func290,ntmps290;go_wp2;refine wp_loop_rounds 3 ?_;rw[rounds_succ];go_wp2;rw[rounds_succ];go_wp2;rw[rounds_succ]
 go_wp2_with fail
 refine KG.out.mono ?_;rintro e w1 ⟨v,rfl,ho1,hb1⟩;obtain⟨z,cz,rfl,_,_⟩:=ho1.form;have d0:=cell_later hb1 C0.out;have d1:=cell_later hb1 C1.out;have P1:=hd_ (HP.out.below hb1 lr_);have Q1:=hd_ (HQ.out.below hb1 lr_);have O1:Hid (w1.ownsRow w.heap.size 213 2 (.slice z 0 cz) 0 []):=ho1;have B1:=hd_ hb1;have s1:=hb1.size;have D1:=hd_ d1;have gl:g<w.heap.size:=World.block_lt_of_cell? _ _ C1.out
 clear ho1 hb1 c0 c1 KG;simp only[List.length_nil];go_wp2;refine wp_loop_rounds 3 ?_;rw[rounds_succ]
 -- the first
 rcases hx:x with _|⟨bx,ox,sx⟩
 ·subst hx
  obtain⟨rfl,rfl,rfl⟩:=NP.out rfl;rcases hy:y with _|⟨by',oy,sy⟩
  ·subst hy
   obtain⟨rfl,rfl,rfl⟩:=NQ.out rfl
   go_wp2_with (first|(at_builtin;refine wpList_append_own_none rfl _ _ 39 rfl w.heap.size 213 i0 2 underlying39 hi (.slice z 0 cz) 0 [] rfl O1.out rfl ?_;have tok1:True:=trivial))
   rw[rounds_succ]
   go_wp2_with (first|(at_builtin;refine wpList_append_own_none rfl _ _ 39 rfl w.heap.size 213 i0 2 underlying39 hi (.slice z 0 cz) 0 [] rfl O1.out rfl ?_;have tok2:True:=trivial))
   rw[rounds_succ];go_wp2;go_ret;exact⟨_,rfl,O1.out,B1.out⟩
  ·obtain⟨by2,oy2,ey⟩:=SY.out _ hy
   obtain⟨rfl,rfl,rfl⟩:by'=by2/\oy=oy2/\sy=none:=by injection ey with e1 e2 e3;exact⟨e1,e2,e3⟩
   subst hy;clear ey
   go_wp2_with (first|(at_builtin;refine wpList_append_own_none rfl _ _ 39 rfl w.heap.size 213 i0 2 underlying39 hi (.slice z 0 cz) 0 [] rfl O1.out rfl ?_;have tok1:True:=trivial))
   rw[rounds_succ]
   go_wp2_with (first|(at_builtin;refine wpList_append_own _ rfl _ _ 39 rfl w.heap.size 213 i0 (.agg #[iv 0,iv 0]) 2 16 underlying39 hi hz0 hz1 hz2 rfl dc_ (.slice z 0 cz) 0 [] rfl O1.out ⟨by',oy,none⟩ nb cb (prs qs) rfl (by rw[iN,HB.out]) (Q1.out.news) (nB _) (by unfold maxLen;omega) o_ o_ ?_;intro v3 w3 ho3 hg3 _;have O3:=hd_ ho3;obtain⟨z3,cz3,rfl⟩:=kO ho3;have B3:=hd_ (B1.out.grown hg3 B1.out.size (fun k e=>(O1.out.lt k e).1))))
   rw[rounds_succ];go_wp2;go_ret;refine⟨_,rfl,?_,B3.out⟩;unfold aJ;have h:=O3.out;rw[<-HB.out]at h ⊢;simpa using h
 ·obtain⟨bx',ox',ex⟩:=SX.out _ hx
  obtain⟨rfl,rfl,rfl⟩:bx=bx'/\ox=ox'/\sx=none:=by injection ex with e1 e2 e3;exact⟨e1,e2,e3⟩
  subst hx;clear ex;rcases hy:y with _|⟨by',oy,sy⟩
  ·subst hy
   obtain⟨rfl,rfl,rfl⟩:=NQ.out rfl
   go_wp2_with (first|(at_builtin;refine wpList_append_own _ rfl _ _ 39 rfl w.heap.size 213 i0 (.agg #[iv 0,iv 0]) 2 16 underlying39 hi hz0 hz1 hz2 rfl dc_ (.slice z 0 cz) 0 [] rfl O1.out ⟨bx,ox,none⟩ na ca (prs ps) rfl (by rw[iN,HA.out]) (P1.out.news) (nB _) (by unfold maxLen;omega) o_ o_ ?_;intro v2 w2 ho2 hg2 _;simp only[Nat.zero_add,List.nil_append]at ho2;obtain⟨z2,cz2,rfl⟩:=kO ho2;have O2:=hd_ ho2;have B2:=hd_ (B1.out.grown hg2 B1.out.size (fun k e=>(O1.out.lt k e).1));have d2:=hg2.cell D1.out (fun e=>by have:=(O1.out.lt _ e.symm).1;simp only at this;omega);have s2:=hg2.size;have Q2:=hd_ (HQ.out.below B2.out lr_)))
   rw[rounds_succ]
   go_wp2_with (first|(at_builtin;refine wpList_append_own_none rfl _ _ 39 rfl w.heap.size 213 i0 2 underlying39 hi (.slice z2 na cz2) na (prs ps) rfl O2.out rfl ?_;have tok2:True:=trivial))
   rw[rounds_succ];go_wp2;go_ret;exact⟨_,rfl,by rw[List.append_nil];have h:=O2.out;rw[<-HA.out]at h ⊢;exact h,B2.out⟩
  ·obtain⟨by2,oy2,ey⟩:=SY.out _ hy
   obtain⟨rfl,rfl,rfl⟩:by'=by2/\oy=oy2/\sy=none:=by injection ey with e1 e2 e3;exact⟨e1,e2,e3⟩
   subst hy;clear ey
   go_wp2_with (first|(at_builtin;refine wpList_append_own _ rfl _ _ 39 rfl w.heap.size 213 i0 (.agg #[iv 0,iv 0]) 2 16 underlying39 hi hz0 hz1 hz2 rfl dc_ (.slice z 0 cz) 0 [] rfl O1.out ⟨bx,ox,none⟩ na ca (prs ps) rfl (by rw[iN,HA.out]) (P1.out.news) (nB _) (by unfold maxLen;omega) o_ o_ ?_;intro v2 w2 ho2 hg2 _;simp only[Nat.zero_add,List.nil_append]at ho2;obtain⟨z2,cz2,rfl⟩:=kO ho2;have O2:=hd_ ho2;have B2:=hd_ (B1.out.grown hg2 B1.out.size (fun k e=>(O1.out.lt k e).1));have d2:=hg2.cell D1.out (fun e=>by have:=(O1.out.lt _ e.symm).1;simp only at this;omega);have s2:=hg2.size;have Q2:=hd_ (HQ.out.below B2.out lr_)))
   rw[rounds_succ]
   go_wp2_with (first|(at_builtin;refine wpList_append_own _ rfl _ _ 39 rfl w.heap.size 213 i0 (.agg #[iv 0,iv 0]) 2 16 underlying39 hi hz0 hz1 hz2 rfl dc_ (.slice z2 na cz2) na (prs ps) rfl O2.out ⟨by',oy,none⟩ nb cb (prs qs) rfl (by rw[iN,HB.out]) (Q2.out.news) (nB _) (by unfold maxLen;omega) o_ o_ ?_;intro v3 w3 ho3 hg3 _;have O3:=hd_ ho3;obtain⟨z3,cz3,rfl⟩:=kO ho3;have B3:=hd_ (B2.out.grown hg3 B2.out.size (fun k e=>(O2.out.lt k e).1))))
   rw[rounds_succ];go_wp2;go_ret;refine⟨_,rfl,?_,B3.out⟩;unfold aJ;have h:=O3.out;rw[<-HA.out, <-HB.out]at h ⊢;rw[uW,List.length_append];exact h
def mrg (os:List Pr) (p:Pr):List Pr:=if 0<os.length/\(pr os (os.length - 1)).1=p.1 then os.set (os.length - 1) (p.1,(pr os (os.length - 1)).2+p.2)else os++[p]
theorem aAc {os:List Pr} {p:Pr} (h:¬(0<os.length/\(pr os (os.length - 1)).1=p.1)):mrg os p=os++[p]:=if_neg h
theorem aDo {os:List Pr} {p:Pr} (h0:0<os.length) (h:(pr os (os.length - 1)).1=p.1):mrg os p=os.set (os.length - 1) (p.1,(pr os (os.length - 1)).2+p.2):=if_pos ⟨h0,h⟩
def mrgV (qs:List Pr):List Pr:=qs.foldl mrg []
theorem aLb (os:List Pr) (p:Pr):(mrg os p).length<=os.length+1:=by unfold mrg;split<;>simp
theorem nJ (qs:List Pr) (k:Nat) (h:k<qs.length):mrgV (qs.take (k+1))=mrg (mrgV (qs.take k)) (pr qs k):=by
 rw[eA qs k h];simp[mrgV]
theorem aJE (qs:List Pr) {k:Nat} (h:k<=qs.length):(mrgV (qs.take k)).length<=k:=by
 induction k with
 |zero=>simp[mrgV]
 |succ k ih=>rw[nJ qs k h];have:=aLb (mrgV (qs.take k)) (pr qs k);have:=ih o_;omega
theorem BdP.mrg {M N:Int} {os:List Pr} {p:Pr} (h:BdP M os) (h0:0<=M) (hp:0<=p.2/\p.2<=N):BdP (M+N) (mrg os p):=by
 unfold YtcblbdpdbggkbaaGreat.T.mrg
 split
 ·rename_i hc
  intro q hq;have hl:=h _ (jH (ps:=os) (i:=os.length - 1) o_);rcases List.mem_or_eq_of_mem_set hq with h1|h1
  ·have:=h q h1;omega
  ·rw[h1];exact⟨by simp;omega,by simp;omega⟩
 ·intro q hq
  rcases List.mem_append.1 hq with h1|h1
  ·have:=h q h1;omega
  ·simp at h1;subst h1;omega
theorem BdP.mrgV {N:Int} {qs:List Pr} (h:BdP N qs) (hN:0<=N) {k:Nat} (hk:k<=qs.length):BdP (N * k) (mrgV (qs.take k)):=by
 induction k with
 |zero=>intro q hq;simp[YtcblbdpdbggkbaaGreat.T.mrgV]at hq
 |succ k ih=>
  rw[nJ qs k hk];have h3:=BdP.mrg (ih o_) (Int.mul_nonneg hN o_) (h.at k o_);have e:N * ((k+1:Nat):Int)=N * (k:Int)+N:=by rw[Int.natCast_add,Int.mul_add];simp
  rw[e];exact h3
theorem aLz (ps:List Pr) (k:Nat) (z:Int) (h:k<ps.length):(prs ps).set (k * 2+1) (iv z)=prs (ps.set k ((pr ps k).1,z)):=by
 induction ps generalizing k with
 |nil=>cases h
 |cons p ps ih=>
  rw[mH];cases k with
  |zero=>rfl
  |succ k=>
   have:=ih k (by simpa using h);rw[show (k+1) * 2+1=k * 2+1+1+1 by omega];simp only[List.set_cons_succ];rw[this]
   rfl
theorem aIq {w:World} {B j c:Nat} {x:Option Addr} {os:List Pr} (h:w.ownsRow B 213 2 (.slice x (j+1) c) (j+1) (prs os)) (hl:os.length=j+1):
  ∃g,x=some ⟨g,0,none⟩/\B<=g/\g<w.heap.size/\j+1<=c/\w.cell? ⟨g,j * 2,none⟩=some (.int .i64 (pr os j).1)/\w.cell? ⟨g,j * 2+1,none⟩=some (.int .i64 (pr os j).2)/\w.frozen? ⟨g,j * 2+1,none⟩=false:=by
 rcases h.2 with ⟨_,h0⟩|⟨g,cap,cur,e,hb,hg,hn,hc,hs,ht⟩
 ·omega
 ·obtain⟨e1,_,e3⟩:=Value.slice.inj e
  subst e1 e3;have e2:=oV os j o_;have a:=World.ownsRow.cells h (g:=g) rfl _ _ e2.1;have b:=World.ownsRow.cells h (g:=g) rfl _ _ e2.2;rw[lN,Nat.zero_add]at a b;exact⟨g,rfl,hb,(Array.getElem?_eq_some_iff.1 hg).1,hn,a,b,World.ownsRow.frozenAt h _⟩
def aMp (w:World) (ps qs:List Pr) (w':World) (u:Value):Prop:=∃ss:List Pr,ss.Perm (ps++qs)/\qL yK ss/\aJ w' w.heap.size u (mrgV ss)/\Below w.heap.size w w'
theorem aAC (w:World) (u v:Value) (ps qs:List Pr) (hp:Prs w u ps) (hq:Prs w v qs) (la:ps.length<=4) (lb:qs.length<=4) (ba:BdP 2000 ps) (bb:BdP 2000 qs):
  Calls prog 251 #[u,v] w fun e w'=>∃r,e=.returned r/\aMp w ps qs w' r:=by
 obtain⟨i0,hi,hz0,hz1,hz2⟩:=info_parts fQ;obtain⟨x,ca,rfl,_,_⟩:=hp.form;obtain⟨y,cb,rfl,_,_⟩:=hq.form;obtain⟨na,hna⟩:=nm_ ps.length;obtain⟨nb,hnb⟩:=nm_ qs.length;rw[<-hna]at hp la ⊢;rw[<-hnb]at hq lb ⊢;obtain⟨W0,hW0⟩:=nm_ (w.alloc (.cells #[.slice x na ca,.slice y nb cb] 39));have B0:Hid (Below w.heap.size w W0):=by show Below _ _ _;rw[hW0];exact (Below.refl _ _).alloc lr_ _
 have KC:=hd_ (yV W0 w.heap.size na nb ca cb x y ps qs hna.symm hnb.symm o_ o_ (hp.below B0.out lr_) (hq.below B0.out lr_) (by rw[hW0];simp) (by rw[hW0];simp));have HW:=hd_ hW0;obtain⟨L,hL⟩:=nm_ (ps++qs);have HLEN:Hid (L.length<=8):=by show _<=_;rw[hL,List.length_append, <-hna, <-hnb];omega
 have HBD:Hid (BdP 2000 L):=fun p hp'=>by rw[hL]at hp';rcases List.mem_append.1 hp' with h|h;exact ba p h;exact bb p h
 have HLL:=hd_ hL;rw[<-hL]at KC;have KO:Hid (∀W r,Prs W r L->Calls prog 289 #[r,iv 0] W fun e w'=>∃u,e=.returned u/\qY yK W L w' u):=fun W r h=>aEU W r _ h HLEN.out
 clear hp hq ba bb hna hnb hW0 hL;go_enter func251,ntmps251
 go_wp2_with fail
 rw[<-HW.out];clear HW
 go_wp2_with fail
 refine KC.out.mono ?_;rintro e w1 ⟨r,rfl,ho1,hb1⟩;have B1:=hd_ (B0.out.trans (hb1.mono B0.out.size));have KO1:=hd_ (KO.out w1 r ho1.rd);obtain⟨xr,cr,rfl,_,_⟩:=ho1.form;generalize L.length=nl at KO1 ⊢;clear ho1 hb1 KC KO B0
 go_wp2_with fail
 refine KO1.out.mono ?_;rintro e w2 ⟨s,rfl,ss,hperm,hsort,hs,hb2⟩;have B2:=hd_ (B1.out.trans (hb2.mono B1.out.size));have PE:Hid (ss.Perm (ps++qs)):=by show List.Perm _ _;rw[<-HLL.out];exact hperm
 have SO:=hd_ hsort;obtain⟨xs,cs,rfl,_,_⟩:=hs.form;have HP:=hd_ hs.cells;obtain⟨n,hn⟩:=nm_ ss.length;have n8:n<=8:=by have h1:=hperm.length_eq;have h2:=HLEN.out;omega
 have HL:=hd_ hn;have BS:Hid (BdP 2000 ss):=fun p hp'=>HBD.out p (hperm.mem_iff.1 hp')
 rw[<-hn];clear hperm hsort hs hb2 hn KO1 B1;go_wp2;go_loopw [5,15] (fun q i wr=>∃(k:Nat) (os:List Pr),k<=n/\i=.int .i64 k/\os=mrgV (ss.take k)/\aJ wr w2.heap.size q os/\Below w2.heap.size w2 wr) (fun _ i _=>n - (intOf i).toNat)
 case atStart=>exact⟨0,[],Nat.zero_le _,rfl,by simp[mrgV],aJ.nil _ _,Below.refl _ _⟩
 case round=>
  obtain⟨k,os,hk,rfl,hos,hown,hbl⟩:=hrel;have olen:os.length<=k:=by rw[hos];exact aJE ss (by rw[<-HL.out];exact hk)
  have obd:BdP (2000 * k) os:=by rw[hos];exact BS.out.mrgV o_ (by rw[<-HL.out];exact hk)
  obtain⟨z,cz,hu,_,_⟩:=hown.form;obtain⟨no,hno⟩:=nm_ os.length;have no8:no<=8:=o_;rw[<-hno]at hu;subst hu;have HOS:=hd_ hos;have HN:=hd_ hno;have HB:=hd_ hbl;have OB:=hd_ obd;have hsz:=hbl.size;have ho:wr.ownsRow w2.heap.size 213 2 (.slice z no cz) no (prs os):=by have h:=hown;unfold aJ at h;rw[<-hno]at h;exact h
  have HO:=hd_ ho;clear hbl hown ho hos obd olen hno
  by_cases hlt:k<n
  ·obtain⟨b,o,rfl,hb,h1,h2⟩:=HP.out k (by rw[<-HL.out];exact hlt)
   replace h1:=(HB.out.cell (p:=⟨b,o+k * 2,none⟩) hb).trans h1;replace h2:=(HB.out.cell (p:=⟨b,o+k * 2+1,none⟩) hb).trans h2;have hs:=hd_ (nJ ss k (by rw[<-HL.out];exact hlt));have hm:=BS.out.at k (by rw[<-HL.out];exact hlt);generalize pr ss k=q at h1 h2 hs hm;obtain⟨t,m⟩:=q;simp only at h1 h2 hm;obtain⟨m0,m1⟩:=hm;have k0:(0:Int)<=(k:Int):=o_;have kn:(k:Int)<(n:Int):=o_
   rcases Nat.eq_zero_or_pos no with h0|h0
   ·subst h0
    have hz:Hid (mrg os (t,m)=os++[(t,m)]):=aAc (fun h=>by have:=HN.out;omega);go_wp2
    go_quiet (fail)
    obtain⟨wq,hwq⟩:=nm_ ((wr.alloc (.cells #[iv t,iv m] 213)).drewN nq);have HOq:Hid (wq.ownsRow w2.heap.size 213 2 (.slice z 0 cz) 0 (prs os)):=by rw[hwq];exact HO.out.alloc _
    have HBq:Hid (Below w2.heap.size w2 wq):=by rw[hwq];exact below_drewN (HB.out.alloc hsz _) _
    have hszq:w2.heap.size<=wq.heap.size:=by rw[hwq];show _<=(wr.alloc (.cells #[iv t,iv m] 213)).heap.size;simp;omega
    have b0q:wq.cell? ⟨wr.heap.size,0,none⟩=some (.int .i64 t):=by rw[hwq];show (wr.alloc (.cells #[iv t,iv m] 213)).cell? _=_;simp
    have b1q:wq.cell? ⟨wr.heap.size,1,none⟩=some (.int .i64 m):=by rw[hwq];show (wr.alloc (.cells #[iv t,iv m] 213)).cell? _=_;simp
    rw[<-hwq];clear hwq
    go_wp2_with (first|(at_builtin;refine wpList_append_own _ rfl _ _ 39 rfl w2.heap.size 213 i0 (.agg #[iv 0,iv 0]) 2 16 underlying39 hi hz0 hz1 hz2 rfl dc_ _ _ _ rfl (HOq.out.alloc _) ⟨wq.heap.size,0,none⟩ 1 1 [iv t,iv m] rfl rfl (cW _ _ _ _) (by simp[Value.oneCell']) (by unfold maxLen;omega) o_ (by simp;omega) ?_;intro v1 w3 ho1 hg1 _;obtain⟨g_v1,c_v1,rfl,_,_⟩:=World.ownsRow.form ho1 (Nat.succ_pos _)))
    go_roundw
    case rel=>exact⟨k+1,os++[(t,m)],o_,gn_,by rw[hs.out, <-HOS.out,hz.out],fG ho1 HN.out,bQ HBq.out hszq HOq.out hg1⟩
    case measure=>simp[intOf];omega
   ·obtain⟨j,rfl⟩:∃j,no=j+1:=⟨no - 1,o_⟩
    obtain⟨gz,rfl,gz0,gz1,gzc,q1,q2,q3⟩:=aIq HO.out HN.out.symm;have hlast:=OB.out.at j (by rw[<-HN.out];omega);have hsub:os.length - 1=j:=by rw[<-HN.out];omega
    have HM1:Hid ((pr os j).1=t->mrg os (t,m)=os.set j (t,(pr os j).2+m)):=fun e=>by have:=aDo (os:=os) (p:=(t,m)) (by rw[<-HN.out];omega) (by rw[hsub];exact e);rw[hsub]at this;exact this
    have HM2:Hid (¬(pr os j).1=t->mrg os (t,m)=os++[(t,m)]):=fun e=>aAc (fun h=>e (by have:=h.2;rw[hsub]at this;exact this))
    have HST:Hid (∀W:World,W.ownsRow w2.heap.size 213 2 (.slice (some ⟨gz,0,none⟩) (j+1) cz) (j+1) (prs os)->∀x,(pr os j).1=t->aJ (W.setCell ⟨gz,j * 2+1,none⟩ (iv x)) w2.heap.size (.slice (some ⟨gz,0,none⟩) (j+1) cz) (os.set j (t,x))/\W.grownBy (W.setCell ⟨gz,j * 2+1,none⟩ (iv x)) (some gz)):=fun W hW x e=>by
     have hst:=hW.stored (j * 2+1) (iv x);rw[aLz os j x (by rw[<-HN.out];omega),e]at hst;refine⟨?_,hst.2⟩;unfold aJ;rw[List.length_set, <-HN.out];exact hst.1
    clear hsub;generalize pr os j=l at q1 q2 HM1 HM2 HST hlast;obtain⟨t0,m0'⟩:=l;simp only at q1 q2 hlast;obtain⟨hl0,hl1⟩:=hlast;have hl2:m0'<=16000:=by (have:(k:Int)<=8:=by omega);omega
    have p0:(0:Int)<=((j+1:Nat):Int) - 1:=o_;have e1:((j+1:Nat):Int) - 1=(j:Int):=o_;have j0:(0:Int)<=(j:Int):=o_;have jn:(j:Int)<((j+1:Nat):Int):=o_;have a1:=(World.cell?_alloc_lt (w:=wr) (o:=(.cells #[iv t,iv m] 213)) (a:=⟨gz,j * 2,none⟩) (h:=gz1)).trans q1;have a2:=(World.cell?_alloc_lt (w:=wr) (o:=(.cells #[iv t,iv m] 213)) (a:=⟨gz,j * 2+1,none⟩) (h:=gz1)).trans q2
    by_cases ht:t0=t
    ·have hd:(t0==t)=true:=by simpa using ht
     have hd2:decide (t0=t)=true:=by simpa using ht
     have fin:=hd_ (HM1.out ht);have FST:=hd_ (fun W hW x=>HST.out W hW x ht);have ws:IntKind.i64.wrap (m0'+m)=m0'+m:=IntWalk.i64_in _ o_;clear ht HM1 HM2 HST hl1;go_wp2
     go_quiet (fail)
     obtain⟨wq,hwq⟩:=nm_ ((wr.alloc (.cells #[iv t,iv m] 213)).drewN nq);have HOq:Hid (wq.ownsRow w2.heap.size 213 2 (.slice (some ⟨gz,0,none⟩) (j+1) cz) (j+1) (prs os)):=by rw[hwq];exact HO.out.alloc _
     have HBq:Hid (Below w2.heap.size w2 wq):=by rw[hwq];exact below_drewN (HB.out.alloc hsz _) _
     have hszq:w2.heap.size<=wq.heap.size:=by rw[hwq];show _<=(wr.alloc (.cells #[iv t,iv m] 213)).heap.size;simp;omega
     have b0q:wq.cell? ⟨wr.heap.size,0,none⟩=some (.int .i64 t):=by rw[hwq];show (wr.alloc (.cells #[iv t,iv m] 213)).cell? _=_;simp
     have b1q:wq.cell? ⟨wr.heap.size,1,none⟩=some (.int .i64 m):=by rw[hwq];show (wr.alloc (.cells #[iv t,iv m] 213)).cell? _=_;simp
     have a2q:wq.cell? ⟨gz,j * 2+1,none⟩=some (.int .i64 m0'):=by rw[hwq];exact a2
     have fq:wq.frozen? ⟨gz,j * 2+1,none⟩=false:=World.ownsRow.frozenAt HOq.out _;rw[<-hwq];clear hwq a1 a2 q1 q2 q3
     go_wp2_with fail
     go_region
     all_goals
      have fz:=FST.out wq HOq.out (m0'+m);have FZ:=hd_ fz;clear fz;go_wp2;go_roundw
      case rel=>exact⟨k+1,os.set j (t,m0'+m),o_,gn_,by rw[hs.out, <-HOS.out,fin.out],World.ownsRow.drew FZ.out.1,((HBq.out.grown FZ.out.2 hszq (fun k e=>by cases e;exact gz0)).trans (Below.drew (Below.refl _ _)))⟩
      case measure=>simp[intOf];omega
    ·have hd:(t0==t)=false:=by simpa using ht
     have hd2:decide (t0=t)=false:=by simpa using ht
     have fin:=hd_ (HM2.out ht);clear ht HM1 HM2 HST hl1;go_wp2
     go_quiet (fail)
     obtain⟨wq,hwq⟩:=nm_ ((wr.alloc (.cells #[iv t,iv m] 213)).drewN nq);have HOq:Hid (wq.ownsRow w2.heap.size 213 2 (.slice (some ⟨gz,0,none⟩) (j+1) cz) (j+1) (prs os)):=by rw[hwq];exact HO.out.alloc _
     have HBq:Hid (Below w2.heap.size w2 wq):=by rw[hwq];exact below_drewN (HB.out.alloc hsz _) _
     have hszq:w2.heap.size<=wq.heap.size:=by rw[hwq];show _<=(wr.alloc (.cells #[iv t,iv m] 213)).heap.size;simp;omega
     have b0q:wq.cell? ⟨wr.heap.size,0,none⟩=some (.int .i64 t):=by rw[hwq];show (wr.alloc (.cells #[iv t,iv m] 213)).cell? _=_;simp
     have b1q:wq.cell? ⟨wr.heap.size,1,none⟩=some (.int .i64 m):=by rw[hwq];show (wr.alloc (.cells #[iv t,iv m] 213)).cell? _=_;simp
     have a2q:wq.cell? ⟨gz,j * 2+1,none⟩=some (.int .i64 m0'):=by rw[hwq];exact a2
     have fq:wq.frozen? ⟨gz,j * 2+1,none⟩=false:=World.ownsRow.frozenAt HOq.out _;rw[<-hwq];clear hwq a1 a2 q1 q2 q3
     go_wp2_with (first|(at_builtin;refine wpList_append_own _ rfl _ _ 39 rfl w2.heap.size 213 i0 (.agg #[iv 0,iv 0]) 2 16 underlying39 hi hz0 hz1 hz2 rfl dc_ _ _ _ rfl (HOq.out.alloc _) ⟨wq.heap.size,0,none⟩ 1 1 [iv t,iv m] rfl rfl (cW _ _ _ _) (by simp[Value.oneCell']) (by unfold maxLen;omega) o_ (by simp;omega) ?_;intro v1 w3 ho1 hg1 _;obtain⟨g_v1,c_v1,rfl,_,_⟩:=World.ownsRow.form ho1 (Nat.succ_pos _)))
     go_roundw
     case rel=>exact⟨k+1,os++[(t,m)],o_,gn_,by rw[hs.out, <-HOS.out,fin.out],fG ho1 HN.out,bQ HBq.out hszq HOq.out hg1⟩
     case measure=>simp[intOf];omega
  ·obtain rfl:k=n:=o_
   have e1:ss.take k=ss:=List.take_of_length_le (by rw[<-HL.out];exact Nat.le_refl _);have FIN:Hid (aMp w ps qs wr (.slice z no cz)):=⟨ss,PE.out,SO.out,by rw[e1]at HOS;rw[<-HOS.out];have h:=HO.out;rw[HN.out]at h ⊢;exact aJ.base (B:=w2.heap.size) h B2.out.size,B2.out.trans (HB.out.mono B2.out.size)⟩
   clear e1;go_wp2;go_ret;exact⟨_,rfl,FIN.out⟩
theorem vX (ps qs:List Pr) (v:Int):bZ (ps++qs) v=bZ ps v+bZ qs v:=by simp[bZ]
theorem aAK {ps qs:List Pr} (h:ps.Perm qs) (v:Int):bZ ps v=bZ qs v:=(h.filter _).length_eq
theorem aH1 {ps:List Pr} {v:Int} (h:∀p ∈ ps,v<=p.2):bZ ps v=ps.length:=by
 unfold bZ;rw[List.filter_eq_self.2 (fun p hp=>by simpa using h p hp)]
theorem aFM {ps:List Pr} {v:Int} (h:∀p ∈ ps,¬v<=p.2):bZ ps v=0:=by
 unfold bZ;rw[List.filter_eq_nil_iff.2 (fun p hp=>by simpa using h p hp)];rfl
theorem aEg {ps:List Pr} {k i:Nat} (hi:i<k) (h:4<bZ ps (pr ps i).2):(pr ps i).2<=jZ ps k:=by
 induction k with
 |zero=>omega
 |succ k ih=>
  unfold jZ
  by_cases e:i=k
  ·subst e;rw[if_pos h];omega
  ·have:=ih (by omega)
   split<;>omega
theorem wD (ps:List Pr) {k:Nat} (hk:k<=ps.length):jZ ps k=0\/∃i,i<k/\4<bZ ps (pr ps i).2/\(pr ps i).2=jZ ps k:=by
 induction k with
 |zero=>exact .inl rfl
 |succ k ih=>
  have h:=ih (by omega);unfold jZ
  by_cases hc:4<bZ ps (pr ps k).2
  ·rw[if_pos hc]
   rcases (by omega:max (jZ ps k) (pr ps k).2=jZ ps k\/max (jZ ps k) (pr ps k).2=(pr ps k).2)with e|e
   ·rw[e]
    rcases h with h|⟨i,h1,h2,h3⟩
    ·exact .inl h
    ·exact .inr ⟨i,by omega,h2,h3⟩
   ·exact .inr ⟨k,by omega,hc,e.symm⟩
  ·rw[if_neg hc]
   rcases h with h|⟨i,h1,h2,h3⟩
   ·exact .inl h
   ·exact .inr ⟨i,by omega,h2,h3⟩
theorem aCe {ps:List Pr} (h:ps.length<=4):cL ps=0:=by
 rcases wD ps lr_ with e|⟨i,_,h2,_⟩
 ·exact e
 ·have:=wE ps (pr ps i).2;omega
theorem aGj {ps:List Pr} (h:∀p ∈ ps,0<p.2):cG ps 0=ps:=by
 induction ps with
 |nil=>rfl
 |cons p ps ih=>
  unfold cG;rw[if_pos (h p (by simp)),ih (fun q hq=>h q (by simp[hq]))];simp
theorem aFN {ps ss:List Pr} (hp:ss.Perm ps) (hs:qL aA0 ss) (hl:4<ps.length) (h0:∀p ∈ ps,0<=p.2):(pr ss 4).2=cL ps:=by
 have hlen:=hp.length_eq;have ge:∀i j,i<j->j<ss.length->(pr ss j).2<=(pr ss i).2:=fun i j hij hj=>by
  have:=(aGo _ _).1 (hs i j hij hj);omega
 have hsplit:∀v,bZ ss v=bZ (ss.take 4) v+bZ (ss.drop 4) v:=fun v=>by rw[<-vX,List.take_append_drop]
 have mem_ps:∀i,i<ss.length->pr ss i ∈ ps:=fun i hi=>hp.mem_iff.1 (jH hi)
 -- at least aL7 have as much as the fifth
 have h5:4<bZ ps (pr ss 4).2:=by
  rw[<-aAK hp];have e:ss=ss.take 5++ss.drop 5:=(List.take_append_drop _ _).symm;rw[show bZ ss (pr ss 4).2=bZ (ss.take 5) (pr ss 4).2+bZ (ss.drop 5) (pr ss 4).2 by rw[<-vX,List.take_append_drop]];rw[aH1 (ps:=ss.take 5) (fun p hp'=>by
      obtain⟨i,hi,rfl⟩:=lA hp'
      simp at hi
      rw[aGG (by omega)]
      by_cases e:i=4
      · rw[e];exact Int.le_refl _
      · exact ge i 4 (by omega) (by omega))]
  simp;omega
 apply Int.le_antisymm
 ·obtain⟨i,hi,e⟩:=lA (mem_ps 4 (by omega))
  have:=aEg (ps:=ps) (k:=ps.length) hi (by rw[e];exact h5);rw[e]at this;exact this
 ·rcases wD ps lr_ with e|⟨i,hi,h2,h3⟩
  ·have:=h0 _ (mem_ps 4 (by omega))
   have e':cL ps=0:=e;omega
  ·have e':cL ps=(pr ps i).2:=h3.symm
   rw[e'];apply Classical.byContradiction;intro hlt;rw[<-aAK hp,hsplit,aFM (ps:=ss.drop 4) (fun p hp'=>by
        obtain⟨j,hj,rfl⟩:=lA hp'
        have e2:pr (ss.drop 4) j=pr ss (4+j):=by simp[pr]
        rw[e2]
        simp at hj
        by_cases ej:j=0
        · subst ej;exact fun h=>hlt h
        · have:=ge 4 (4+j) (by omega) (by omega);omega)]at h2
   have:=wE (ss.take 4) (pr ps i).2;simp at this;omega
def Cut (w:World) (B:Nat) (ps:List Pr) (w':World) (u:Value) (n:Int):Prop:=aJ w' B u (oJ ps)/\n=cL ps/\Below w.heap.size w w'
theorem aDu (w:World) (B:Nat) (u:Value) (ps:List Pr) (ho:aJ w B u ps) (hl:ps.length<=4) (h1:∀p ∈ ps,0<p.2):
  Calls prog 250 #[u] w fun e w'=>∃r n,e=.returned (.tuple #[r,iv n])/\Cut w B ps w' r n:=by
 have HC:Hid (Cut w B ps w u 0):=⟨by unfold oJ;rw[aCe hl,aGj h1];exact ho,(aCe hl).symm,Below.refl _ _⟩
 obtain⟨x,c,rfl,_,_⟩:=ho.form;obtain⟨n,hn⟩:=nm_ ps.length;rw[<-hn]at HC hl ⊢;have hl':(n:Int)<=4:=o_;clear ho h1 hn;go_enter func250,ntmps250;go_wp2
 go_ret2
 exact⟨_,_,rfl,HC.out⟩
theorem aBG (w:World) (B:Nat) (u:Value) (ps:List Pr) (hB:B<=w.heap.size) (ho:aJ w B u ps) (hl:4<ps.length) (hl8:ps.length<=8) (h1:BdP 16000 ps):
  Calls prog 250 #[u] w fun e w'=>∃r n,e=.returned (.tuple #[r,iv n])/\Cut w B ps w' r n:=by
 obtain⟨i0,hi,hz0,hz1,hz2⟩:=info_parts fQ;have hp:=ho.rd;have K:=hd_ (aD2 w u ps hp hl8);have H0:Hid (∀p ∈ ps,0<=p.2):=fun p hp=>(h1 p hp).1
 have HBD:=hd_ h1;have ob:=aA9 (M:=16000) o_ h1.at;obtain⟨x,c,rfl,_,_⟩:=ho.form;have HPC:=hd_ hp.cells;obtain⟨n,hn⟩:=nm_ ps.length;have HL:=hd_ hn;rw[<-hn]at K hl hl8 ⊢;obtain⟨ov,hov⟩:=nm_ (cL ps);rw[<-hov]at ob;have HOV:=hd_ hov;have hl4:¬(n:Int)<=4:=o_;clear ho hp h1 hn hov;go_enter func250,ntmps250
 go_wp2_with fail
 refine K.out.mono ?_;rintro e w1 ⟨s,rfl,ss,hperm,hsort,hs,hb1⟩;have hov5:(pr ss 4).2=ov:=by rw[HOV.out];exact aFN hperm hsort (by rw[<-HL.out];exact hl) H0.out
 have hsl:ss.length=n:=by rw[hperm.length_eq];exact HL.out.symm
 obtain⟨xs,cs,rfl,_,_⟩:=hs.form;obtain⟨b,o,rfl,hb,s1,s2⟩:=hs.cells 4 o_;rw[hov5]at s2;rw[hsl];have n4:(4:Int)<(n:Int):=o_;have B1:=hd_ hb1;clear hperm hsort hs hb1 hov5 hsl s1 K;have s2':w1.cell? ⟨b,o+9,none⟩=some (.int .i64 ov):=s2;have s2'':w1.cell? ⟨b,o+8+1,none⟩=some (.int .i64 ov):=s2;go_wp2
 go_loopw [5,19] (fun q i wr=>∃(k:Nat) (os:List Pr),k<=n/\i=.int .i64 k/\os=cG (ps.take k) ov/\aJ wr w1.heap.size q os/\Below w1.heap.size w1 wr) (fun _ i _=>n - (intOf i).toNat)
 case atStart=>exact⟨0,[],Nat.zero_le _,rfl,by simp[cG],aJ.nil _ _,Below.refl _ _⟩
 case round=>
  clear s2 s2' s2'';obtain⟨k,os,hk,rfl,hos,hown,hbl⟩:=hrel;obtain⟨z,cz,hu,_,_⟩:=hown.form;obtain⟨no,hno⟩:=nm_ os.length;have no8:no<=8:=by have:=aCn (ps.take k) ov;have h2:=HL.out;rw[hno,hos];simp at this;omega
  rw[<-hno]at hu;subst hu;have HOS:=hd_ hos;have HN:=hd_ hno;have HB:=hd_ hbl;have hsz:=hbl.size;have ho:wr.ownsRow w1.heap.size 213 2 (.slice z no cz) no (prs os):=by have h:=hown;unfold aJ at h;rw[<-hno]at h;exact h
  have HO:=hd_ ho;clear hbl hown ho hos hno
  by_cases hlt:k<n
  ·obtain⟨b',o',rfl,hb',h1,h2⟩:=HPC.out k (by rw[<-HL.out];exact hlt)
   have tr:∀j v,w.cell? ⟨b',j,none⟩=some v->wr.cell? ⟨b',j,none⟩=some v:=fun j v h=>
    (HB.out.cell (p:=⟨b',j,none⟩) (Nat.lt_of_lt_of_le hb' B1.out.size)).trans ((B1.out.cell (p:=⟨b',j,none⟩) hb').trans h)
   replace h1:=tr _ _ h1;replace h2:=tr _ _ h2;have hs:=hd_ (aBi ps k ov (by rw[<-HL.out];exact hlt));have hm:=HBD.out.at k (by rw[<-HL.out];exact hlt);generalize pr ps k=q at h1 h2 hs hm;obtain⟨t,m⟩:=q;simp only at h1 h2 hm;obtain⟨m0,m1⟩:=hm;have k0:(0:Int)<=(k:Int):=o_;have kn:(k:Int)<(n:Int):=o_;clear tr
   by_cases hlm:ov<m
   ·rw[if_pos (by exact hlm)]at hs
    go_wp2_with (first|(at_builtin;refine wpList_append_own _ rfl _ _ 39 rfl w1.heap.size 213 i0 (.agg #[iv 0,iv 0]) 2 16 underlying39 hi hz0 hz1 hz2 rfl dc_ _ _ _ rfl ((HO.out.alloc _).alloc _) ⟨wr.heap.size+1,0,none⟩ 1 1 [iv t,iv (m - ov)] rfl rfl (by have:=cW (wr.alloc (.cells #[iv t,iv m] 213)) (iv t) (iv (m - ov)) 213;simpa using this) (by simp[Value.oneCell']) (by unfold maxLen;omega) o_ (by simp;omega) ?_;intro v1 w3 ho1 hg1 _;obtain⟨g_v1,c_v1,rfl,_,_⟩:=World.ownsRow.form ho1 (Nat.succ_pos _)))
    go_roundw
    case rel=>exact⟨k+1,os++[(t,m - ov)],o_,gn_,by rw[hs.out,HOS.out],fG ho1 HN.out,bQ (HB.out.alloc hsz _) (by simp;omega) (HO.out.alloc _) hg1⟩
    case measure=>simp[intOf];omega
   ·rw[if_neg (by exact hlm)]at hs
    go_wp2;go_roundw
    case rel=>exact⟨k+1,os,o_,gn_,by rw[hs.out,HOS.out,List.append_nil],by have h:=HO.out.alloc (.cells #[iv t,iv m] 213);rw[HN.out]at h ⊢;exact h,HB.out.alloc hsz _⟩
    case measure=>simp[intOf];omega
  ·obtain rfl:k=n:=o_
   have e1:ps.take k=ps:=List.take_of_length_le (by rw[<-HL.out];exact Nat.le_refl _);have FIN:Hid (Cut w B ps wr (.slice z no cz) ov):=⟨by unfold oJ;rw[e1]at HOS;rw[<-HOV.out, <-HOS.out];have h:=HO.out;rw[HN.out]at h ⊢;exact aJ.base (B:=w1.heap.size) h (Nat.le_trans hB B1.out.size),HOV.out,B1.out.trans (HB.out.mono B1.out.size)⟩
   clear e1;go_wp2
   go_ret2
   exact⟨_,_,rfl,FIN.out⟩
theorem aDY (w:World) (B:Nat) (u:Value) (ps:List Pr) (hB:B<=w.heap.size) (ho:aJ w B u ps) (hl8:ps.length<=8) (h1:BdP 16000 ps) (h2:∀p ∈ ps,0<p.2):
  Calls prog 250 #[u] w fun e w'=>∃r n,e=.returned (.tuple #[r,iv n])/\Cut w B ps w' r n:=by
 by_cases hl:ps.length<=4
 ·exact aDu w B u ps ho hl h2
 ·exact aBG w B u ps hB ho o_ hl8 h1
def Up (ps:List Pr):Prop:=ps.Pairwise (fun p q=>p.1<q.1)
def Pos (ps:List Pr):Prop:=∀p ∈ ps,0<p.2
theorem Asc.up {ps:List Pr} (h:Asc ps):Up ps:=by
 unfold Up;rw[List.pairwise_iff_getElem];intro i j hi hj hij;have:=h.lt hij hj;simpa[pr,hi,hj]using this
theorem Up.asc {ps:List Pr} (h:Up ps):Asc ps:=fun i h0 hi=>by
 unfold Up at h;rw[List.pairwise_iff_getElem]at h;have:=h (i - 1) i (by omega) hi (by omega);have h1:i - 1<ps.length:=by omega
 simpa[pr,h1,hi]using this
theorem uP.pos {ps:List Pr} {lost all:Int} (h:uP ps lost all):Pos ps:=fun p hp=>by
 obtain⟨i,hi,rfl⟩:=lA hp;have:=(h.2.1 i hi).1.2;omega
theorem aKh:∀{L M:List Pr},Up L->Up M->Pos L->Pos M->(∀t,tot L t=tot M t)->L=M
 | [],[],_,_,_,_,_=>rfl
 | [],m::M,_,hM,_,pM,h=>by
  have h1:=h m.1;have h2:tot M m.1=0:=iE fun q hq=>by have:=(List.pairwise_cons.1 hM).1 q hq;omega
  have h3:=pM m (by simp);simp[tot,h2]at h1;omega
 |l::L,[],hL,_,pL,_,h=>by
  have h1:=h l.1;have h2:tot L l.1=0:=iE fun q hq=>by have:=(List.pairwise_cons.1 hL).1 q hq;omega
  have h3:=pL l (by simp);simp[tot,h2]at h1;omega
 |l::L,m::M,hL,hM,pL,pM,h=>by
  have hL':=List.pairwise_cons.1 hL;have hM':=List.pairwise_cons.1 hM;have p1:=pL l (by simp);have p2:=pM m (by simp);have a1:tot L l.1=0:=iE fun q hq=>by have:=hL'.1 q hq;omega
  have a2:tot M m.1=0:=iE fun q hq=>by have:=hM'.1 q hq;omega
  have e1:l.1=m.1:=by
   rcases (by omega:l.1<m.1\/l.1=m.1\/m.1<l.1)with hlt|he|hlt
   ·have h1:=h l.1
    have a3:tot M l.1=0:=iE fun q hq=>by have:=hM'.1 q hq;omega
    have:¬m.1=l.1:=by omega
    simp[tot,a1,a3,this]at h1;omega
   ·exact he
   ·have h1:=h m.1
    have a3:tot L m.1=0:=iE fun q hq=>by have:=hL'.1 q hq;omega
    have:¬l.1=m.1:=by omega
    simp[tot,a2,a3,this]at h1;omega
  have e2:l.2=m.2:=by
   have h1:=h l.1;rw[e1]at a1;simp[tot,e1,a1,a2]at h1;exact h1
  have e:l=m:=Prod.ext e1 e2;subst e
  congr 1
  refine aKh hL'.2 hM'.2 (fun q hq=>pL q (by simp[hq])) (fun q hq=>pM q (by simp[hq])) fun t=>?_
  have h1:=h t;simp only[tot]at h1;omega
theorem aJU {ps qs:List Pr} (h:ps.Perm qs) (t:Int):tot ps t=tot qs t:=by
 induction h with
 |nil=>rfl
 |cons x _ ih=>simp only[tot,ih]
 |swap x y l=>simp only[tot];omega
 |trans _ _ ih1 ih2=>rw[ih1,ih2]
theorem aGL (ps:List Pr) (x:Pr) (t:Int):tot (cZ ps x) t=tot ps t+if x.1=t then x.2 else 0:=by
 induction ps with
 |nil=>simp[cZ,tot]
 |cons p ps ih=>
  unfold cZ
  split
  ·simp only[tot,ih];omega
  ·split
   ·rename_i h1 h2
    simp only[tot,h2]
    split<;>omega
   ·simp only[tot];omega
theorem qQ {ps:List Pr} {x q:Pr} (h:q ∈ cZ ps x):q.1=x.1\/q ∈ ps:=by
 induction ps with
 |nil=>simp[cZ]at h;exact .inl (by rw[h])
 |cons p ps ih=>
  unfold cZ at h
  split at h
  ·rcases List.mem_cons.1 h with rfl|h
   ·exact .inr (by simp)
   ·rcases ih h with h|h
    ·exact .inl h
    ·exact .inr (by simp[h])
  ·split at h
   ·rcases List.mem_cons.1 h with rfl|h
    ·exact .inl rfl
    ·exact .inr (by simp[h])
   ·rcases List.mem_cons.1 h with rfl|h
    ·exact .inl rfl
    ·exact .inr h
theorem Up.put {ps:List Pr} {x:Pr} (h:Up ps):Up (cZ ps x):=by
 induction ps with
 |nil=>simp[cZ,Up]
 |cons p ps ih=>
  have h':=List.pairwise_cons.1 h;unfold cZ
  split
  ·rename_i hlt
   refine List.pairwise_cons.2 ⟨fun q hq=>?_,ih h'.2⟩;rcases qQ hq with e|hq
   ·rw[e];exact hlt
   ·exact h'.1 q hq
  ·split
   ·rename_i h1 h2
    exact List.pairwise_cons.2 ⟨fun q hq=>by have:=h'.1 q hq;show x.1<q.1;omega,h'.2⟩
   ·rename_i h1 h2
    refine List.pairwise_cons.2 ⟨fun q hq=>?_,h⟩;rcases List.mem_cons.1 hq with rfl|hq
    ·omega
    ·have:=h'.1 q hq;omega
theorem Pos.put {ps:List Pr} {x:Pr} (h:Pos ps) (hx:0<x.2):Pos (cZ ps x):=by
 induction ps with
 |nil=>intro q hq;simp[cZ]at hq;rw[hq];exact hx
 |cons p ps ih=>
  have h1:=h p (by simp);have h2:Pos ps:=fun q hq=>h q (by simp[hq])
  intro q hq;unfold cZ at hq
  split at hq
  ·rcases List.mem_cons.1 hq with rfl|hq
   ·exact h1
   ·exact ih h2 q hq
  ·split at hq
   ·rcases List.mem_cons.1 hq with rfl|hq
    ·show 0<x.2+p.2;omega
    ·exact h2 q hq
   ·rcases List.mem_cons.1 hq with rfl|hq
    ·exact hx
    ·exact h q hq
def eG (ps qs:List Pr):List Pr:=qs.foldl cZ ps
theorem tS (ps qs:List Pr) (hu:Up ps) (hp:Pos ps) (hq:Pos qs):Up (eG ps qs)/\Pos (eG ps qs)/\(eG ps qs).length<=ps.length+qs.length/\∀t,tot (eG ps qs) t=tot ps t+tot qs t:=by
 induction qs generalizing ps with
 |nil=>exact⟨hu,hp,by simp[eG],fun t=>by simp[eG,tot]⟩
 |cons q qs ih=>
  have h1:=ih (cZ ps q) hu.put (hp.put (hq q (by simp))) (fun p hp=>hq p (by simp[hp]));refine⟨h1.1,h1.2.1,?_,fun t=>?_⟩
  ·have:=h1.2.2.1
   have:=aEG ps q;show (eG (cZ ps q) qs).length<=_
   simp;omega
  ·show tot (eG (cZ ps q) qs) t=_
   rw[h1.2.2.2 t,aGL];simp only[tot];omega
theorem aDS {os:List Pr} {j:Nat} (h:os.length=j+1) (x:Pr):os=os.take j++[pr os j]/\os.set j x=os.take j++[x]:=by
 have e:=eA os j (by omega);rw[<-h,List.take_length]at e;refine⟨e,?_⟩;have hl:(os.take j).length=j:=by simp;omega
 conv=>lhs;rw[e]
 rw[List.set_append_right _ _ (by rw[hl];exact Nat.le_refl _),hl,Nat.sub_self]
 rfl
theorem aLy (os:List Pr) (p:Pr) (t:Int):tot (mrg os p) t=tot os t+if p.1=t then p.2 else 0:=by
 by_cases h:0<os.length/\(pr os (os.length - 1)).1=p.1
 ·rw[aDo h.1 h.2]
  obtain⟨j,hj⟩:∃j,os.length=j+1:=⟨os.length - 1,by omega⟩
  have e0:os.length - 1=j:=by omega
  rw[e0]at h ⊢;have e:=aDS hj (p.1,(pr os j).2+p.2);have e1:tot os t=tot (os.take j) t+tot [pr os j] t:=by rw[<-lL, <-e.1]
  rw[e.2,lL,e1];simp only[tot,h.2]
  split<;>omega
 ·rw[aAc h,lL]
  simp[tot]
theorem aJL (ss:List Pr) (t:Int):∀{k:Nat},k<=ss.length->tot (mrgV (ss.take k)) t=tot (ss.take k) t:=by
 intro k
 induction k with
 |zero=>intro _;simp[mrgV,tot]
 |succ k ih=>intro hk;rw[nJ ss k hk,aLy,ih (by omega),aFd ss k t hk]
theorem aKT {ss:List Pr} (hs:qL yK ss):∀{k:Nat},k<=ss.length->Up (mrgV (ss.take k))/\∀q ∈ mrgV (ss.take k),∃i,i<k/\q.1=(pr ss i).1:=by
 intro k
 induction k with
 |zero=>intro _;exact⟨by simp[mrgV,Up],fun q hq=>by simp[mrgV]at hq⟩
 |succ k ih=>
  intro hk;have h:=ih (by omega);rw[nJ ss k hk];generalize mrgV (ss.take k)=os at h ⊢;have le:∀q ∈ os,q.1<=(pr ss k).1:=fun q hq=>by
   obtain⟨i,hi,e⟩:=h.2 q hq;have:=(aFW _ _).1 (hs i k hi hk);omega
  by_cases hc:0<os.length/\(pr os (os.length - 1)).1=(pr ss k).1
  ·rw[aDo hc.1 hc.2]
   obtain⟨j,hj⟩:∃j,os.length=j+1:=⟨os.length - 1,by omega⟩
   have e0:os.length - 1=j:=by omega
   rw[e0]at hc ⊢;have e:=aDS hj ((pr ss k).1,(pr os j).2+(pr ss k).2);rw[e.2];have hu:=h.1;rw[e.1]at hu;refine⟨?_,fun q hq=>?_⟩
   ·have hu':=List.pairwise_append.1 hu
    refine List.pairwise_append.2 ⟨hu'.1,by simp,fun a ha b hb=>?_⟩;simp at hb;subst hb;have:=hu'.2.2 a ha (pr os j) (by simp);show a.1<(pr ss k).1
    rw[<-hc.2];exact this
   ·rcases List.mem_append.1 hq with hq|hq
    ·obtain⟨i,hi,e3⟩:=h.2 q (List.mem_of_mem_take hq)
     exact⟨i,by omega,e3⟩
    ·simp at hq
     subst hq;exact⟨k,by omega,rfl⟩
  ·rw[aAc hc]
   refine⟨List.pairwise_append.2 ⟨h.1,by simp,fun a ha b hb=>?_⟩,fun q hq=>?_⟩
   ·simp at hb
    subst hb;have h0:0<os.length:=List.length_pos_of_mem ha;have hl:(pr os (os.length - 1)).1<(pr ss k).1:=by
     have h1:=le _ (jH (ps:=os) (i:=os.length - 1) (by omega));have h2:¬(pr os (os.length - 1)).1=(pr ss k).1:=fun e=>hc ⟨h0,e⟩
     omega
    obtain⟨i,hi,rfl⟩:=lA ha
    by_cases e:i=os.length - 1
    ·rw[e];exact hl
    ·have:=(h.1.asc).lt (i:=i) (j:=os.length - 1) (by omega) (by omega);omega
   ·rcases List.mem_append.1 hq with hq|hq
    ·obtain⟨i,hi,e3⟩:=h.2 q hq
     exact⟨i,by omega,e3⟩
    ·simp at hq
     subst hq;exact⟨k,by omega,rfl⟩
theorem Pos.mrg {os:List Pr} {p:Pr} (h:Pos os) (hp:0<p.2):Pos (mrg os p):=by
 unfold YtcblbdpdbggkbaaGreat.T.mrg
 split
 ·rename_i hc
  intro q hq;have hl:=h _ (jH (ps:=os) (i:=os.length - 1) (by omega));rcases List.mem_or_eq_of_mem_set hq with h1|h1
  ·exact h q h1
  ·rw[h1];show 0<_+_;omega
 ·intro q hq
  rcases List.mem_append.1 hq with h1|h1
  ·exact h q h1
  ·simp at h1;subst h1;exact hp
theorem Pos.mrgV {ss:List Pr} (h:Pos ss):∀{k:Nat},k<=ss.length->Pos (mrgV (ss.take k)):=by
 intro k
 induction k with
 |zero=>intro _ q hq;simp[YtcblbdpdbggkbaaGreat.T.mrgV]at hq
 |succ k ih=>intro hk;rw[nJ ss k hk];exact (ih (by omega)).mrg (h _ (jH hk))
theorem aHU {ps qs ss:List Pr} (hu:Up ps) (hp:Pos ps) (hq:Pos qs) (hperm:ss.Perm (ps++qs)) (hs:qL yK ss):mrgV ss=eG ps qs:=by
 have hb:=tS ps qs hu hp hq;have hpos:Pos ss:=fun p hp'=>by
  rcases List.mem_append.1 (hperm.mem_iff.1 hp')with h|h
  ·exact hp p h
  ·exact hq p h
 have e:ss.take ss.length=ss:=List.take_length;have h1:=(aKT hs lr_).1;have h2:=hpos.mrgV lr_;have h3:=fun t=>aJL ss t lr_
 rw[e]at h1 h2 h3;exact aKh h1 hb.1 h2 hb.2.1 fun t=>by rw[h3 t,aJU hperm,lL,hb.2.2.2 t]
def iV (ps:List Pr) (la aa:Int) (qs:List Pr) (lb ab:Int):Bool:=dB ps la aa&&(dB qs lb ab&&decide (aa+ab<=2000))
def jY (ps:List Pr) (la aa:Int) (qs:List Pr) (lb ab:Int):Tp:=if iV ps la aa qs lb ab then (oJ (eG ps qs),la+lb+cL (eG ps qs),aa+ab)else aGU
theorem aAi {ps qs:List Pr} {la aa lb ab:Int} (h:iV ps la aa qs lb ab=false):jY ps la aa qs lb ab=aGU:=by simp[jY,h]
theorem aBW {ps qs:List Pr} {la aa lb ab:Int} (h:iV ps la aa qs lb ab=true):jY ps la aa qs lb ab=(oJ (eG ps qs),la+lb+cL (eG ps qs),aa+ab):=by simp[jY,h]
theorem rC (ps:List Pr) (la aa:Int) (qs:List Pr) (lb ab:Int):(dB ps la aa=false/\iV ps la aa qs lb ab=false)\/(dB ps la aa=true/\dB qs lb ab=false/\iV ps la aa qs lb ab=false)\/(dB ps la aa=true/\dB qs lb ab=true/\2000<aa+ab/\iV ps la aa qs lb ab=false)\/(dB ps la aa=true/\dB qs lb ab=true/\aa+ab<=2000/\iV ps la aa qs lb ab=true):=by
 unfold iV;cases h:dB ps la aa
 ·exact .inl ⟨rfl,rfl⟩
 ·cases h':dB qs lb ab
  ·exact .inr (.inl ⟨rfl,rfl,rfl⟩)
  ·by_cases ha:aa+ab<=2000
   ·exact .inr (.inr (.inr ⟨rfl,rfl,ha,by simp[ha]⟩))
   ·exact .inr (.inr (.inl ⟨rfl,rfl,by omega,by simp[ha]⟩))
theorem zN (w:World) (x0 x1 x2 y0 y1 y2:Value):
  cD (((w.alloc (.cells #[x0,x1,x2] 41)).alloc (.cells #[y0,y1,y2] 41)).alloc (.cells #[zn,iv 0,iv 0] 41)) w.heap.size 41 x0 x1 x2/\
  cD (((w.alloc (.cells #[x0,x1,x2] 41)).alloc (.cells #[y0,y1,y2] 41)).alloc (.cells #[zn,iv 0,iv 0] 41)) (w.heap.size+1) 41 y0 y1 y2/\
  cD (((w.alloc (.cells #[x0,x1,x2] 41)).alloc (.cells #[y0,y1,y2] 41)).alloc (.cells #[zn,iv 0,iv 0] 41)) (w.heap.size+1+1) 41 zn (iv 0) (iv 0)/\
  Below w.heap.size w (((w.alloc (.cells #[x0,x1,x2] 41)).alloc (.cells #[y0,y1,y2] 41)).alloc (.cells #[zn,iv 0,iv 0] 41)):=by
 refine⟨((cD.new _ _ _ _ _).alloc _).alloc _,?_,?_,(((Below.refl _ _).alloc lr_ _).alloc (by simp) _).alloc (by simp;omega) _⟩
 ·have h:=cD.new (w.alloc (.cells #[x0,x1,x2] 41)) 41 y0 y1 y2
  have e:(w.alloc (.cells #[x0,x1,x2] 41)).heap.size=w.heap.size+1:=by simp
  rw[e]at h;exact h.alloc _
 ·have h:=cD.new ((w.alloc (.cells #[x0,x1,x2] 41)).alloc (.cells #[y0,y1,y2] 41)) 41 zn (iv 0) (iv 0)
  have e:((w.alloc (.cells #[x0,x1,x2] 41)).alloc (.cells #[y0,y1,y2] 41)).heap.size=w.heap.size+1+1:=by simp
  rw[e]at h;exact h
theorem BdP.tot {M:Int} {ps:List Pr} (h:BdP M ps) (hM:0<=M) (t:Int):0<=tot ps t/\tot ps t<=M * ps.length:=by
 induction ps with
 |nil=>simp[YtcblbdpdbggkbaaGreat.T.tot]
 |cons p ps ih=>
  have h1:=ih (fun q hq=>h q (by simp[hq]));have h2:=h p (by simp);have e:M * ((p::ps).length:Int)=M * (ps.length:Int)+M:=by simp[Int.mul_add]
  rw[e];simp only[YtcblbdpdbggkbaaGreat.T.tot]
  split<;>omega
theorem aJZ {ps qs:List Pr} (ua:Up ps) (ba:BdP 2000 ps) (bb:BdP 2000 qs) (pa:Pos ps) (pb:Pos qs) (lb:qs.length<=4):BdP 16000 (eG ps qs):=fun p hp=>by
 have hb:=tS ps qs ua pa pb;have h0:=hb.2.1 p hp;obtain⟨i,hi,rfl⟩:=lA hp;have e:=hb.1.asc.at hi;rw[hb.2.2.2]at e;have h2:=bb.tot o_ (pr (eG ps qs) i).1;have h1:tot ps (pr (eG ps qs) i).1<=2000:=by
  by_cases hx:∃j,j<ps.length/\(pr ps j).1=(pr (eG ps qs) i).1
  ·obtain⟨j,hj,ej⟩:=hx
   rw[<-ej,ua.asc.at hj];exact (ba.at j hj).2
  ·rw[iE fun q hq ej=>by obtain⟨j,hj,rfl⟩:=lA hq;exact hx ⟨j,hj,ej⟩]
   omega
 omega
theorem qV (w:World) (u v:Value) (ps qs:List Pr) (la aa lb ab:Int) (hp:Prs w u ps) (hq:Prs w v qs) (hno:iV ps la aa qs lb ab=false):
  Calls prog 197 #[.agg #[u,iv la,iv aa],.agg #[v,iv lb,iv ab]] w fun e w'=>e=.returned (.tuple #[.agg #[zn,iv 0,iv 0],.bool false])/\Below w.heap.size w w':=by
 obtain⟨x,ca,rfl,_,_⟩:=hp.form;obtain⟨y,cb,rfl,_,_⟩:=hq.form;obtain⟨na,hna⟩:=nm_ ps.length;obtain⟨nb,hnb⟩:=nm_ qs.length;rw[<-hna]at hp ⊢;rw[<-hnb]at hq ⊢;obtain⟨X0,Y0,R0,hA⟩:=zN w (.slice x na ca) (iv la) (iv aa) (.slice y nb cb) (iv lb) (iv ab)
 obtain⟨W0,hW0⟩:=nm_ (((w.alloc (.cells #[.slice x na ca,iv la,iv aa] 41)).alloc (.cells #[.slice y nb cb,iv lb,iv ab] 41)).alloc (.cells #[zn,iv 0,iv 0] 41));rw[<-hW0]at X0 Y0 R0 hA;have HW0:=hd_ hW0;have HA:=hd_ hA;have PA:=hd_ (hp.below hA lr_);have PB:=hd_ (hq.below hA lr_);have KA:=hd_ (nL W0 _ ps la aa PA.out)
 have KB:Hid (∀W,Below W0.heap.size W0 W->Calls prog 177 #[.agg #[.slice y nb cb,iv lb,iv ab]] W fun e w'=>e=.returned (.bool (dB qs lb ab))/\Below W.heap.size W w'):=fun W h=>nL W _ qs lb ab (PB.out.below h lr_)
 have x0:=X0.cell0;have x1:=X0.cell1;have x2:=X0.cell2;have y0:=Y0.cell0;have y1:=Y0.cell1;have y2:=Y0.cell2;have HC:=hd_ (rC ps la aa qs lb ab);have HNO:=hd_ hno;clear hp hq hna hnb hW0 hA hno;rcases HC.out with ⟨ha,_⟩|⟨ha,hb',_⟩|⟨ha,hb',hs,_⟩|⟨_,_,_,h⟩
 ·rw[ha]at KA
  clear ha KB HC;go_enter func197,ntmps197
  go_wp2_with fail
  rw[<-HW0.out];clear HW0
  go_wp2_with fail
  refine KA.out.mono ?_;rintro e w1 ⟨rfl,hb⟩;have R1:=R0.later hb;have B1:=HA.out.trans (hb.mono HA.out.size);clear x0 x1 x2 y0 y1 y2 X0 Y0 R0 hb;have z0:=R1.cell0;have z1:=R1.cell1;have z2:=R1.cell2;have f2:=R1.free;have RZ:=R1.set zn (iv 0) (iv 0);have hr0:=RZ.cell0;have hr1:=RZ.cell1;have hr2:=RZ.cell2;have BZ:=hd_ (gE (b:=w.heap.size+1+1) B1 o_ zn (iv 0) (iv 0));clear RZ;go_wp2
  exact zAQ
 ·rw[ha]at KA
  rw[hb']at KB;clear ha hb' HC;go_enter func197,ntmps197
  go_wp2_with fail
  rw[<-HW0.out];clear HW0
  go_wp2_with fail
  refine KA.out.mono ?_;rintro e w1 ⟨rfl,hb⟩;have R1:=R0.later hb;have Y1:=Y0.later hb;have B1:=hd_ (HA.out.trans (hb.mono HA.out.size));have KB1:=hd_ (KB.out w1 hb);clear x0 x1 x2 y0 y1 y2 X0 Y0 R0 hb KB;have y0:=Y1.cell0;have y1:=Y1.cell1;have y2:=Y1.cell2
  go_wp2_with fail
  refine KB1.out.mono ?_;rintro e w2 ⟨rfl,hb⟩;have R2:=R1.later hb;have B2:=B1.out.trans (hb.mono B1.out.size);clear y0 y1 y2 Y1 R1 hb;have z0:=R2.cell0;have z1:=R2.cell1;have z2:=R2.cell2;have f2:=R2.free;have RZ:=R2.set zn (iv 0) (iv 0);have hr0:=RZ.cell0;have hr1:=RZ.cell1;have hr2:=RZ.cell2;have BZ:=hd_ (gE (b:=w.heap.size+1+1) B2 o_ zn (iv 0) (iv 0));clear RZ;go_wp2
  exact zAQ
 ·rw[ha]at KA
  rw[hb']at KB;have hPa:=(eX _ _ _).1 ha;have hPb:=(eX _ _ _).1 hb';have a1:=hPa.1.2.2;have a2:=hPb.1.2.2;clear ha hb' HC hPa hPb;go_enter func197,ntmps197
  go_wp2_with fail
  rw[<-HW0.out];clear HW0
  go_wp2_with fail
  refine KA.out.mono ?_;rintro e w1 ⟨rfl,hb⟩;have X1:=X0.later hb;have R1:=R0.later hb;have Y1:=Y0.later hb;have B1:=hd_ (HA.out.trans (hb.mono HA.out.size));have KB1:=hd_ (KB.out w1 hb);clear x0 x1 x2 y0 y1 y2 X0 Y0 R0 hb KB;have y0:=Y1.cell0;have y1:=Y1.cell1;have y2:=Y1.cell2
  go_wp2_with fail
  refine KB1.out.mono ?_;rintro e w2 ⟨rfl,hb⟩;have X2:=X1.later hb;have Y2:=Y1.later hb;have R2:=R1.later hb;have B2:=B1.out.trans (hb.mono B1.out.size);clear y0 y1 y2 Y1 R1 X1 hb;have x2:=X2.cell2;have y2:=Y2.cell2;have z0:=R2.cell0;have z1:=R2.cell1;have z2:=R2.cell2;have f2:=R2.free;have RZ:=R2.set zn (iv 0) (iv 0);have hr0:=RZ.cell0;have hr1:=RZ.cell1;have hr2:=RZ.cell2
  have BZ:=hd_ (gE (b:=w.heap.size+1+1) B2 o_ zn (iv 0) (iv 0));clear RZ;go_wp2;exact zAQ
 ·rw[HNO.out]at h;cases h
def aIs (w:World) (ps qs:List Pr) (w':World) (r:Value):Prop:=aJ w' w.heap.size r (oJ (eG ps qs))/\Below w.heap.size w w'
theorem aBB (w:World) (u v:Value) (ps qs:List Pr) (la aa lb ab:Int) (hp:Prs w u ps) (hq:Prs w v qs) (ha:dB ps la aa=true) (hb':dB qs lb ab=true) (hs:aa+ab<=2000):
  Calls prog 197 #[.agg #[u,iv la,iv aa],.agg #[v,iv lb,iv ab]] w fun e w'=>∃r,e=.returned (.tuple #[.agg #[r,iv (la+lb+cL (eG ps qs)),iv (aa+ab)],.bool true])/\aIs w ps qs w' r:=by
 obtain⟨x,ca,rfl,_,_⟩:=hp.form;obtain⟨y,cb,rfl,_,_⟩:=hq.form;obtain⟨na,hna⟩:=nm_ ps.length;obtain⟨nb,hnb⟩:=nm_ qs.length;rw[<-hna]at hp ⊢;rw[<-hnb]at hq ⊢;obtain⟨X0,Y0,R0,hA⟩:=zN w (.slice x na ca) (iv la) (iv aa) (.slice y nb cb) (iv lb) (iv ab)
 obtain⟨W0,hW0⟩:=nm_ (((w.alloc (.cells #[.slice x na ca,iv la,iv aa] 41)).alloc (.cells #[.slice y nb cb,iv lb,iv ab] 41)).alloc (.cells #[zn,iv 0,iv 0] 41));rw[<-hW0]at X0 Y0 R0 hA;have HW0:=hd_ hW0;have HA:=hd_ hA;have PA:=hd_ (hp.below hA lr_);have PB:=hd_ (hq.below hA lr_);have KA:=hd_ (nL W0 _ ps la aa PA.out)
 have KB:Hid (∀W,Below W0.heap.size W0 W->Calls prog 177 #[.agg #[.slice y nb cb,iv lb,iv ab]] W fun e w'=>e=.returned (.bool (dB qs lb ab))/\Below W.heap.size W w'):=fun W h=>nL W _ qs lb ab (PB.out.below h lr_)
 have x0:=X0.cell0;have x1:=X0.cell1;have x2:=X0.cell2;have y0:=Y0.cell0;have y1:=Y0.cell1;have y2:=Y0.cell2;have hPa:=(eX _ _ _).1 ha;have hPb:=(eX _ _ _).1 hb';have la4:=hPa.1.1;have lb4:=hPb.1.1;have la2:=hPa.1.2.1;have lb2:=hPb.1.2.1;have a1:=hPa.1.2.2;have a2:=hPb.1.2.2;have ba:=hPa.bd;have bb:=hPb.bd;have pa:=hPa.pos;have pb:=hPb.pos;have ua:=hPa.asc.up;rw[ha]at KA;rw[hb']at KB
 have KP:Hid (∀W,Prs W (.slice x na ca) ps->Prs W (.slice y nb cb) qs->Calls prog 251 #[.slice x na ca,.slice y nb cb] W fun e w'=>∃r,e=.returned r/\aJ w' W.heap.size r (eG ps qs)/\Below W.heap.size W w'):=fun W h1 h2=>
  (aAC W _ _ ps qs h1 h2 la4 lb4 ba bb).mono fun e w' ⟨r,he,ss,q1,q2,q3,q4⟩=>⟨r,he,by rw[<-aHU ua pa pb q1 q2];exact q3,q4⟩
 have hbp:=tS ps qs ua pa pb;have LB:Hid ((eG ps qs).length<=8):=by show _<=_;have:=hbp.2.2.1;omega
 have PB':=hd_ hbp.2.1;have BD:Hid (BdP 16000 (eG ps qs)):=aJZ ua ba bb pa pb lb4;have ob:=aA9 (M:=16000) o_ BD.out.at;obtain⟨bs,hbs⟩:=nm_ (eG ps qs);rw[<-hbs]at KP LB PB' BD ob ⊢;obtain⟨ov,hov⟩:=nm_ (cL bs);rw[<-hov]at ob ⊢;have HBS:=hd_ hbs;have HOV:=hd_ hov;have KCU:Hid (∀W r,aJ W W.heap.size r bs->True):=fun _ _ _=>trivial
 clear hp hq hna hnb hW0 hA ha hb' hPa hPb ba bb pa pb ua hbp hbs hov KCU;go_enter func197,ntmps197
 go_wp2_with fail
 rw[<-HW0.out];clear HW0
 go_wp2_with fail
 refine KA.out.mono ?_;rintro e w1 ⟨rfl,hb⟩;have X1:=X0.later hb;have R1:=R0.later hb;have Y1:=Y0.later hb;have B1:=hd_ (HA.out.trans (hb.mono HA.out.size));have PA1:=hd_ (PA.out.below hb lr_);have PB1:=hd_ (PB.out.below hb lr_);have KB1:=hd_ (KB.out w1 hb);clear x0 x1 x2 y0 y1 y2 X0 Y0 R0 hb KB KA PA PB;have y0:=Y1.cell0;have y1:=Y1.cell1;have y2:=Y1.cell2
 go_wp2_with fail
 refine KB1.out.mono ?_;rintro e w2 ⟨rfl,hb⟩;have X2:=X1.later hb;have Y2:=Y1.later hb;have R2:=R1.later hb;have B2:=hd_ (B1.out.trans (hb.mono B1.out.size));have PA2:=hd_ (PA1.out.below hb lr_);have PB2:=hd_ (PB1.out.below hb lr_);clear y0 y1 y2 Y1 R1 X1 hb KB1 PA1 PB1 B1;have x0:=X2.cell0;have x1:=X2.cell1;have x2:=X2.cell2;have y0:=Y2.cell0;have y1:=Y2.cell1;have y2:=Y2.cell2
 go_wp2_with fail
 refine (KP.out w2 PA2.out PB2.out).mono ?_;rintro e w3 ⟨r,rfl,ho3,hb⟩;obtain⟨xr,cr,rfl,_,_⟩:=ho3.form;have X3:=X2.later hb;have Y3:=Y2.later hb;have R3:=R2.later hb;have B3:=hd_ (B2.out.trans (hb.mono B2.out.size));have s23:=hb.size;have KC:=hd_ (aDY w3 w2.heap.size _ bs hb.size ho3 LB.out BD.out PB'.out);have OB3:=hd_ (fun k e=>(World.ownsRow.lt ho3 k e).1)
 generalize bs.length=nbs at KC ⊢;clear x0 x1 x2 y0 y1 y2 X2 Y2 R2 hb ho3 KP PA2 PB2
 go_wp2_with fail
 refine KC.out.mono ?_;rintro e w4 ⟨r,n,rfl,ho4,hn,hb⟩;have X4:=X3.later hb;have Y4:=Y3.later hb;have R4:=R3.later hb;have B4:=hd_ (B3.out.trans (hb.mono B3.out.size));rw[<-HOV.out]at hn;subst hn;obtain⟨xz,cz,rfl,_,_⟩:=ho4.form;obtain⟨cs,hcs⟩:=nm_ (oJ bs);rw[<-hcs]at ho4 ⊢;have HCS:=hd_ hcs;have x1:=X4.cell1;have x2:=X4.cell2;have y1:=Y4.cell1;have y2:=Y4.cell2;have z0:=R4.cell0;have z1:=R4.cell1
 have z2:=R4.cell2;have f2:=R4.free;have RZ:=R4.set (.slice xz cs.length cz) (iv (la+lb+n)) (iv (aa+ab));have hr0:=RZ.cell0;have hr1:=RZ.cell1;have hr2:=RZ.cell2;have OZ:=hd_ ((ho4.set3 (b:=w.heap.size+1+1) (R4.not_row dc_ ho4) (.slice xz cs.length cz) (iv (la+lb+n)) (iv (aa+ab))).base (B':=w.heap.size) (B2.out.size))
 have BZ:=hd_ (gE (b:=w.heap.size+1+1) B4.out o_ (.slice xz cs.length cz) (iv (la+lb+n)) (iv (aa+ab)));have FIN:Hid (aIs w ps qs (((w4.setCell ⟨w.heap.size+1+1,0,none⟩ (.slice xz cs.length cz)).setCell ⟨w.heap.size+1+1,1,none⟩ (iv (la+lb+n))).setCell ⟨w.heap.size+1+1,2,none⟩ (iv (aa+ab))) (.slice xz cs.length cz)):=by
  refine⟨?_,BZ.out⟩;rw[<-HBS.out, <-HCS.out];exact OZ.out
 clear RZ X3 Y3 R3 X4 Y4 R4 ho4 hb hcs OZ BZ;go_wp2;exact bodyPost_ret (v:=.tuple #[.agg #[.slice xz cs.length cz,iv (la+lb+n),iv (aa+ab)],.bool true]) (by simp[results,results197,go_sem,hr0,hr1,hr2]) rfl ⟨_,rfl,FIN.out⟩
theorem vI (w:World) (u v:Value) (ps qs:List Pr) (la aa lb ab:Int) (hp:Prs w u ps) (hq:Prs w v qs):
  Calls prog 197 #[.agg #[u,iv la,iv aa],.agg #[v,iv lb,iv ab]] w fun e w'=>∃r,e=.returned (.tuple #[.agg #[r,.int .i64 (jY ps la aa qs lb ab).2.1,.int .i64 (jY ps la aa qs lb ab).2.2],.bool (iV ps la aa qs lb ab)])/\aJ w' w.heap.size r (jY ps la aa qs lb ab).1/\Below w.heap.size w w':=by
 rcases rC ps la aa qs lb ab with ⟨_,h⟩|⟨_,_,h⟩|⟨_,_,_,h⟩|⟨ha,hb,hs,h⟩
 ·exact zA3
 ·exact zA3
 ·exact zA3
 ·rw[aBW h,h]
  exact (aBB w u v ps qs la aa lb ab hp hq ha hb hs).mono fun e w' ⟨r,he,ho,hb⟩=>⟨r,he,ho,hb⟩
theorem aI3 (t:Int):dB [(t,1)] 0 1=isT t:=by
 have h:uP [(t,1)] 0 1↔(0<=t/\t<64):=by
  unfold uP
  constructor
  ·intro h
   have:=(h.2.1 0 (by simp)).1.1;simp[pr]at this;omega
  ·intro h
   refine⟨⟨by simp,o_,o_⟩,fun i hi=>?_,by simp[bW]⟩;simp at hi;subst hi;refine⟨⟨?_,?_⟩,fun h=>absurd h (Nat.lt_irrefl _)⟩
   ·simp[pr];omega
   ·simp[pr]
 simp[dB,isT,h]
theorem vA (ps:List Pr) (lost all t:Int):iV ps lost all [(t,1)] 0 1=iR ps lost all t:=by
 unfold iV iR;rw[aI3]
 congr 2
theorem yU (ps:List Pr) (lost all t:Int):jY ps lost all [(t,1)] 0 1=iL ps lost all t:=by
 unfold jY iL;rw[vA];simp[eG]
theorem aD5 (w:World) (u:Value) (ps:List Pr) (lost all t:Int) (hp:Prs w u ps):
  Calls prog 233 #[.agg #[u,iv lost,iv all],iv t] w fun e w'=>∃r,e=.returned (.tuple #[.agg #[r,.int .i64 (iL ps lost all t).2.1,.int .i64 (iL ps lost all t).2.2],.bool (iR ps lost all t)])/\aJ w' w.heap.size r (iL ps lost all t).1/\Below w.heap.size w w':=by
 obtain⟨x,c,rfl,_,_⟩:=hp.form;obtain⟨n,hn⟩:=nm_ ps.length;rw[<-hn]at hp ⊢;obtain⟨W0,hW0⟩:=nm_ ((w.alloc (.cells #[.slice x n c,iv lost,iv all] 41)).alloc (.cells #[zn,iv 0,iv 0] 41));have X0:cD W0 w.heap.size 41 (.slice x n c) (iv lost) (iv all):=by rw[hW0];exact (cD.new _ _ _ _ _).alloc _
 have R0:cD W0 (w.heap.size+1) 41 zn (iv 0) (iv 0):=by
  exact zAH
 have B0:Hid (Below w.heap.size w W0):=by show Below _ _ _;rw[hW0];exact ((Below.refl _ _).alloc lr_ _).alloc (by simp) _
 have s0:W0.heap.size=w.heap.size+2:=by rw[hW0];simp
 obtain⟨W1,hW1⟩:=nm_ (W0.alloc (.cells #[iv t,iv 1] 213));have B1:Hid (Below w.heap.size w W1):=by show Below _ _ _;rw[hW1];exact B0.out.alloc B0.out.size _
 have R1:cD W1 (w.heap.size+1) 41 zn (iv 0) (iv 0):=by rw[hW1];exact R0.alloc _
 have Q1:Hid (Prs W1 (.slice (some ⟨w.heap.size+2,0,none⟩) 1 1) [(t,1)]):=by
  refine .inr ⟨w.heap.size+2,0,1,rfl,Nat.le_refl _,by simp[maxLen],by rw[hW1, <-s0];simp,fun i hi=>?_⟩;simp at hi;subst hi;rw[hW1, <-s0]
  constructor
  ·show (W0.alloc _).cell? ⟨W0.heap.size,0,none⟩=_;simp[pr]
  ·show (W0.alloc _).cell? ⟨W0.heap.size,1,none⟩=_;simp[pr]
 have K:=hd_ (vI W1 (.slice x n c) (.slice (some ⟨w.heap.size+2,0,none⟩) 1 1) ps [(t,1)] lost all 0 1 (hp.below B1.out lr_) Q1.out);rw[yU,vA]at K;obtain⟨T,hT⟩:=nm_ (iL ps lost all t);obtain⟨ok,hok⟩:=nm_ (iR ps lost all t);rw[<-hT, <-hok]at K ⊢;have HW0:=hd_ hW0;have HW1:=hd_ hW1;obtain⟨zs,lo,al⟩:=T;simp only at K ⊢;have x0:=X0.cell0;have x1:=X0.cell1;have x2:=X0.cell2
 have S0:=hd_ s0;have e2:w.heap.size+2=w.heap.size+1+1:=rfl;clear hp hn hW0 hW1 hT hok s0 e2;go_enter func233,ntmps233
 go_wp2_with fail
 rw[<-HW0.out];clear HW0
 go_wp2_with fail
 rw[<-HW1.out];clear HW1;refine K.out.mono ?_;rintro e w3 ⟨r,rfl,ho3,hb⟩;have R3:=R1.later hb;obtain⟨xz,cz,rfl,_,_⟩:=ho3.form;have z0:=R3.cell0;have z1:=R3.cell1;have z2:=R3.cell2;have f2:=R3.free;have RZ:=R3.set (.slice xz zs.length cz) (iv lo) (iv al);have hr0:=RZ.cell0;have hr1:=RZ.cell1;have hr2:=RZ.cell2;have B3:=B1.out.trans (hb.mono B1.out.size)
 have OZ:=hd_ ((ho3.set3 (b:=w.heap.size+1) (R3.not_row dc_ ho3) (.slice xz zs.length cz) (iv lo) (iv al)).base (B':=w.heap.size) (B1.out.size));have BZ:=hd_ (gE (b:=w.heap.size+1) B3 (Nat.le_succ _) (.slice xz zs.length cz) (iv lo) (iv al));clear RZ R3 R1 R0 X0 ho3 hb B3 x0 x1 x2;go_wp2
 exact bodyPost_ret (v:=.tuple #[.agg #[.slice xz zs.length cz,iv lo,iv al],.bool ok]) (by simp[results,results233,go_sem,hr0,hr1,hr2]) rfl ⟨_,rfl,OZ.out,BZ.out⟩
def mF:List Pr->Int
 | []=>0
 |p::ps=>p.2+mF ps
theorem yZ {ps:List Pr} (h:∀p ∈ ps,0<=p.2):0<=mF ps:=by
 induction ps with
 |nil=>simp[mF]
 |cons p ps ih=>
  have:=h p (by simp);have:=ih (fun q hq=>h q (by simp[hq]));simp only[mF];omega
theorem aKf {ps:List Pr} (h:∀p ∈ ps,0<=p.2) {p:Pr} (hp:p ∈ ps):p.2<=mF ps:=by
 induction ps with
 |nil=>cases hp
 |cons q ps ih=>
  have h0:=h q (by simp);have h1:=yZ (fun q hq=>h q (by simp[hq]):∀q ∈ ps,0<=q.2);simp only[mF];rcases List.mem_cons.1 hp with rfl|hp
  ·omega
  ·have:=ih (fun q hq=>h q (by simp[hq])) hp
   omega
theorem aJ4 (ps:List Pr) (x:Pr):mF (cZ ps x)=mF ps+x.2:=by
 induction ps with
 |nil=>simp[cZ,mF]
 |cons q ps ih=>
  unfold cZ
  split
  ·simp only[mF,ih];omega
  ·split
   ·simp only[mF];omega
   ·simp only[mF];omega
theorem aHa (ps qs:List Pr):mF (eG ps qs)=mF ps+mF qs:=by
 unfold eG
 induction qs generalizing ps with
 |nil=>simp[mF]
 |cons q qs ih=>
  simp only[List.foldl_cons,mF,ih,aJ4];omega
theorem iU (p:Pr) (ps:List Pr) (n:Int):bZ (p::ps) n=bZ ps n+if n<=p.2 then 1 else 0:=by
 unfold bZ
 by_cases h:n<=p.2<;>simp[h]
theorem aH6 {ps:List Pr} {n:Int} (hn:0<=n) (h:∀p ∈ ps,0<=p.2):mF (cG ps n)+n * (bZ ps n:Int)<=mF ps:=by
 induction ps with
 |nil=>simp[cG,mF,bZ]
 |cons p ps ih=>
  have h0:=h p (by simp);have:=ih (fun q hq=>h q (by simp[hq]));rw[iU];unfold cG
  by_cases h1:n<p.2
  ·rw[if_pos h1,if_pos (by omega)]
   simp only[mF];rw[show ((bZ ps n+1:Nat):Int)=(bZ ps n:Int)+1 by omega,Int.mul_add];omega
  ·rw[if_neg h1]
   simp only[mF]
   by_cases h2:n<=p.2
   ·rw[if_pos h2,show ((bZ ps n+1:Nat):Int)=(bZ ps n:Int)+1 by omega,Int.mul_add]
    omega
   ·rw[if_neg h2,Nat.add_zero];omega
theorem vV {ps:List Pr} {n:Int} {p:Pr} (h:p ∈ cG ps n):∃q ∈ ps,q.1=p.1/\n<q.2/\p.2=q.2 - n:=by
 induction ps with
 |nil=>cases h
 |cons q ps ih=>
  unfold cG at h
  split at h
  ·rcases List.mem_cons.1 h with rfl|h
   ·exact⟨q,by simp,rfl,by assumption,rfl⟩
   ·obtain⟨q',hq,r⟩:=ih h
    exact⟨q',by simp[hq],r⟩
  ·obtain⟨q',hq,r⟩:=ih h
   exact⟨q',by simp[hq],r⟩
theorem Up.less {ps:List Pr} (h:Up ps) (n:Int):Up (cG ps n):=by
 unfold Up at h ⊢
 induction ps with
 |nil=>simp[cG]
 |cons p ps ih=>
  rw[List.pairwise_cons]at h;unfold cG
  split
  ·rw[List.pairwise_cons]
   refine⟨fun q hq=>?_,ih h.2⟩;obtain⟨q',hq',e,_⟩:=vV hq;have:=h.1 q' hq';simp only;omega
  ·exact ih h.2
theorem aJo (ps:List Pr) (n:Int):(cG ps n).length<=bZ ps (n+1):=by
 induction ps with
 |nil=>simp[cG]
 |cons p ps ih=>
  rw[iU];unfold cG
  split
  ·rw[if_pos (by omega)];simp;omega
  ·omega
theorem aGe (ps:List Pr) {m n:Int} (h:m<=n):bZ ps n<=bZ ps m:=by
 induction ps with
 |nil=>simp[bZ]
 |cons p ps ih=>
  rw[iU,iU]
  split<;>split<;>omega
theorem aEw {ps:List Pr} {n:Int} (h:0<bZ ps n):∃i,i<ps.length/\n<=(pr ps i).2/\bZ ps (pr ps i).2=bZ ps n:=by
 -- the least number of those that have at least n
 have h':∃l:List Pr,l=ps.filter fun p=>decide (n<=p.2):=⟨_,rfl⟩
 obtain⟨l,hl⟩:=h';have key:∀l:List Pr,l≠[]->∃p ∈ l,∀q ∈ l,p.2<=q.2:=by
  intro l
  induction l with
  |nil=>intro h;exact absurd rfl h
  |cons x l ih=>
   intro _
   by_cases e:l=[]
   ·subst e;exact⟨x,by simp,by simp⟩
   ·obtain⟨p,hp,hq⟩:=ih e
    by_cases hx:x.2<=p.2
    ·refine⟨x,by simp,fun q hq'=>?_⟩
     rcases List.mem_cons.1 hq' with rfl|hq'
     ·omega
     ·have:=hq q hq';omega
    ·refine⟨p,by simp[hp],fun q hq'=>?_⟩
     rcases List.mem_cons.1 hq' with rfl|hq'
     ·omega
     ·exact hq q hq'
 have hne:l≠[]:=by
  intro e;unfold bZ at h;rw[<-hl,e]at h;simp at h
 obtain⟨p,hp,hq⟩:=key l hne;rw[hl]at hp;have hp2:=List.mem_filter.1 hp;obtain⟨i,hi,rfl⟩:=lA hp2.1;have hn:n<=(pr ps i).2:=by simpa using hp2.2
 refine⟨i,hi,hn,Nat.le_antisymm (aGe ps hn) ?_⟩;unfold bZ;have:∀ms:List Pr,(∀q ∈ ms,n<=q.2->(pr ps i).2<=q.2)->(ms.filter fun p=>decide (n<=p.2)).length<=(ms.filter fun p=>decide ((pr ps i).2<=p.2)).length:=by
  intro ms
  induction ms with
  |nil=>intro _;simp
  |cons x ms ih=>
   intro hm;have:=ih (fun q hq=>hm q (by simp[hq]));have hx:=hm x (by simp)
   by_cases h1:n<=x.2
   ·have:=hx h1
    simp[h1,this];omega
   ·by_cases h2:(pr ps i).2<=x.2
    ·simp[h1,h2];omega
    ·simp[h1,h2];omega
 exact this ps (fun q hqm hqn=>hq q (by rw[hl];exact List.mem_filter.2 ⟨hqm,by simpa using hqn⟩))
theorem aIV {ps:List Pr} (h:∀p ∈ ps,0<=p.2):(oJ ps).length<=4:=by
 refine Decidable.byContradiction fun hc=>?_
 have h1:=aJo ps (cL ps);unfold oJ at hc;have h2:4<bZ ps (cL ps+1):=by omega
 obtain⟨i,hi,hn,he⟩:=aEw (ps:=ps) (n:=cL ps+1) (by omega);have:=aEg (ps:=ps) (k:=ps.length) (i:=i) hi (by omega);have e:cL ps=jZ ps ps.length:=rfl;omega
theorem aEl {ps:List Pr} (h:∀p ∈ ps,0<=p.2):mF (oJ ps)+cL ps * 5<=mF ps/\0<=cL ps:=by
 have ov:0<=cL ps/\(0<cL ps->5<=bZ ps (cL ps)):=by
  rcases wD ps (k:=ps.length) lr_ with e|⟨i,hi,hc,e⟩
  ·have e':cL ps=0:=e
   omega
  ·have e':(pr ps i).2=cL ps:=e
   have:=h _ (jH hi);rw[e']at hc this;omega
 refine⟨?_,ov.1⟩;have hs:=aH6 ov.1 h
 by_cases h0:0<cL ps
 ·have h5:=ov.2 h0
  have:cL ps * 5<=cL ps * (bZ ps (cL ps):Int):=Int.mul_le_mul_of_nonneg_left (by omega) ov.1;unfold oJ;omega
 ·have e0:cL ps=0:=by omega
  unfold oJ;rw[e0]at hs ⊢;omega
theorem aB5 (ps:List Pr):bW ps=mF ps:=by
 induction ps with
 |nil=>rfl
 |cons p ps ih=>simp[bW,mF]at ih ⊢;omega
theorem aF1 {ps qs:List Pr} {la aa lb ab:Int} (A:uP ps la aa) (B:uP qs lb ab) {q:Pr} (h:q ∈ eG ps qs):0<=q.1/\q.1<=63:=by
 have key:∀(qs ps:List Pr),(∀p ∈ ps,0<=p.1/\p.1<=63)->(∀p ∈ qs,0<=p.1/\p.1<=63)->∀q ∈ eG ps qs,0<=q.1/\q.1<=63:=by
  intro qs
  induction qs with
  |nil=>intro ps h1 _ q hq;exact h1 q hq
  |cons x qs ih=>
   intro ps h1 h2 q hq;refine ih (cZ ps x) (fun p hp=>?_) (fun p hp=>h2 p (by simp[hp])) q hq;rcases qQ hp with e|hp
   ·rw[e];exact h2 x (by simp)
   ·exact h1 p hp
 refine key qs ps (fun p hp=>?_) (fun p hp=>?_) q h
 ·obtain⟨i,hi,rfl⟩:=lA hp
  exact (A.2.1 i hi).1.1
 ·obtain⟨i,hi,rfl⟩:=lA hp
  exact (B.2.1 i hi).1.1
theorem aIv {ps qs:List Pr} {la aa lb ab:Int} (h:iV ps la aa qs lb ab=true):dB (jY ps la aa qs lb ab).1 (jY ps la aa qs lb ab).2.1 (jY ps la aa qs lb ab).2.2=true:=by
 rcases rC ps la aa qs lb ab with ⟨_,h'⟩|⟨_,_,h'⟩|⟨_,_,_,h'⟩|⟨ha,hb,hs,_⟩
 ·exact zBu
 ·exact zBu
 ·exact zBu
 rw[aBW h];have A:=(eX _ _ _).1 ha;have B:=(eX _ _ _).1 hb;obtain⟨bu,bp,_,bt⟩:=tS ps qs A.asc.up A.pos B.pos;have nn:∀p ∈ eG ps qs,0<=p.2:=fun p hp=>by have:=bp p hp;omega
 have c4:=aIV nn;obtain⟨c5,o0⟩:=aEl nn;have sb:=aHa ps qs;have fa:=A.2.2;have fb:=B.2.2;have a1:=A.1.2;have b1:=B.1.2;rw[aB5]at fa fb;have cn:∀p ∈ oJ (eG ps qs),0<p.2:=fun p hp=>by
  obtain⟨q,_,_,h1,h2⟩:=vV hp;omega
 have cu:Up (oJ (eG ps qs)):=bu.less _;have cs:=yZ (fun p hp=>by have:=cn p hp;omega:∀p ∈ oJ (eG ps qs),0<=p.2);show dB (oJ (eG ps qs)) (la+lb+cL (eG ps qs)) (aa+ab)=true
 refine (eX _ _ _).2 ⟨⟨c4,⟨by omega,by omega⟩,by omega,by omega⟩,fun i hi=>⟨⟨?_,?_⟩,fun h0=>cu.asc i h0 hi⟩,by rw[aB5];omega⟩
 ·obtain⟨q,hq,e,_⟩:=vV (jH hi)
  have:=aF1 A B hq;rw[e]at this;exact this
 ·have m1:=cn _ (jH hi)
  have m2:=aKf (fun p hp=>by have:=cn p hp;omega:∀p ∈ oJ (eG ps qs),0<=p.2) (jH hi);omega
theorem aJV (ps:List Pr) (t n:Int) (hn:2<=n):bZ (cZ ps (t,1)) n<=ps.length:=by
 induction ps with
 |nil=>simp[cZ,bZ,List.filter_cons];omega
 |cons q ps ih=>
  have:=wE ps n;unfold cZ
  split
  ·rw[iU];split<;>simp<;>omega
  ·split
   ·rw[iU];split<;>simp<;>omega
   ·rw[iU,iU];split<;>split<;>simp_all<;>omega
theorem aJb {ps:List Pr} (h:Up ps) {n:Int} (hn:0<=n) (hp:∀p ∈ ps,0<=p.2) (t:Int):tot (cG ps n) t<=tot ps t/\tot ps t<=tot (cG ps n) t+n:=by
 unfold Up at h
 induction ps with
 |nil=>simp[cG,tot];omega
 |cons p ps ih=>
  rw[List.pairwise_cons]at h;have i:=ih h.2 (fun q hq=>hp q (by simp[hq]));have p0:=hp p (by simp)
  by_cases e:p.1=t
  ·have z:tot ps t=0:=iE fun q hq=>by have:=h.1 q hq;omega
   have z':tot (cG ps n) t=0:=iE fun q hq=>by
    obtain⟨q',hq',e',_⟩:=vV hq;have:=h.1 q' hq';omega
   unfold cG
   split<;>simp only[tot,e,if_true,z,z']<;>omega
  ·unfold cG
   split<;>simp only[tot,if_neg e]<;>omega
theorem aJR {ps:List Pr} {lost all t:Int} (h:iR ps lost all t=true):dB (iL ps lost all t).1 (iL ps lost all t).2.1 (iL ps lost all t).2.2=true/\(iL ps lost all t).2.2=all+1/\(0<=(iL ps lost all t).2.1 - lost/\(iL ps lost all t).2.1 - lost<=1)/\tot (iL ps lost all t).1 t<=tot ps t+1/\tot ps t+lost<=tot (iL ps lost all t).1 t+(iL ps lost all t).2.1:=by
 refine⟨?_,?_⟩
 ·have:=aIv (ps:=ps) (la:=lost) (aa:=all) (qs:=[(t,1)]) (lb:=0) (ab:=1) (by rw[vA];exact h)
  rwa[yU]at this
 rcases oO ps lost all t with ⟨_,h'⟩|⟨_,_,h'⟩|⟨_,_,_,h'⟩|⟨ha,ht,hs,_⟩
 ·exact zBu
 ·exact zBu
 ·exact zBu
 rw[aDN h];have A:=(eX _ _ _).1 ha;have up:Up (cZ ps (t,1)):=A.asc.up.put;have pp:Pos (cZ ps (t,1)):=A.pos.put (by simp);have nn:∀p ∈ cZ ps (t,1),0<=p.2:=fun p hp=>by have:=pp p hp;omega
 have o0:=(aEl nn).2;have o1:cL (cZ ps (t,1))<=1:=by
  refine Decidable.byContradiction fun hc=>?_
  rcases wD (cZ ps (t,1)) (k:=(cZ ps (t,1)).length) lr_ with e|⟨i,hi,hk,e⟩
  ·have e':cL (cZ ps (t,1))=0:=e
   omega
  ·have e':(pr (cZ ps (t,1)) i).2=cL (cZ ps (t,1)):=e
   have:=aJV ps t (pr (cZ ps (t,1)) i).2 (by omega);have:=A.1.1;omega
 obtain⟨t1,t2⟩:=aJb up o0 nn t;have tp:=aGL ps (t,1) t;simp only[if_true]at tp;refine⟨rfl,⟨by simp only;omega,by simp only;omega⟩,?_,?_⟩
 ·show tot (cG (cZ ps (t,1)) (cL (cZ ps (t,1)))) t<=_
  omega
 ·show _<=tot (cG (cZ ps (t,1)) (cL (cZ ps (t,1)))) t+(lost+cL (cZ ps (t,1)))
  omega
structure aKQ (ps:List Pr) (lost all t:Int) (ns:List Pr) (nl na:Int):Prop where
 was:dB ps lost all=true
 top:dB ns nl na=true
 thing:0<=t/\t<64
 all':0<=all/\all<2000
 na':na=all+1
 nl':0<=nl - lost/\nl - lost<=1
 ge:tot ns t<=tot ps t+1
 le:tot ps t+lost<=tot ns t+nl
 old:0<=tot ps t/\tot ps t<=2000
 new:0<=tot ns t/\tot ns t<=2000
 lost':0<=lost/\lost<=2000
theorem aKS {ps:List Pr} {lost all t:Int} (h:iR ps lost all t=true):aKQ ps lost all t (iL ps lost all t).1 (iL ps lost all t).2.1 (iL ps lost all t).2.2:=by
 obtain⟨a,b,c,d,e⟩:=aJR h;rcases oO ps lost all t with ⟨_,h'⟩|⟨_,_,h'⟩|⟨_,_,_,h'⟩|⟨ha,ht,hs,_⟩
 ·exact zBu
 ·exact zBu
 ·exact zBu
 have A:=(eX _ _ _).1 ha;have B:=(eX _ _ _).1 a;exact⟨ha,a,by omega,⟨A.1.2.2.1,hs⟩,b,c,d,e,aKv A.2.1 A.asc,aKv B.2.1 B.asc,A.1.2.1⟩
end Go.Proofs.YtcblbdpdbggkbaaGreat.T

namespace Go.Proofs.YtcblbdpdbggkbaaGreat
open _root_.Go.Proofs.Tryz
open Go.RowKit Go.Sort
theorem M.more {B a k k':Nat} {w0 w:World} {l:List Ch} (h:M B w0 w (rdC w0 B a k::l)) (hk:k<=k'):M B w0 w (rdC w0 B a k'::l):=
 h.to fun f hf nd=>by
  exact zBx
namespace N
section
variable {B a k:Nat} {w0 w:World} {l:List Ch}
theorem tZ (w:World):w.drew.heap.size=w.heap.size:=rfl
theorem aKI (t:Int) {n:Nat} (h:n<5):∃u:Int,(#[iv 3,iv 5,iv 9,iv 17,iv t]:Array Value)[n]? =some (.int .i64 u):=by
 obtain rfl|rfl|rfl|rfl|rfl:n=0\/n=1\/n=2\/n=3\/n=4:=o_
 all_goals exact⟨_,rfl⟩
theorem aMe (x y z:Int) {n:Nat} (h:n<3):∃u:Int,(#[iv x,iv y,iv z]:Array Value)[n]? =some (.int .i64 u):=by
 obtain rfl|rfl|rfl:n=0\/n=1\/n=2:=o_
 all_goals exact⟨_,rfl⟩
theorem aEV (h:M B w0 w (rdC w0 B a k::l)) (hk:k<=99900):Calls prog 261 #[.pointer (some ⟨a,0,Option.none⟩)] w fun e w'=>∃x y z:Int,e=.returned (.agg #[iv x,iv y,iv z])/\M B w0 w' (rdC w0 B a (k+4)::l):=by
 have H:=hd_ (h.alloc #[iv 0,iv 0,iv 0] 292).p1;clear h;go_enter func261,ntmps261
 go_wp2_with fail
 refine (H.out.pick o_ 20 o_ o_).mono ?_;rintro e w1 ⟨p1,rfl,p10,p11,h1⟩;have H1:=hd_ h1;clear h1;obtain q|q|q|q|q|q|q|q|q|q|q|q|q|q|q|q|q|q|q|q:p1=0\/p1=1\/p1=2\/p1=3\/p1=4\/p1=5\/p1=6\/p1=7\/p1=8\/p1=9\/p1=10\/p1=11\/p1=12\/p1=13\/p1=14\/p1=15\/p1=16\/p1=17\/p1=18\/p1=19:=o_
 ·exact ze
 ·exact ze
 ·exact ze
 ·exact ze
 ·exact zy
 ·exact zy
 ·exact zy
 ·exact zx
 ·exact zx
 ·exact zx
 ·exact zk
 ·exact zk
 ·exact zk
 ·exact zk
 ·exact zk
 ·subst q
  clear p10 p11
  go_wp2_with fail
  refine (H1.out.pick o_ 5 o_ o_).mono ?_;rintro e w2 ⟨p2,rfl,p20,p21,h2⟩;have H2:=hd_ h2;clear h2;have hr2:=H2.out.p1.cells3;obtain⟨r0,r1,r2⟩:=hr2;have rf:=H2.out.p1.free;have F:=hd_ (H2.out.p1.set3 (iv 5) (iv p2) (iv 0));go_wp2;obtain⟨d0,d1,d2⟩:=F.out.cells3;refine bodyPost_ret (v:=.agg #[iv 5,iv p2,iv 0]) (by simp[results,results261,go_sem,d0,d1,d2]) rfl ⟨_,_,_,rfl,(F.out.drop).more o_⟩
 ·subst q
  clear p10 p11
  go_wp2_with fail
  refine (H1.out.pick o_ 6 o_ o_).mono ?_;rintro e w2 ⟨p2,rfl,p20,p21,h2⟩;have H2:=hd_ h2;clear h2;have hr2:=H2.out.p1.cells3;obtain⟨r0,r1,r2⟩:=hr2;have rf:=H2.out.p1.free;have F:=hd_ (H2.out.p1.set3 (iv 6) (iv p2) (iv 0));go_wp2;obtain⟨d0,d1,d2⟩:=F.out.cells3;refine bodyPost_ret (v:=.agg #[iv 6,iv p2,iv 0]) (by simp[results,results261,go_sem,d0,d1,d2]) rfl ⟨_,_,_,rfl,(F.out.drop).more o_⟩
 ·subst q
  clear p10 p11;have hr1:=H1.out.p1.cells3;obtain⟨r0,r1,r2⟩:=hr1;have rf:=H1.out.p1.free;have F:=hd_ (H1.out.p1.set3 (iv 8) (iv 0) (iv 0));go_wp2;obtain⟨d0,d1,d2⟩:=F.out.cells3;refine bodyPost_ret (v:=.agg #[iv 8,iv 0,iv 0]) (by simp[results,results261,go_sem,d0,d1,d2]) rfl ⟨_,_,_,rfl,(F.out.drop).more o_⟩
 ·subst q
  clear p10 p11;go_upto_region 28 with fail
  have HD:=hd_ H1.out.drew
  refine aC 10 (.take 1 (.take 5 (.take 7 (.alt 0 (.alt 2 (.take 3 (.alt 4 (.alt 6 (.alt 8 (.take 9 (.alt 10 .done .nomore)) .nomore) .nomore) (.alt 6 (.alt 4 (.alt 8 (.take 9 (.alt 10 .done .nomore)) .nomore) (.alt 8 (.alt 4 (.take 9 (.alt 10 .done .nomore)) .nomore) .nomore)) .nomore))) .nomore) (.alt 2 (.alt 0 (.take 3 (.alt 4 (.alt 6 (.alt 8 (.take 9 (.alt 10 .done .nomore)) .nomore) .nomore) (.alt 6 (.alt 4 (.alt 8 (.take 9 (.alt 10 .done .nomore)) .nomore) (.alt 8 (.alt 4 (.take 9 (.alt 10 .done .nomore)) .nomore) .nomore)) .nomore))) (.alt 6 (.alt 0 (.take 3 (.alt 4 (.alt 8 (.take 9 (.alt 10 .done .nomore)) .nomore) (.alt 8 (.alt 4 (.take 9 (.alt 10 .done .nomore)) .nomore) .nomore))) (.alt 8 (.alt 0 (.take 3 (.alt 4 (.take 9 (.alt 10 .done .nomore)) .nomore)) .nomore) .nomore)) .nomore)) .nomore))))) (fun _=>True) kr_ kr_ (fun _ _ _ _ _ h=>h) trivial ?_
  repeat (first|refine tA_ ?_|refine tB_ ?_)
  refine bP r_ (fun K' hK=>?_) ?_
  ·skip
   go_simp;have hh:=(HD.out.alloc #[iv 9,iv 10,iv 10] 3).p1
   (try rw[tZ]at hh)
   have HDa:=hd_ hh;clear hh;refine hK _ _ (.inr trivial) ?_;clear hK K'
   try refine tP_ ?_
   refine aB r_ (fun K' hK=>?_);go_simp;refine (HDa.out.pick o_ 3 o_ o_).mono ?_;rintro e w2 ⟨p2,rfl,p20,p21,hh⟩;have HDab:=hd_ hh;clear hh;obtain⟨n,hn⟩:∃n:Nat,p2=n:=⟨p2.toNat,o_⟩
   subst hn;obtain⟨u5,hu5⟩:=aMe 9 10 10 (n:=n) o_;have nn:n<3:=o_;have n0:(0:Int)<=(n:Int):=o_;have n3:(n:Int)<3:=o_;have HU:=hd_ hu5;clear hu5 p20 p21;refine hK _ _ (.inr trivial) ?_;clear hK K'
   try refine tP_ ?_
   repeat (first|refine tA_ ?_|refine tB_ ?_)
   refine bP r_ (fun K' hK=>?_) ?_
   ·skip
    have g5:=HDab.out.p1.cell HU.out;go_simp;refine hK _ _ (.inr trivial) ?_;clear hK K'
    try refine tP_ ?_
    refine aB r_ (fun K' hK=>?_);go_simp;refine (HDab.out.pick o_ 5 o_ o_).mono ?_;rintro e w6 ⟨p6,rfl,p60,p61,hh⟩;have HDabb:=hd_ hh;clear hh;exact zAZ
   ·skip
    refine aB r_ (fun K' hK=>?_)
    skip
    go_simp;refine (HDab.out.pick o_ 5 o_ o_).mono ?_;rintro e w6 ⟨p6,rfl,p60,p61,hh⟩;have HDabb:=hd_ hh;clear hh;refine hK _ _ (.inr trivial) ?_;clear hK K'
    try refine tP_ ?_
    refine bP r_ (fun K' hK=>?_) ?_
    ·skip
     have g5:=HDabb.out.p1.cell HU.out;go_simp;exact zAZ
    ·skip
     refine aB r_ (fun K' hK=>?_)
     skip
     go_simp;refine (HDabb.out.pick o_ 5 o_ o_).mono ?_;rintro e w8 ⟨p8,rfl,p80,p81,hh⟩;have HDabbb:=hd_ hh;clear hh;refine hK _ _ (.inr trivial) ?_;clear hK K'
     try refine tP_ ?_
     refine aB r_ (fun K' hK=>?_);have g5:=HDabbb.out.p1.cell HU.out;go_simp;exact zAi
  ·skip
   refine aB r_ (fun K' hK=>?_)
   skip
   go_simp;refine (HD.out.pick o_ 3 o_ o_).mono ?_;rintro e w2 ⟨p2,rfl,p20,p21,hh⟩;have HDb:=hd_ hh;clear hh;obtain⟨n,hn⟩:∃n:Nat,p2=n:=⟨p2.toNat,o_⟩
   subst hn;obtain⟨u5,hu5⟩:=aMe 9 10 10 (n:=n) o_;have nn:n<3:=o_;have n0:(0:Int)<=(n:Int):=o_;have n3:(n:Int)<3:=o_;have HU:=hd_ hu5;clear hu5 p20 p21;refine hK _ _ (.inr trivial) ?_;clear hK K'
   try refine tP_ ?_
   refine bP r_ (fun K' hK=>?_) ?_
   ·skip
    go_simp;have hh:=(HDb.out.alloc #[iv 9,iv 10,iv 10] 3).p1
    (try rw[tZ]at hh)
    have HDba:=hd_ hh;clear hh;refine hK _ _ (.inr trivial) ?_;clear hK K'
    try refine tP_ ?_
    repeat (first|refine tA_ ?_|refine tB_ ?_)
    refine bP r_ (fun K' hK=>?_) ?_
    ·skip
     have g5:=HDba.out.p1.cell HU.out;go_simp;refine hK _ _ (.inr trivial) ?_;clear hK K'
     try refine tP_ ?_
     refine aB r_ (fun K' hK=>?_);go_simp;refine (HDba.out.pick o_ 5 o_ o_).mono ?_;rintro e w6 ⟨p6,rfl,p60,p61,hh⟩;have HDbab:=hd_ hh;clear hh;exact zAY
    ·skip
     refine aB r_ (fun K' hK=>?_)
     skip
     go_simp;refine (HDba.out.pick o_ 5 o_ o_).mono ?_;rintro e w6 ⟨p6,rfl,p60,p61,hh⟩;have HDbab:=hd_ hh;clear hh;refine hK _ _ (.inr trivial) ?_;clear hK K'
     try refine tP_ ?_
     refine bP r_ (fun K' hK=>?_) ?_
     ·skip
      have g5:=HDbab.out.p1.cell HU.out;go_simp;exact zAY
     ·skip
      refine aB r_ (fun K' hK=>?_)
      skip
      go_simp;refine (HDbab.out.pick o_ 5 o_ o_).mono ?_;rintro e w8 ⟨p8,rfl,p80,p81,hh⟩;have HDbabb:=hd_ hh;clear hh;refine hK _ _ (.inr trivial) ?_;clear hK K'
      try refine tP_ ?_
      refine aB r_ (fun K' hK=>?_);have g5:=HDbabb.out.p1.cell HU.out;go_simp;exact zAh
   ·skip
    refine aB r_ (fun K' hK=>?_)
    skip
    go_simp;refine (HDb.out.pick o_ 5 o_ o_).mono ?_;rintro e w6 ⟨p6,rfl,p60,p61,hh⟩;have HDbb:=hd_ hh;clear hh;refine hK _ _ (.inr trivial) ?_;clear hK K'
    try refine tP_ ?_
    refine bP r_ (fun K' hK=>?_) ?_
    ·skip
     go_simp;have hh:=(HDbb.out.alloc #[iv 9,iv 10,iv 10] 3).p1
     (try rw[tZ]at hh)
     have HDbba:=hd_ hh;clear hh;refine hK _ _ (.inr trivial) ?_;clear hK K'
     try refine tP_ ?_
     repeat (first|refine tA_ ?_|refine tB_ ?_)
     refine bP r_ (fun K' hK=>?_) ?_
     ·skip
      have g5:=HDbba.out.p1.cell HU.out;go_simp;refine hK _ _ (.inr trivial) ?_;clear hK K'
      try refine tP_ ?_
      refine aB r_ (fun K' hK=>?_);go_simp;refine (HDbba.out.pick o_ 5 o_ o_).mono ?_;rintro e w8 ⟨p8,rfl,p80,p81,hh⟩;have HDbbab:=hd_ hh;clear hh;exact zAP
     ·skip
      refine aB r_ (fun K' hK=>?_)
      skip
      go_simp;refine (HDbba.out.pick o_ 5 o_ o_).mono ?_;rintro e w8 ⟨p8,rfl,p80,p81,hh⟩;have HDbbab:=hd_ hh;clear hh;refine hK _ _ (.inr trivial) ?_;clear hK K'
      try refine tP_ ?_
      refine aB r_ (fun K' hK=>?_);have g5:=HDbbab.out.p1.cell HU.out;go_simp;exact zAP
    ·skip
     refine aB r_ (fun K' hK=>?_)
     skip
     go_simp;refine (HDbb.out.pick o_ 5 o_ o_).mono ?_;rintro e w8 ⟨p8,rfl,p80,p81,hh⟩;have HDbbb:=hd_ hh;clear hh;refine hK _ _ (.inr trivial) ?_;clear hK K'
     try refine tP_ ?_
     refine aB r_ (fun K' hK=>?_);go_simp;have hh:=(HDbbb.out.alloc #[iv 9,iv 10,iv 10] 3).p1
     (try rw[tZ]at hh)
     have HDbbba:=hd_ hh;clear hh;refine hK _ _ (.inr trivial) ?_;clear hK K'
     try refine tP_ ?_
     repeat (first|refine tA_ ?_|refine tB_ ?_)
     refine aB r_ (fun K' hK=>?_);have g5:=HDbbba.out.p1.cell HU.out;go_simp;refine hK _ _ (.inr trivial) ?_;clear hK K'
     try refine tP_ ?_
     repeat (first|refine tA_ ?_|refine tB_ ?_)
     refine aB r_ (fun K' hK=>?_);obtain⟨r0,r1,r2⟩:=HDbbba.out.p2.cells3;have rf:=HDbbba.out.p2.free;have F:=hd_ (HDbbba.out.p2.set3 (iv u5) (iv p6) (iv p8));exact zg
 ·subst q
  clear p10 p11
  go_wp2_with fail
  refine (H1.out.pick o_ 5 o_ o_).mono ?_;rintro e w2 ⟨p2,rfl,p20,p21,h2⟩;have H2:=hd_ h2;clear h2;have hr2:=H2.out.p1.cells3;obtain⟨r0,r1,r2⟩:=hr2;have rf:=H2.out.p1.free;have F:=hd_ (H2.out.p1.set3 (iv 7) (iv p2) (iv 0));go_wp2;obtain⟨d0,d1,d2⟩:=F.out.cells3;refine bodyPost_ret (v:=.agg #[iv 7,iv p2,iv 0]) (by simp[results,results261,go_sem,d0,d1,d2]) rfl ⟨_,_,_,rfl,(F.out.drop).more o_⟩
end
end N
end Go.Proofs.YtcblbdpdbggkbaaGreat
