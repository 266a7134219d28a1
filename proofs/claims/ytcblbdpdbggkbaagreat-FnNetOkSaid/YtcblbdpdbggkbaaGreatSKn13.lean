/-
  What the laws of Kn need of the texts before it, part 13.
-/
import Derived.ArgAppend
import Derived.BigQuiet
import Derived.Carry
import Derived.ChangeSame
import Derived.Deep.AppendLies
import Derived.Deep.Cut
import Derived.Deep.DeepCutAuto
import Derived.Deep.DrawnRows
import Derived.Deep.Fields
import Derived.Deep.Matrix
import Derived.Deep.MidRow
import Derived.Deep.OwnRows
import Derived.Deep.QuietTactic
import Derived.Deep.RegionHeld3
import Derived.Deep.RegionLaw
import Derived.Deep.RegionLawGrows
import Derived.Deep.RegionWith
import Derived.Deep.Slices
import Derived.Deep.WholeRow
import Derived.DeepKeys5
import Derived.Handy
import Derived.IntWalk
import Derived.JoinedOf
import Derived.KernelRfl
import Derived.Laws.AppendOwnNone
import Derived.Laws.EntriesVeiled
import Derived.Laws.ResultCell
import Derived.Laws.StructEq
import Derived.Lib.AppendZerosOnto
import Derived.Lib.Hide
import Derived.Lib.QuietBelow
import Derived.Lib.SliceRun
import Derived.Lib.SmallJoins
import Derived.Lib.Walk
import Derived.LoopIn
import Derived.LoopN
import Derived.LoopNIn
import Derived.Maps.AppendAt
import Derived.Maps.Keyed
import Derived.Maps.Own
import Derived.OneCell
import Derived.OpenShut
import Derived.OrdersHeld
import Derived.OwnWalkIn
import Derived.RangeFuncBound
import Derived.RangeFuncBox
import Derived.RangeFuncCalls
import Derived.RangeFuncLeaves
import Derived.RangeFuncNested
import Derived.RegionTactic
import Derived.Shelf.Abstract
import Derived.Shelf.RegionOpen
import Derived.Shelf.SlSortCmp.InsertionK
import Derived.StillTail
import Derived.TacticsInMore
import Derived.Test.YtcblbdpdbggkbaaGreatChecked
import Derived.Test.YtcblbdpdbggkbaaGreatRows
import Derived.WalkKit
import Derived.WalkLawsBesides
import Derived.WalkSmall
import Derived.WalkSpells
import Derived.Test.YtcblbdpdbggkbaaGreatSKn12
set_option maxRecDepth 100000
set_option maxHeartbeats 16000000
set_option linter.unusedVariables false
set_option linter.unusedSectionVars false
set_option linter.unusedSimpArgs false
namespace Go.Proofs.YtcblbdpdbggkbaaGreat
theorem zm {P:Prop} (h:P:=by
 obtain⟨x3,f3,rfl,_⟩:=M.form h6.p2;obtain⟨x4,f4,rfl,_⟩:=M.form h6.p3;have s6:aH W6 (b4L q5 (.slice z1 j1 e1) (.slice z2 j2 e2) (.slice z3 j3 e3) (.slice z4 j4 e4)):=by
  obtain⟨a0,a1,a2,a3⟩:=h6.p6.cells4;exact⟨a0,a1,a2,a3,trivial⟩
 refine hK _ _ (.inr trivial) ?_;clear hK K'
 try refine tP_ ?_
 repeat (first|refine tC_ ?_|refine tB_ ?_)
 refine aB r_ (fun K' hK=>mN (h6.p6) (vs:=[.slice x1 (cO n2 ds).nodes.length f1,.slice x2 (cO n2 ds).links.length f2,.slice x3 (cO n2 ds).words.length f3,.slice x4 (cO n2 ds).past.length f4]) (ys:=#[.slice x1 (cO n2 ds).nodes.length f1,.slice x2 (cO n2 ds).links.length f2,.slice x3 (cO n2 ds).words.length f3,.slice x4 (cO n2 ds).past.length f4]) r_ r_ r_ r_ aHp r_ (by simp) (by simp[pK]) (fun W8' h7=>?_))
 refine hK _ _ (.inr trivial) ?_;clear hK K'
 try refine tP_ ?_
 refine aD ?_;obtain⟨n3,hn3⟩:=nm_ (cO n2 ds);have O3:Hid (aM n3):=hd_ (by rw[hn3];exact aBq ON.out ds);rw[<-hn3]at h7
 try rw[<-hn3]
 have HZ:=hd_ (h7.p5.drop.p6.drop.p6.drop.p6.drop.p6.drop.p6.p6.p6.p6.p6.p6.p6);clear h7 h6 h5 hn3 s5 s6;obtain⟨a0,a1,a2,a3⟩:=HZ.out.cells4;obtain⟨b0,b1,b2,b3⟩:=(HZ.out.p6).cells4;have bf:=(HZ.out.p6).free;have F:=hd_ ((HZ.out.p6).set4 (.slice x1 n3.nodes.length f1) (.slice x2 n3.links.length f2) (.slice x3 n3.words.length f3) (.slice x4 n3.past.length f4));go_wp2
 obtain⟨i0,i1,i2,i3⟩:=F.out.cells4
 (try simp only[Exit.inBlock,Exit.then])
 refine bodyPost_ret (v:=.agg #[.slice x1 n3.nodes.length f1,.slice x2 n3.links.length f2,.slice x3 n3.words.length f3,.slice x4 n3.past.length f4]) (by simp[results,results158,go_sem,i0,i1,i2,i3]) rfl ⟨_,_,_,_,n3,rfl,O3.out,(dU (F.out.drop.drop.p3.p3.p3.p3.p4) o_).p4.p4.p4.p4⟩):P:=h
theorem zo {P:Prop} (h:P:=by
 refine hK _ _ (.inr trivial) ?_;clear hK K
 try refine tP_ ?_
 refine aB r_ (fun K hK=>?_);go_simp;refine hK _ _ (.inr trivial) ?_;clear hK K
 try refine tP_ ?_
 refine aD ?_;go_wp2;obtain⟨i0,i1,i2,i3⟩:=(h5).cells4
 (try simp only[Exit.inBlock,Exit.then])
 exact bodyPost_ret (v:=.tuple #[.agg #[.slice x1 m.nodes.length c1,.slice x2 m.links.length c2,.slice x3 m.words.length c3,.slice x4 m.past.length c4],iv u]) (by simp[results,results31,go_sem,i0,i1,i2,i3]) rfl ⟨_,_,_,_,m,u,rfl,u0,u1,N5.out,h5.drop.drop.drop⟩):P:=h
theorem zz {P:Prop} (h:P:=by
 clear hK K'
 try refine tP_ ?_
 refine aB r_ (fun K' hK=>?_);go_simp;refine hK _ _ (.inl rfl) ?_;clear hK K'
 try refine tP_ ?_
 refine aD ?_
 go_wp2_with fail
 go_meet
 exact⟨_,x1,f1,x2,f2,x3,f3,x4,f4,cO n0 ds,rfl,rfl,aBq ON.out ds,by have:=nT ds ON.out;have:=BN.out;have:=MD.out;omega,h7.p5.drop.p6.drop.p6.drop.p6.drop.p6.drop.p6.drop.p6.drop.p6.p6.p6.p6.p6.p6.p6⟩):P:=h
theorem zAm {P:Prop} (h:P:=by
 refine hK _ _ (.inr trivial) ?_;clear hK K
 try refine tP_ ?_
 refine aB r_ (fun K hK=>?_);go_simp;refine hK _ _ (.inr trivial) ?_;clear hK K
 try refine tP_ ?_
 refine aD ?_;go_wp2;obtain⟨i0,i1,i2,i3⟩:=(h5).cells4
 (try simp only[Exit.inBlock,Exit.then])
 exact bodyPost_ret (v:=.tuple #[.agg #[.slice x1 m.nodes.length c1,.slice x2 m.links.length c2,.slice x3 m.words.length c3,.slice x4 m.past.length c4],iv u]) (by simp[results,results31,go_sem,i0,i1,i2,i3]) rfl ⟨_,_,_,_,m,u,rfl,u0,u1,N5.out,h5.drop.drop.p4.drop⟩):P:=h
theorem zAR {P:Prop} (h:P:=by
 obtain rfl|rfl|rfl|rfl|rfl|rfl|rfl|rfl:jz=0\/jz=1\/jz=2\/jz=3\/jz=4\/jz=5\/jz=6\/jz=7:=o_
 all_goals exact⟨_,by decide,by decide,rfl⟩):P:=h
theorem zA8 {P:Prop} (h:P:=by
 have s8:aH W8 (b4L q3 (.slice z1 j1 e1) (.slice z2 j2 e2) (.slice z3 j3 e3) (.slice z4 j4 e4)):=by
  obtain⟨a0,a1,a2,a3⟩:=h7.p7.cells4;exact zAn
 refine hK _ _ (.inr s8) ?_;exact zz):P:=h
theorem zA9 {P:Prop} (h:P:=by
 obtain⟨a0,a1,a2,a3⟩:=(h5.p1).cells4;exact zAn):P:=h
end Go.Proofs.YtcblbdpdbggkbaaGreat
namespace Go.Proofs.YtcblbdpdbggkbaaGreat
open _root_.Go.Proofs.Tryz
open Go.RowKit Go.Sort
namespace N
section
variable {B a k:Nat} {w0 w w':World} {l:List Ch}
theorem _root_.Go.Proofs.YtcblbdpdbggkbaaGreat.M.netGot {v1 v2 v3 v4:Value} {n:Nt} {fp:List Nat} (h:M B w0 w l) (hb:Below w.heap.size w w') (s:pI (aLq TY) w.heap.size w' [v1,v2,v3,v4] n fp):M B w0 w' (bE v1 n.nodes::bY v2 n.links::bG v3 n.words::dN v4 n.past::l):=by
 obtain⟨_,_,_,_,f1,f2,f3,f4,e,ef,h1,h2,h3,h4⟩:=aEI.1 s.1;cases e;have q:M B w0 w' ((bE v1 n.nodes).sep ((bY v2 n.links).sep ((bG v3 n.words).sep (dN v4 n.past)))::l):=h.add hb (f:=fp) ⟨f1,_,ef,h1,f2,_,rfl,h2,f3,f4,rfl,h3,h4⟩ s.2.1 s.2.2;exact q.two.p1.two.p1.two.p2.p3
theorem _root_.Go.Proofs.YtcblbdpdbggkbaaGreat.M.plus4 {c1 c2 c3 c4:Ch} (h:M B w0 w l) (k:M w.heap.size w w' [c1,c2,c3,c4]):M B w0 w' (c1::c2::c3::c4::l):=
 (h.plus (k.p3.p3.sep.p2.sep.p1.sep)).two.p1.two.p1.two.p2.p3
theorem _root_.Go.Proofs.YtcblbdpdbggkbaaGreat.M.listInts {v:Value} {zs:List Int} (h:M B w0 w (aGy v zs::l)):dE w v zs:=by
 obtain⟨f,hf,_⟩:=h.first;obtain⟨_,e,o,_⟩:=eE hf;cases e;rw[xR]at o;exact cE.rd o
theorem aFi (h:M B w0 w (rdC w0 B a k::l)) (hk:k<=80000):Calls prog 158 #[.pointer (some ⟨a,0,Option.none⟩)] w fun e w'=>∃v1 v2 v3 v4 n,e=.returned (.agg #[v1,v2,v3,v4])/\aM n/\M B w0 w' (bE v1 n.nodes::bY v2 n.links::bG v3 n.words::dN v4 n.past::rdC w0 B a (k+900)::l):=by
 have h0:=h.alloc #[zn,zn,zn,zn] 30;obtain⟨q2,hq2⟩:=nm_ w.heap.size;obtain⟨W0,hW0⟩:=nm_ (w.alloc (.cells #[zn,zn,zn,zn] 30));rw[<-hW0, <-hq2]at h0;have H0:=hd_ h0.p1;clear h h0;go_enter func158,ntmps158;go_upto_region 1 with fail
 rw[<-hW0, <-hq2];clear hW0 hq2
 go_wp2_with fail
 refine (aBv H0.out o_).mono ?_;rintro r W1 ⟨x,m,c,zs,rfl,hm,pk,m16,h1⟩;have E0:=hd_ (show rR zs=some ⟨vZ.nodes,jI vZ.links zs,[],vZ.past⟩ by unfold rR;rw[if_pos ⟨⟨pk.even,o_⟩,pk.two⟩];rfl);have KN:=hd_ (aE8 W1 x m c zs h1.listInts);have H1:=hd_ h1;clear h1 H0 hm pk
 go_wp2_with fail
 refine KN.out.mono ?_;rintro r W2 ⟨v1,v2,v3,v4,fp,rfl,hs,hb⟩;have h2:=H1.out.netGot hb hs;obtain⟨n0,hn0⟩:∃n0,rR zs=some n0:=⟨_,E0.out⟩
 rw[hn0]at h2 ⊢;simp only[Option.getD_some]at h2;have ON:=hd_ (aL1 hn0);have BN:=hd_ ((aF4 hn0).2.2.1);obtain⟨z1,e1,rfl,_⟩:=M.form h2;obtain⟨z2,e2,rfl,_⟩:=M.form h2.p1;obtain⟨z3,e3,rfl,_⟩:=M.form h2.p2;obtain⟨z4,e4,rfl,_⟩:=M.form h2.p3;clear hs hb KN H1 E0 hn0;obtain⟨j1,hj1⟩:=nm_ n0.nodes.length;obtain⟨j2,hj2⟩:=nm_ n0.links.length;obtain⟨j3,hj3⟩:=nm_ n0.words.length
 obtain⟨j4,hj4⟩:=nm_ n0.past.length;rw[<-hj1, <-hj2, <-hj3, <-hj4]at h2 ⊢;clear hj1 hj2 hj3 hj4;have h3:=h2.alloc #[.slice z1 j1 e1,.slice z2 j2 e2,.slice z3 j3 e3,.slice z4 j4 e4] 30;obtain⟨q3,hq3⟩:=nm_ W2.heap.size;obtain⟨W3,hW3⟩:=nm_ (W2.alloc (.cells #[.slice z1 j1 e1,.slice z2 j2 e2,.slice z3 j3 e3,.slice z4 j4 e4] 30));rw[<-hW3, <-hq3]at h3;have H3:=hd_ h3;clear h2 h3;go_upto_region 2 with fail
 rw[<-hW3, <-hq3];clear hW3 hq3
 go_cut [5,6] (fun y b wx=>∃(q5:Nat) (x1:Option Addr) (f1:Nat) (x2:Option Addr) (f2:Nat) (x3:Option Addr) (f3:Nat) (x4:Option Addr) (f4:Nat) (n1:Nt),y=.pointer (some ⟨q5,0,none⟩)/\b=.bool true/\aM n1/\(aA n1 0).beacon<=200/\M B w0 wx (aL q5 30 #[.slice x1 n1.nodes.length f1,.slice x2 n1.links.length f2,.slice x3 n1.words.length f3,.slice x4 n1.past.length f4]::bE (.slice x1 n1.nodes.length f1) n1.nodes::bY (.slice x2 n1.links.length f2) n1.links::bG (.slice x3 n1.words.length f3) n1.words::dN (.slice x4 n1.past.length f4) n1.past::rdC w0 B a (k+16+402)::aL q2 30 #[zn,zn,zn,zn]::l))
 case first=>
  have H4:=hd_ H3.out.drew;have S3:Hid (aH W3 (b4L q3 (.slice z1 j1 e1) (.slice z2 j2 e2) (.slice z3 j3 e3) (.slice z4 j4 e4))):=hd_ (by obtain⟨a0,a1,a2,a3⟩:=H3.out.cells4;exact⟨a0,a1,a2,a3,trivial⟩);have S4:=hd_ (S3.out.below (Below.drew (Below.refl _ _)));obtain⟨W4,hW4⟩:=nm_ W3.drew;rw[<-hW4]at H4 S4;have EV:=hd_ hW4;clear hW4
  refine aC 9 (.tk 0 2 (.alt 2 (.alt 3 (.tk 4 3 (.alt 7 (.alt 8 (.alt 9 .done .nomore) .nomore) .nomore)) (.alt 7 (.alt 3 (.tk 4 3 (.alt 8 (.alt 9 .done .nomore) .nomore)) .nomore) .nomore)) (.alt 7 (.alt 2 (.alt 3 (.tk 4 3 (.alt 8 (.alt 9 .done .nomore) .nomore)) .nomore) .nomore) .nomore))) (fun w'=>aH w' (b4L q3 (.slice z1 j1 e1) (.slice z2 j2 e2) (.slice z3 j3 e3) (.slice z4 j4 e4))) kr_ kr_ (fun _ _ _ _ _ h=>h) (S3.out.below (Below.drew (Below.refl _ _))) ?_
  rw[<-EV.out]
  repeat (first|refine tC_ ?_|refine tB_ ?_)
  refine bP r_ (fun K' hK=>?_) ?_
  ·go_simp
   refine (nE (H4.out.p6) o_ ⟨by decide,by decide⟩).mono ?_;rintro r W5 ⟨xd,md,cd,ds,rfl,hmd,md4,h5⟩;have MD:=hd_ hmd;clear hmd;have s5:aH W5 (b4L q3 (.slice z1 j1 e1) (.slice z2 j2 e2) (.slice z3 j3 e3) (.slice z4 j4 e4)):=by
    obtain⟨a0,a1,a2,a3⟩:=h5.p2.cells4;exact zAn
   refine hK _ _ (.inr s5) ?_;clear hK K'
   try refine tP_ ?_
   have R1:Hid (nZ n0 ds=some (cO n0 ds)):=hd_ (by unfold nZ;rw[if_pos ⟨hZ.2 ON.out,by have:=MD.out;omega⟩]);refine bP r_ (fun K' hK=>?_) ?_
   ·skip
    have KR:=hd_ (mR _ (M.rdNet (b:=.bool true) (h5.p6.p6.p6.p6.p6)) (M.dsRd (h5)));rw[R1.out]at KR;go_simp;refine KR.out.mono ?_;rintro r W6 ⟨u1,u2,u3,u4,rfl,hm6⟩;have h6:=M.plus4 (h5) hm6;clear KR hm6;simp only[Option.getD_some]at h6;obtain⟨x1,f1,rfl,_⟩:=M.form h6;obtain⟨x2,f2,rfl,_⟩:=M.form h6.p1;obtain⟨x3,f3,rfl,_⟩:=M.form h6.p2;obtain⟨x4,f4,rfl,_⟩:=M.form h6.p3
    have s6:aH W6 (b4L q3 (.slice z1 j1 e1) (.slice z2 j2 e2) (.slice z3 j3 e3) (.slice z4 j4 e4)):=by
     obtain⟨a0,a1,a2,a3⟩:=h6.p6.cells4;exact zAn
    refine hK _ _ (.inr s6) ?_;clear hK K'
    try refine tP_ ?_
    repeat (first|refine tC_ ?_|refine tB_ ?_)
    refine aB r_ (fun K' hK=>?_);go_simp;refine hK _ _ (.inr (s6.below ((Below.refl _ _).alloc lr_ _))) ?_;clear hK K'
    try refine tP_ ?_
    have h7:=h6.alloc #[.slice x1 (cO n0 ds).nodes.length f1,.slice x2 (cO n0 ds).links.length f2,.slice x3 (cO n0 ds).words.length f3,.slice x4 (cO n0 ds).past.length f4] 30;refine aB r_ (fun K' hK=>?_);go_simp;refine hK _ _ (.inr (s6.below ((Below.refl _ _).alloc lr_ _))) ?_;exact zz
   ·skip
    refine aB r_ (fun K' hK=>?_);go_simp;have h55:=h5.alloc #[zn,zn,zn,zn] 30;refine hK _ _ (.inr (s5.below ((Below.refl _ _).alloc lr_ _))) ?_;clear hK K'
    try refine tP_ ?_
    have KR:=hd_ (mR _ (M.rdNet (b:=.bool true) (h55.p1.p7.p7.p7.p7.p7)) (M.dsRd (h55.p1)));rw[R1.out]at KR;refine aB r_ (fun K' hK=>?_);go_simp;refine KR.out.mono ?_;rintro r W6 ⟨u1,u2,u3,u4,rfl,hm6⟩;have h6:=M.plus4 (h55) hm6;clear KR hm6;simp only[Option.getD_some]at h6;obtain⟨x1,f1,rfl,_⟩:=M.form h6;obtain⟨x2,f2,rfl,_⟩:=M.form h6.p1;obtain⟨x3,f3,rfl,_⟩:=M.form h6.p2
    obtain⟨x4,f4,rfl,_⟩:=M.form h6.p3;have s6:aH W6 (b4L q3 (.slice z1 j1 e1) (.slice z2 j2 e2) (.slice z3 j3 e3) (.slice z4 j4 e4)):=by
     obtain⟨a0,a1,a2,a3⟩:=h6.p7.cells4;exact zAn
    refine hK _ _ (.inr s6) ?_;clear hK K'
    try refine tP_ ?_
    repeat (first|refine tC_ ?_|refine tB_ ?_)
    refine aB r_ (fun K' hK=>mN (h6.p4) (vs:=[.slice x1 (cO n0 ds).nodes.length f1,.slice x2 (cO n0 ds).links.length f2,.slice x3 (cO n0 ds).words.length f3,.slice x4 (cO n0 ds).past.length f4]) (ys:=#[.slice x1 (cO n0 ds).nodes.length f1,.slice x2 (cO n0 ds).links.length f2,.slice x3 (cO n0 ds).words.length f3,.slice x4 (cO n0 ds).past.length f4]) r_ r_ r_ r_ aHp r_ (by simp) (by simp[pK]) (fun W8 h7=>?_))
    exact zA8
  ·skip
   refine aB r_ (fun K' hK=>?_);go_simp;have h44:=H4.out.alloc #[zn,zn,zn,zn] 30;refine hK _ _ (.inr (S4.out.below ((Below.refl _ _).alloc lr_ _))) ?_;clear hK K'
   try refine tP_ ?_
   refine aB r_ (fun K' hK=>?_);go_simp;refine (nE (h44.p7) o_ ⟨by decide,by decide⟩).mono ?_;rintro r W5 ⟨xd,md,cd,ds,rfl,hmd,md4,h5⟩;have MD:=hd_ hmd;clear hmd;have s5:aH W5 (b4L q3 (.slice z1 j1 e1) (.slice z2 j2 e2) (.slice z3 j3 e3) (.slice z4 j4 e4)):=by
    obtain⟨a0,a1,a2,a3⟩:=h5.p3.cells4;exact zAn
   refine hK _ _ (.inr s5) ?_;clear hK K'
   try refine tP_ ?_
   have R1:Hid (nZ n0 ds=some (cO n0 ds)):=hd_ (by unfold nZ;rw[if_pos ⟨hZ.2 ON.out,by have:=MD.out;omega⟩]);have KR:=hd_ (mR _ (M.rdNet (b:=.bool true) (h5.p7.p7.p7.p7.p7)) (M.dsRd (h5)));rw[R1.out]at KR;refine aB r_ (fun K' hK=>?_);go_simp;refine KR.out.mono ?_;rintro r W6 ⟨u1,u2,u3,u4,rfl,hm6⟩;have h6:=M.plus4 (h5) hm6;clear KR hm6
   simp only[Option.getD_some]at h6;obtain⟨x1,f1,rfl,_⟩:=M.form h6;obtain⟨x2,f2,rfl,_⟩:=M.form h6.p1;obtain⟨x3,f3,rfl,_⟩:=M.form h6.p2;obtain⟨x4,f4,rfl,_⟩:=M.form h6.p3;have s6:aH W6 (b4L q3 (.slice z1 j1 e1) (.slice z2 j2 e2) (.slice z3 j3 e3) (.slice z4 j4 e4)):=by
    obtain⟨a0,a1,a2,a3⟩:=h6.p7.cells4;exact zAn
   refine hK _ _ (.inr s6) ?_;clear hK K'
   try refine tP_ ?_
   repeat (first|refine tC_ ?_|refine tB_ ?_)
   refine aB r_ (fun K' hK=>mN (h6.p6) (vs:=[.slice x1 (cO n0 ds).nodes.length f1,.slice x2 (cO n0 ds).links.length f2,.slice x3 (cO n0 ds).words.length f3,.slice x4 (cO n0 ds).past.length f4]) (ys:=#[.slice x1 (cO n0 ds).nodes.length f1,.slice x2 (cO n0 ds).links.length f2,.slice x3 (cO n0 ds).words.length f3,.slice x4 (cO n0 ds).past.length f4]) r_ r_ r_ r_ aHp r_ (by simp) (by simp[pK]) (fun W8 h7=>?_))
   exact zA8
 case rest=>
  obtain⟨q5,x1,f1,x2,f2,x3,f3,x4,f4,n1,rfl,rfl,ok1,bc1,hM⟩:=hcut;have H5:=hd_ hM;have O1:=hd_ ok1;clear hM ok1 H3 ON BN
  go_wp2_with fail
  refine (H5.out.p5.pick o_ 4 o_ o_).mono ?_;rintro r W6 ⟨p,rfl,p0,p1,h6⟩;have H6:=hd_ h6;clear h6 H5;obtain⟨a0,a1,a2,a3⟩:=H6.out.p1.cells4
  by_cases hp:p=0
  case neg=>
   have gp:(p==0)=false:=by simpa using hp
   clear hp;obtain⟨b0,b1,b2,b3⟩:=(H6.out.p6).cells4;have bf:=(H6.out.p6).free;have F:=hd_ ((H6.out.p6).set4 (.slice x1 n1.nodes.length f1) (.slice x2 n1.links.length f2) (.slice x3 n1.words.length f3) (.slice x4 n1.past.length f4));go_wp2;obtain⟨i0,i1,i2,i3⟩:=F.out.cells4
   (try simp only[Exit.inBlock,Exit.then])
   refine bodyPost_ret (v:=.agg #[.slice x1 n1.nodes.length f1,.slice x2 n1.links.length f2,.slice x3 n1.words.length f3,.slice x4 n1.past.length f4]) (by simp[results,results158,go_sem,i0,i1,i2,i3]) rfl ⟨_,_,_,_,n1,rfl,O1.out,(dU (F.out.drop.p1.drop.p4.p4.p4.p4.p4) o_).p4.p4.p4.p4⟩
  subst hp;have RE:Hid (nP n1=some (aAS n1)):=hd_ (by unfold nP;rw[if_pos ⟨hZ.2 O1.out,o_⟩]);have KR:=hd_ (aCZ W6 (M.rdNet (b:=.bool true) (H6.out.p5.p5.p5.p5.p5)));rw[RE.out]at KR;obtain⟨n2,hn2⟩:=nm_ (aAS n1);have RS:=aLO O1.out (show (aA n1 0).beacon<1000 by omega);rw[<-hn2]at KR RS;have ON:=hd_ RS.ok;clear hn2 RE RS
  go_wp2_with fail
  refine KR.out.mono ?_;rintro r W7 ⟨u1,u2,u3,u4,rfl,hm⟩;have h7:=M.plus4 (H6.out) hm;clear KR hm a0 a1 a2 a3 H6 p0 p1;simp only[Option.getD_some]at h7;obtain⟨z1,e1,rfl,_⟩:=M.form h7;obtain⟨z2,e2,rfl,_⟩:=M.form h7.p1;obtain⟨z3,e3,rfl,_⟩:=M.form h7.p2;obtain⟨z4,e4,rfl,_⟩:=M.form h7.p3;obtain⟨j1,hj1⟩:=nm_ n2.nodes.length;obtain⟨j2,hj2⟩:=nm_ n2.links.length;obtain⟨j3,hj3⟩:=nm_ n2.words.length
  obtain⟨j4,hj4⟩:=nm_ n2.past.length;rw[<-hj1, <-hj2, <-hj3, <-hj4]at h7 ⊢;clear hj1 hj2 hj3 hj4;have H7:=hd_ (h7.p6.drop.p6.drop.p6.drop.p6.drop.p6.p5.p5.p5.p5.p5.p6);clear h7
  go_upto_region 5 with (go_loud (refine dG H7.out (vs:=[.slice z1 j1 e1,.slice z2 j2 e2,.slice z3 j3 e3,.slice z4 j4 e4]) (ys:=#[.slice z1 j1 e1,.slice z2 j2 e2,.slice z3 j3 e3,.slice z4 j4 e4]) rfl rfl rfl rfl aHp rfl (by simp) (by simp[pK]) ?_);intro W8 h8;have H8:=hd_ h8;clear h8 H7)
  have H9:=hd_ H8.out.drew;obtain⟨W9,hW9⟩:=nm_ W8.drew;rw[<-hW9]at H9;have EV:=hd_ hW9;clear hW9 H8;refine aC 99 (.take 1 (.alt 0 (.alt 2 (.alt 3 (.tk 4 3 (.alt 7 .done .nomore)) .nomore) .nomore) (.alt 2 (.alt 0 (.alt 3 (.tk 4 3 (.alt 7 .done .nomore)) .nomore) .nomore) .nomore))) (fun _=>True) kr_ kr_ (fun _ _ _ _ _ h=>h) trivial ?_;rw[<-EV.out]
  repeat (first|refine tC_ ?_|refine tB_ ?_)
  refine bP r_ (fun K' hK=>?_) ?_
  ·skip
   obtain⟨b0,b1,b2,b3⟩:=H9.out.cells4;go_simp;refine hK _ _ (.inr trivial) ?_;clear hK K'
   try refine tP_ ?_
   clear b0 b1 b2 b3;refine aB r_ (fun K' hK=>?_);go_simp;refine (nE (H9.out.p5) o_ ⟨by decide,by decide⟩).mono ?_;rintro r W5 ⟨xd,md,cd,ds,rfl,hmd,md4,h5⟩;have MD:=hd_ hmd;clear hmd;have s5:aH W5 (b4L q5 (.slice z1 j1 e1) (.slice z2 j2 e2) (.slice z3 j3 e3) (.slice z4 j4 e4)):=by
    obtain⟨a0,a1,a2,a3⟩:=h5.p2.cells4;exact zAn
   refine hK _ _ (.inr trivial) ?_;clear hK K'
   try refine tP_ ?_
   have R1:Hid (nZ n2 ds=some (cO n2 ds)):=hd_ (by unfold nZ;rw[if_pos ⟨hZ.2 ON.out,by have:=MD.out;omega⟩]);have KR:=hd_ (mR _ (M.rdNet (b:=.bool true) (h5.p6.p6.p6.p6.p6)) (M.dsRd (h5)));rw[R1.out]at KR;refine aB r_ (fun K' hK=>?_);go_simp;refine KR.out.mono ?_;rintro r W6 ⟨u1,u2,u3,u4,rfl,hm6⟩;have h6:=M.plus4 (h5) hm6;clear KR hm6
   simp only[Option.getD_some]at h6;obtain⟨x1,f1,rfl,_⟩:=M.form h6;obtain⟨x2,f2,rfl,_⟩:=M.form h6.p1;exact zm
  ·skip
   refine aB r_ (fun K' hK=>?_);go_simp;refine (nE (H9.out.p5) o_ ⟨by decide,by decide⟩).mono ?_;rintro r W5 ⟨xd,md,cd,ds,rfl,hmd,md4,h5⟩;have MD:=hd_ hmd;clear hmd;have s5:aH W5 (b4L q5 (.slice z1 j1 e1) (.slice z2 j2 e2) (.slice z3 j3 e3) (.slice z4 j4 e4)):=by
    obtain⟨a0,a1,a2,a3⟩:=h5.p2.cells4;exact zAn
   refine hK _ _ (.inr trivial) ?_;clear hK K'
   try refine tP_ ?_
   have R1:Hid (nZ n2 ds=some (cO n2 ds)):=hd_ (by unfold nZ;rw[if_pos ⟨hZ.2 ON.out,by have:=MD.out;omega⟩]);obtain⟨b0,b1,b2,b3⟩:=h5.p2.cells4;refine aB r_ (fun K' hK=>?_);go_simp;refine hK _ _ (.inr trivial) ?_;clear hK K'
   try refine tP_ ?_
   clear b0 b1 b2 b3;have KR:=hd_ (mR _ (M.rdNet (b:=.bool true) (h5.p6.p6.p6.p6.p6)) (M.dsRd (h5)));rw[R1.out]at KR;refine aB r_ (fun K' hK=>?_);go_simp;refine KR.out.mono ?_;rintro r W6 ⟨u1,u2,u3,u4,rfl,hm6⟩;have h6:=M.plus4 (h5) hm6;clear KR hm6;simp only[Option.getD_some]at h6;obtain⟨x1,f1,rfl,_⟩:=M.form h6;obtain⟨x2,f2,rfl,_⟩:=M.form h6.p1
   exact zm
end
section
variable {B a k:Nat} {w0 w:World} {l:List Ch}
theorem aIZ {v u:Value} {zs ys:List Int} (h:M B w0 w (uJ v zs::l)) (hy:RdL kY w u ys) (hne:ys≠[]) (ty:TypeId) (h63:zs.length+ys.length<=1000000):
  ∃y cap w',(Builtin.append_ #[ 23,23 ] ty #[v,u]).run prog w=.ok (.slice y (zs.length+ys.length) cap) w'/\M B w0 w' (uJ (.slice y (zs.length+ys.length) cap) (zs++ys)::l):=by
 by_cases hs:∃ad,v=.slice (some ad) 0 0
 ·obtain⟨ad,rfl⟩:=hs
  obtain⟨f,hf,_⟩:=h.first;obtain⟨x,c,e,_⟩:=yI hf;have z0:zs=[]:=List.eq_nil_of_length_eq_zero (by injection e with _ e2 _;exact e2.symm);subst z0;rcases hy with ⟨_,rfl⟩|⟨a',c',rfl,hc⟩
  ·exact absurd rfl hne
  ·obtain⟨i,hi,hz,hs,hb⟩:=info_parts sJ.info
   have fl:(ys.flatMap kY).length=ys.length * 1:=by
    clear hc hne h63
    induction ys with
    |nil=>rfl
    |cons y ys ih=>rw[List.flatMap_cons,List.length_append,ih,List.length_cons];show 1+_=_;omega
   simp only[List.length_nil,Nat.zero_add,List.nil_append]at h63 ⊢;obtain⟨v',w',hr,ho,hg⟩:=run_append_arg_grows (P:=prog) w 23 ty 3 i (iv 0) 1 8 sJ.und hi hz hs hb sJ.zs sJ.pos ad 0 0 [] rfl (fun j q hq=>by simp at hq) a' ys.length c' (ys.flatMap kY) fl hc (by
        have:ys.length≠0:=fun q=>hne (List.eq_nil_of_length_eq_zero q)
        omega) (by unfold maxLen;omega) o_
   rw[List.nil_append,Nat.zero_add]at ho;obtain⟨y,cap,rfl⟩:=tH ho;have bl:Below w.heap.size w w':=⟨hg.os,hg.tape,hg.output,hg.size,fun q hq=>hg.block q hq (by simp)⟩
   refine⟨y,cap,w',hr,M.soft (h.drop.add bl (kD (enc:=kY) (xs:=ys) ho (fun _=>rfl)) (fW _) fun b hb=>?_)⟩;exact (World.ownsRow.lt ho b (bL hb)).1
 ·have h':M B w0 w (fL (aG kY) 3 1 v zs::l):=h.to fun f hf nd=>by
   rcases hf with hf|⟨_,_,b,o,e,_⟩
   ·exact⟨f,hf,nd,fun _ h=>h⟩
   ·exact absurd ⟨_,(List.cons.inj e).1⟩ hs
  obtain⟨y,cap,w',hr,hM⟩:=aGV sJ (fun _=>rfl) fE h' hy ty (by unfold maxLen;omega) o_;exact⟨y,cap,w',hr,hM.soft⟩
theorem aG9 {v u:Value} {zs ys:List Int} (h:M B w0 w (uJ v zs::l)) (hy:RdL kY w u ys) (hne:ys≠[])
  {ops:Array Oper} {o:Oper} {a:Act} {K:Act->World->Prop} {Q:Exit->Act->World->Prop} {E:Prop} {s x:Operand} (hgd:o.guard=none) (ho:o.op=.call { callee:=.builtin .append,args:=#[s,x],argTypes:=#[ 23,23 ] }) {N:Nat} (hs:a.eval s=v) (hu:a.eval x=u)
  (h63:zs.length+ys.length<=1000000) (hN:N=zs.length+ys.length)
  (k:∀y cap w',M B w0 w' (uJ (.slice y N cap) (zs++ys)::l)->K (a.put o.dst (.slice y N cap)) w'):if Region.wanted o (yielded ops a.tmps)=true then Oper.wp prog o a w K Q else E:=by
 rw[if_pos (by simp[Region.wanted,hgd])];obtain⟨y,cap,w',hr,hM⟩:=aIZ h hy hne o.type h63;unfold Oper.wp execOp;simp only[ho,resolve,invoke,builtin,Sem.run_bind,Sem.run_pure,Result.andThen_ok,List.map_toArray,List.map_cons,List.map_nil,hs,hu,hr];rw[hN]at k;exact k y cap w' hM
theorem _root_.Go.Proofs.YtcblbdpdbggkbaaGreat.M.unentry {ci:List Value} {e:En} (h:M B w0 w (aP.ch ci e::l)):∃V:SV,ci=[.int .i64 e.node,.int .i64 e.born,.int .i64 e.num,.slice V.xr V.nr V.cr,.slice V.xf V.nf V.cf,.slice V.xt V.nt V.ct,.int .i64 (e.s).lo,.int .i64 (e.s).al,.slice V.xk V.nk V.ck,.int .i64 (e.s).ka]/\M B w0 w (bF.ch (cS V (e.s)) e.s::l):=by
 obtain⟨f,hf,_⟩:=h.first;obtain⟨cs,ec,V,_,_,_,_,rfl,_⟩:=jU.1 hf;refine⟨V,ec,h.to fun f hf nd=>⟨f,?_,nd,fun _ q=>q⟩⟩;obtain⟨cs2,ec2,hs2⟩:=jU.1 hf;rw[ec]at ec2
 have e3:[.slice V.xr V.nr V.cr,.slice V.xf V.nf V.cf,.slice V.xt V.nt V.ct,.int .i64 (e.s).lo,.int .i64 (e.s).al,.slice V.xk V.nk V.ck,.int .i64 (e.s).ka]=cs2:=by injection ec2 with _ q;injection q with _ q;injection q with _ q
 rw[e3];exact hs2
theorem uU (h:M B w0 w (rdC w0 B a k::l)) (hk:k<=70000):Calls prog 85 #[.pointer (some ⟨a,0,Option.none⟩)] w fun e w'=>∃v1 v2 v3 v4,∃n:Nt,e=.returned (.agg #[v1,v2,v3,v4])/\n.nodes.length=5/\M B w0 w' (bE v1 n.nodes::bY v2 n.links::bG v3 n.words::dN v4 n.past::rdC w0 B a (k+910)::l):=by
 have h0:=h.alloc #[zn,zn,zn,zn] 30;obtain⟨q2,hq2⟩:=nm_ w.heap.size;obtain⟨W0,hW0⟩:=nm_ (w.alloc (.cells #[zn,zn,zn,zn] 30));rw[<-hW0, <-hq2]at h0;have H0:=hd_ h0.p1;clear h h0;go_enter func85,ntmps85;go_upto_region 1 with fail
 rw[<-hW0, <-hq2];clear hW0 hq2
 go_wp2_with fail
 refine (aFi H0.out o_).mono ?_;rintro r W1 ⟨v1,v2,v3,v4,n,rfl,ok,h1⟩;have OK:=hd_ ok;obtain⟨x1,c1,rfl,_⟩:=M.form h1;obtain⟨x2,c2,rfl,_⟩:=M.form h1.p1;obtain⟨x3,c3,rfl,_⟩:=M.form h1.p2;obtain⟨x4,c4,rfl,_⟩:=M.form h1.p3;obtain⟨f1,hf1⟩:=h1.nodesRd;obtain⟨f2,hf2⟩:=h1.p1.linksRd;obtain⟨f4,hf4⟩:=h1.p3.pastRd;obtain⟨g1,_,_,_,rfl,_⟩:=cB hf1 (eY (i:=0) ok.nodes o_)
 obtain⟨g2,rfl,_⟩:=mX hf2 (List.getElem?_eq_getElem (show 0<n.links.length by rw[ok.links];omega));obtain⟨g4,_,_,_,rfl,_⟩:=jO hf4 (pJ (i:=0) ok.past o_);obtain⟨j3,hj3⟩:=nm_ n.words.length;rw[ok.nodes,ok.links,ok.past, <-hj3]at h1 ⊢;have J3:=hd_ hj3;have N5:=hd_ ok.nodes
 have h2:=h1.alloc #[.slice (some ⟨g1,0,none⟩) 5 c1,.slice (some ⟨g2,0,none⟩) 25 c2,.slice x3 j3 c3,.slice (some ⟨g4,0,none⟩) 5 c4] 30;obtain⟨q3,hq3⟩:=nm_ W1.heap.size;obtain⟨W2,hW2⟩:=nm_ (W1.alloc (.cells #[.slice (some ⟨g1,0,none⟩) 5 c1,.slice (some ⟨g2,0,none⟩) 25 c2,.slice x3 j3 c3,.slice (some ⟨g4,0,none⟩) 5 c4] 30));rw[<-hW2, <-hq3]at h2;have H2:=hd_ h2.p5;clear h1 h2 H0 hj3
 go_upto_region 2 with fail
 rw[<-hW2, <-hq3];clear hW2 hq3
 go_wp2_with fail
 refine (H2.out.pick o_ 14 o_ o_).mono ?_;rintro r W3 ⟨p,rfl,p0,p1,h3⟩;have H3:=hd_ h3;clear h3 H2
 by_cases hp:0<p
 case pos=>
  obtain⟨a0,a1,a2,a3⟩:=(H3.out.p1).cells4;obtain⟨b0,b1,b2,b3⟩:=(H3.out.p6).cells4;have bf:=(H3.out.p6).free;have F:=hd_ ((H3.out.p6).set4 (.slice (some ⟨g1,0,none⟩) 5 c1) (.slice (some ⟨g2,0,none⟩) 25 c2) (.slice x3 j3 c3) (.slice (some ⟨g4,0,none⟩) 5 c4));go_wp2;obtain⟨i0,i1,i2,i3⟩:=F.out.cells4
  (try simp only[Exit.inBlock,Exit.then])
  refine bodyPost_ret (v:=.agg #[.slice (some ⟨g1,0,none⟩) 5 c1,.slice (some ⟨g2,0,none⟩) 25 c2,.slice x3 j3 c3,.slice (some ⟨g4,0,none⟩) 5 c4]) (by simp[results,results85,go_sem,i0,i1,i2,i3]) rfl ⟨_,_,_,_,n,rfl,N5.out,(dU (F.out.drop.p1.drop.p4.p4.p4.p4.p4) o_).p4.p4.p4.p4⟩
 obtain rfl:p=0:=o_;clear hp p0 p1
 go_wp2_with fail
 refine (H3.out.pick o_ 5 o_ o_).mono ?_;rintro r W4 ⟨kz,rfl,k0,k1,h4⟩;obtain⟨kk,rfl⟩:∃j:Nat,kz=j:=⟨kz.toNat,o_⟩
 have H4:=hd_ h4;clear h4 H3;obtain⟨nd,hnd⟩:=nm_ (aA n (kk:Int));have GX:Hid (n.nodes[kk]? =some nd):=hd_ (by rw[hnd];exact eY OK.out.nodes o_);have ND:=hd_ hnd;clear hnd
 go_wp2_with fail
 refine (H4.out.pick o_ 8 o_ o_).mono ?_;rintro r wS ⟨kd,rfl,d0,d1,h5⟩;have H:=hd_ h5;clear h5 H4
 by_cases e0:kd=0
 case pos=>
  subst e0;have S0:Hid (aH wS (b4L q3 (.slice (some ⟨g1,0,none⟩) 5 c1) (.slice (some ⟨g2,0,none⟩) 25 c2) (.slice x3 j3 c3) (.slice (some ⟨g4,0,none⟩) 5 c4))):=hd_ (by obtain⟨a0,a1,a2,a3⟩:=H.out.p1.cells4;exact⟨a0,a1,a2,a3,trivial⟩);have S1:=hd_ (S0.out.below (Below.drew (Below.refl _ _)));have H1:=hd_ H.out.drew;obtain⟨V,hV⟩:=nm_ wS.drew;rw[<-hV]at H1 S1;have EV:=hd_ hV;clear hV;go_wp2
  refine aC 10 (.tk 0 3 (.take 4 (.alt 3 (.alt 5 (.take 6 (.alt 7 (.tk 8 2 (.alt 10 .done .nomore)) .nomore)) .nomore) (.alt 5 (.alt 3 (.take 6 (.alt 7 (.tk 8 2 (.alt 10 .done .nomore)) .nomore)) .nomore) .nomore)))) (fun w'=>aH w' (b4L q3 (.slice (some ⟨g1,0,none⟩) 5 c1) (.slice (some ⟨g2,0,none⟩) 25 c2) (.slice x3 j3 c3) (.slice (some ⟨g4,0,none⟩) 5 c4))) kr_ kr_ (fun _ _ _ _ _ h=>h) (S0.out.below (Below.drew (Below.refl _ _))) ?_
  rw[<-EV.out];clear H EV S0
  repeat (first|refine tC_ ?_|refine tB_ ?_)
  refine bP r_ (fun K' hK=>?_) ?_
  ·skip
   go_simp;have h4:=H1.out.alloc #[iv 0,iv 21,iv 2] 3;have s4:aH (V.alloc (.cells #[iv 0,iv 21,iv 2] 3)) (b4L q3 (.slice (some ⟨g1,0,none⟩) 5 c1) (.slice (some ⟨g2,0,none⟩) 25 c2) (.slice x3 j3 c3) (.slice (some ⟨g4,0,none⟩) 5 c4)):=by
    obtain⟨a0,a1,a2,a3⟩:=(h4.p2).cells4;exact zAn
   refine hK _ _ (.inr s4) ?_;clear hK K'
   try refine tP_ ?_
   refine aB r_ (fun K' hK=>?_);go_simp;refine ((h4.p1).pick o_ 3 o_ o_).mono ?_;rintro r W5 ⟨z,rfl,z0,z1,h5⟩;have s_h5:aH W5 (b4L q3 (.slice (some ⟨g1,0,none⟩) 5 c1) (.slice (some ⟨g2,0,none⟩) 25 c2) (.slice x3 j3 c3) (.slice (some ⟨g4,0,none⟩) 5 c4)):=by
    obtain⟨a0,a1,a2,a3⟩:=(h5.p2).cells4;exact zAn
   refine hK _ _ (.inr s_h5) ?_;clear hK K'
   try refine tP_ ?_
   obtain⟨jz,rfl⟩:∃n:Nat,z=n:=⟨z.toNat,o_⟩
   have jn:jz<3:=o_;have jn':(jz:Int)<3:=o_;obtain⟨u4,hu4⟩:∃u:Int,(#[iv 0,iv 21,iv 2]:Array Value)[jz]? =some (.int .i64 u):=by
    obtain rfl|rfl|rfl:jz=0\/jz=1\/jz=2:=o_
    all_goals exact⟨_,rfl⟩
   have g4':=(h5.p1).cell hu4;have z00:(0:Int)<=(jz:Int):=o_
   repeat (first|refine tC_ ?_|refine tB_ ?_)
   refine aB r_ (fun K' hK=>?_);go_simp;refine hK _ _ (.inr s_h5) ?_;clear hK K'
   try refine tP_ ?_
   repeat (first|refine tC_ ?_|refine tB_ ?_)
   obtain⟨⟨u,cu⟩,fu,hN⟩:=(M.setNum (h5.p3) GX.out u4).1;refine aB r_ (fun K hK=>?_);go_simp;refine hK _ _ (.inl rfl) ?_;clear hK K
   try refine tP_ ?_
   refine aD ?_;obtain⟨Y,hY⟩:=nm_ (W5.setCell ⟨g1,kk * 5,none⟩ (iv u4));rw[<-hY]at hN ⊢;have HF:=hd_ hN;clear hY hN;obtain⟨a0,a1,a2,a3⟩:=(HF.out.p3).cells4;obtain⟨b0,b1,b2,b3⟩:=(HF.out.p7).cells4;have bf:=(HF.out.p7).free;have F:=hd_ ((HF.out.p7).set4 (.slice (some ⟨g1,0,none⟩) 5 c1) (.slice (some ⟨g2,0,none⟩) 25 c2) (.slice x3 j3 c3) (.slice (some ⟨g4,0,none⟩) 5 c4));go_wp2
   obtain⟨i0,i1,i2,i3⟩:=F.out.cells4
   (try simp only[Exit.inBlock,Exit.then])
   refine bodyPost_ret (v:=.agg #[.slice (some ⟨g1,0,none⟩) 5 c1,.slice (some ⟨g2,0,none⟩) 25 c2,.slice x3 j3 c3,.slice (some ⟨g4,0,none⟩) 5 c4]) (by simp[results,results85,go_sem,i0,i1,i2,i3]) rfl ⟨_,_,_,_,{ n with nodes:=n.nodes.set kk { nd with born:=u4 } },rfl,(by rw[List.length_set];exact N5.out),(dU (F.out.drop.p2.drop.p2.drop.p4.p4.p4.p3.p4) o_).p4.p4.p4.p4⟩
  ·skip
   refine aB r_ (fun K' hK=>?_);go_simp;refine ((H1.out).pick o_ 3 o_ o_).mono ?_;rintro r W4 ⟨z,rfl,z0,z1,h4⟩;have s_h4:aH W4 (b4L q3 (.slice (some ⟨g1,0,none⟩) 5 c1) (.slice (some ⟨g2,0,none⟩) 25 c2) (.slice x3 j3 c3) (.slice (some ⟨g4,0,none⟩) 5 c4)):=by
    obtain⟨a0,a1,a2,a3⟩:=(h4.p1).cells4;exact zAn
   refine hK _ _ (.inr s_h4) ?_;clear hK K'
   try refine tP_ ?_
   refine aB r_ (fun K' hK=>?_);go_simp;have h5:=h4.alloc #[iv 0,iv 21,iv 2] 3;obtain⟨W5,hW5⟩:=nm_ (W4.alloc (.cells #[iv 0,iv 21,iv 2] 3));rw[<-hW5]at h5;have s_h5:aH W5 (b4L q3 (.slice (some ⟨g1,0,none⟩) 5 c1) (.slice (some ⟨g2,0,none⟩) 25 c2) (.slice x3 j3 c3) (.slice (some ⟨g4,0,none⟩) 5 c4)):=by
    obtain⟨a0,a1,a2,a3⟩:=(h5.p2).cells4;exact zAn
   refine hK _ _ (.inr (by rw[<-hW5];exact s_h5)) ?_;clear hK K';rw[<-hW5]
   try refine tP_ ?_
   clear hW5;obtain⟨jz,rfl⟩:∃n:Nat,z=n:=⟨z.toNat,o_⟩
   have jn:jz<3:=o_;have jn':(jz:Int)<3:=o_;obtain⟨u4,hu4⟩:∃u:Int,(#[iv 0,iv 21,iv 2]:Array Value)[jz]? =some (.int .i64 u):=by
    obtain rfl|rfl|rfl:jz=0\/jz=1\/jz=2:=o_
    all_goals exact⟨_,rfl⟩
   have g4':=(h5).cell hu4;have z00:(0:Int)<=(jz:Int):=o_
   repeat (first|refine tC_ ?_|refine tB_ ?_)
   refine aB r_ (fun K' hK=>?_);go_simp;refine hK _ _ (.inr s_h5) ?_;clear hK K'
   try refine tP_ ?_
   repeat (first|refine tC_ ?_|refine tB_ ?_)
   obtain⟨⟨u,cu⟩,fu,hN⟩:=(M.setNum (h5.p3) GX.out u4).1;refine aB r_ (fun K hK=>?_);go_simp;refine hK _ _ (.inl rfl) ?_;clear hK K
   try refine tP_ ?_
   refine aD ?_;obtain⟨Y,hY⟩:=nm_ (W5.setCell ⟨g1,kk * 5,none⟩ (iv u4));rw[<-hY]at hN ⊢;have HF:=hd_ hN;clear hY hN;obtain⟨a0,a1,a2,a3⟩:=(HF.out.p3).cells4;obtain⟨b0,b1,b2,b3⟩:=(HF.out.p7).cells4;have bf:=(HF.out.p7).free;have F:=hd_ ((HF.out.p7).set4 (.slice (some ⟨g1,0,none⟩) 5 c1) (.slice (some ⟨g2,0,none⟩) 25 c2) (.slice x3 j3 c3) (.slice (some ⟨g4,0,none⟩) 5 c4));go_wp2
   obtain⟨i0,i1,i2,i3⟩:=F.out.cells4
   (try simp only[Exit.inBlock,Exit.then])
   refine bodyPost_ret (v:=.agg #[.slice (some ⟨g1,0,none⟩) 5 c1,.slice (some ⟨g2,0,none⟩) 25 c2,.slice x3 j3 c3,.slice (some ⟨g4,0,none⟩) 5 c4]) (by simp[results,results85,go_sem,i0,i1,i2,i3]) rfl ⟨_,_,_,_,{ n with nodes:=n.nodes.set kk { nd with born:=u4 } },rfl,(by rw[List.length_set];exact N5.out),(dU (F.out.drop.p1.drop.p2.drop.p4.p4.p4.p3.p4) o_).p4.p4.p4.p4⟩
 have e0':(kd==0)=false:=by simpa using e0
 by_cases e1:kd=1
 case pos=>
  subst e1;have S0:Hid (aH wS (b4L q3 (.slice (some ⟨g1,0,none⟩) 5 c1) (.slice (some ⟨g2,0,none⟩) 25 c2) (.slice x3 j3 c3) (.slice (some ⟨g4,0,none⟩) 5 c4))):=hd_ (by obtain⟨a0,a1,a2,a3⟩:=H.out.p1.cells4;exact⟨a0,a1,a2,a3,trivial⟩);have S1:=hd_ (S0.out.below (Below.drew (Below.refl _ _)));have H1:=hd_ H.out.drew;obtain⟨V,hV⟩:=nm_ wS.drew;rw[<-hV]at H1 S1;have EV:=hd_ hV;clear hV;go_wp2
  refine aC 7 (.tk 0 4 (.alt 4 (.tk 5 2 (.alt 7 .done .nomore)) .nomore)) (fun w'=>aH w' (b4L q3 (.slice (some ⟨g1,0,none⟩) 5 c1) (.slice (some ⟨g2,0,none⟩) 25 c2) (.slice x3 j3 c3) (.slice (some ⟨g4,0,none⟩) 5 c4))) kr_ kr_ (fun _ _ _ _ _ h=>h) (S0.out.below (Below.drew (Below.refl _ _))) ?_;rw[<-EV.out];clear H EV S0
  repeat (first|refine tC_ ?_|refine tB_ ?_)
  refine aB r_ (fun K' hK=>?_);go_simp;refine ((H1.out).pick o_ 7 o_ o_).mono ?_;rintro r W5 ⟨z,rfl,z0,z1,h5⟩;have s_h5:aH W5 (b4L q3 (.slice (some ⟨g1,0,none⟩) 5 c1) (.slice (some ⟨g2,0,none⟩) 25 c2) (.slice x3 j3 c3) (.slice (some ⟨g4,0,none⟩) 5 c4)):=by
   exact zA9
  refine hK _ _ (.inr s_h5) ?_;clear hK K'
  try refine tP_ ?_
  repeat (first|refine tC_ ?_|refine tB_ ?_)
  obtain⟨⟨u,cu⟩,fu,hN⟩:=(M.setNum (h5.p2) GX.out z).2.2.1;refine aB r_ (fun K hK=>?_);go_simp;refine hK _ _ (.inl rfl) ?_;clear hK K
  try refine tP_ ?_
  refine aD ?_;obtain⟨Y,hY⟩:=nm_ (W5.setCell ⟨g1,kk * 5+3,none⟩ (iv z));rw[<-hY]at hN ⊢;have HF:=hd_ hN;clear hY hN;obtain⟨a0,a1,a2,a3⟩:=(HF.out.p2).cells4;obtain⟨b0,b1,b2,b3⟩:=(HF.out.p6).cells4;have bf:=(HF.out.p6).free;have F:=hd_ ((HF.out.p6).set4 (.slice (some ⟨g1,0,none⟩) 5 c1) (.slice (some ⟨g2,0,none⟩) 25 c2) (.slice x3 j3 c3) (.slice (some ⟨g4,0,none⟩) 5 c4));go_wp2
  obtain⟨i0,i1,i2,i3⟩:=F.out.cells4
  (try simp only[Exit.inBlock,Exit.then])
  refine bodyPost_ret (v:=.agg #[.slice (some ⟨g1,0,none⟩) 5 c1,.slice (some ⟨g2,0,none⟩) 25 c2,.slice x3 j3 c3,.slice (some ⟨g4,0,none⟩) 5 c4]) (by simp[results,results85,go_sem,i0,i1,i2,i3]) rfl ⟨_,_,_,_,{ n with nodes:=n.nodes.set kk { nd with level:=z } },rfl,(by rw[List.length_set];exact N5.out),(dU (F.out.drop.p2.drop.p4.p4.p4.p3.p4) o_).p4.p4.p4.p4⟩
 have e1':(kd==1)=false:=by simpa using e1
 by_cases e2:kd=2
 case pos=>
  subst e2;have S0:Hid (aH wS (b4L q3 (.slice (some ⟨g1,0,none⟩) 5 c1) (.slice (some ⟨g2,0,none⟩) 25 c2) (.slice x3 j3 c3) (.slice (some ⟨g4,0,none⟩) 5 c4))):=hd_ (by obtain⟨a0,a1,a2,a3⟩:=H.out.p1.cells4;exact⟨a0,a1,a2,a3,trivial⟩);have S1:=hd_ (S0.out.below (Below.drew (Below.refl _ _)));have H1:=hd_ H.out.drew;obtain⟨V,hV⟩:=nm_ wS.drew;rw[<-hV]at H1 S1;have EV:=hd_ hV;clear hV;go_wp2
  refine aC 8 (.tk 0 4 (.alt 4 (.tk 5 3 (.alt 8 .done .nomore)) .nomore)) (fun w'=>aH w' (b4L q3 (.slice (some ⟨g1,0,none⟩) 5 c1) (.slice (some ⟨g2,0,none⟩) 25 c2) (.slice x3 j3 c3) (.slice (some ⟨g4,0,none⟩) 5 c4))) kr_ kr_ (fun _ _ _ _ _ h=>h) (S0.out.below (Below.drew (Below.refl _ _))) ?_;rw[<-EV.out];clear H EV S0
  repeat (first|refine tC_ ?_|refine tB_ ?_)
  refine aB r_ (fun K' hK=>?_);go_simp;refine ((H1.out).pick o_ 7 o_ o_).mono ?_;rintro r W5 ⟨z,rfl,z0,z1,h5⟩;have s_h5:aH W5 (b4L q3 (.slice (some ⟨g1,0,none⟩) 5 c1) (.slice (some ⟨g2,0,none⟩) 25 c2) (.slice x3 j3 c3) (.slice (some ⟨g4,0,none⟩) 5 c4)):=by
   exact zA9
  refine hK _ _ (.inr s_h5) ?_;clear hK K'
  try refine tP_ ?_
  have wr1:IntKind.i64.wrap (z - 1)=z - 1:=IntWalk.i64_in _ o_
  repeat (first|refine tC_ ?_|refine tB_ ?_)
  obtain⟨⟨u,cu⟩,fu,hN⟩:=(M.setNum (h5.p2) GX.out (z - 1)).2.2.2;refine aB r_ (fun K hK=>?_);go_simp;refine hK _ _ (.inl rfl) ?_;clear hK K
  try refine tP_ ?_
  refine aD ?_;obtain⟨Y,hY⟩:=nm_ (W5.setCell ⟨g1,kk * 5+4,none⟩ (iv (z - 1)));rw[<-hY]at hN ⊢;have HF:=hd_ hN;clear hY hN;obtain⟨a0,a1,a2,a3⟩:=(HF.out.p2).cells4;obtain⟨b0,b1,b2,b3⟩:=(HF.out.p6).cells4;have bf:=(HF.out.p6).free;have F:=hd_ ((HF.out.p6).set4 (.slice (some ⟨g1,0,none⟩) 5 c1) (.slice (some ⟨g2,0,none⟩) 25 c2) (.slice x3 j3 c3) (.slice (some ⟨g4,0,none⟩) 5 c4));go_wp2
  obtain⟨i0,i1,i2,i3⟩:=F.out.cells4
  (try simp only[Exit.inBlock,Exit.then])
  refine bodyPost_ret (v:=.agg #[.slice (some ⟨g1,0,none⟩) 5 c1,.slice (some ⟨g2,0,none⟩) 25 c2,.slice x3 j3 c3,.slice (some ⟨g4,0,none⟩) 5 c4]) (by simp[results,results85,go_sem,i0,i1,i2,i3]) rfl ⟨_,_,_,_,{ n with nodes:=n.nodes.set kk { nd with up:=(z - 1) } },rfl,(by rw[List.length_set];exact N5.out),(dU (F.out.drop.p2.drop.p4.p4.p4.p3.p4) o_).p4.p4.p4.p4⟩
 have e2':(kd==2)=false:=by simpa using e2
 by_cases e3:kd=3
 case pos=>
  subst e3;obtain⟨r0,hr0⟩:=nm_ (aA n 0);have gr0:n.nodes[0]? =some r0:=by rw[hr0];exact eY (i:=0) OK.out.nodes o_
  have bz:0<=r0.beacon/\r0.beacon<=1000:=by rw[hr0];exact⟨((OK.out.way 0 bA).beacon).1,OK.out.beacon⟩
  obtain⟨fz,hfz⟩:=H.out.p2.nodesRd;obtain⟨gz,_,_,_,evz,_,_,_,_,_,_,_,z2,_,_⟩:=cB hfz gr0;cases evz;rw[Nat.zero_mul,Nat.zero_add]at z2;have wr1:IntKind.i64.wrap (r0.beacon+1)=r0.beacon+1:=IntWalk.i64_in _ o_;clear hr0 gr0 hfz bz
  have S0:Hid (aH wS (b4L q3 (.slice (some ⟨g1,0,none⟩) 5 c1) (.slice (some ⟨g2,0,none⟩) 25 c2) (.slice x3 j3 c3) (.slice (some ⟨g4,0,none⟩) 5 c4)++[(⟨g1,2,none⟩,.int .i64 r0.beacon)])):=hd_ (by obtain⟨a0,a1,a2,a3⟩:=H.out.p1.cells4;exact⟨a0,a1,a2,a3,z2,trivial⟩);have S1:=hd_ (S0.out.below (Below.drew (Below.refl _ _)));have H1:=hd_ (H.out.drew);obtain⟨V,hV⟩:=nm_ wS.drew;rw[<-hV]at H1 S1
  have EV:=hd_ hV;clear hV;go_wp2;refine aC 11 (.tk 0 11 (.alt 11 .done .nomore)) (fun w'=>aH w' (b4L q3 (.slice (some ⟨g1,0,none⟩) 5 c1) (.slice (some ⟨g2,0,none⟩) 25 c2) (.slice x3 j3 c3) (.slice (some ⟨g4,0,none⟩) 5 c4)++[(⟨g1,2,none⟩,.int .i64 r0.beacon)])) kr_ kr_ (fun _ _ _ _ _ h=>h) (S0.out.below (Below.drew (Below.refl _ _))) ?_;rw[<-EV.out]
  clear EV S0
  repeat (first|refine tC_ ?_|refine tB_ ?_)
  obtain⟨⟨u,cu⟩,fu,hN⟩:=(M.setNum (H1.out.p2) GX.out (r0.beacon+1)).2.1;refine aB r_ (fun K hK=>?_);go_simp;refine hK _ _ (.inl rfl) ?_;clear hK K
  try refine tP_ ?_
  refine aD ?_;obtain⟨Y,hY⟩:=nm_ (V.setCell ⟨g1,kk * 5+2,none⟩ (iv (r0.beacon+1)));rw[<-hY]at hN ⊢;have HF:=hd_ hN;clear hY hN;obtain⟨a0,a1,a2,a3⟩:=(HF.out.p2).cells4;obtain⟨b0,b1,b2,b3⟩:=(HF.out.p6).cells4;have bf:=(HF.out.p6).free;have F:=hd_ ((HF.out.p6).set4 (.slice (some ⟨g1,0,none⟩) 5 c1) (.slice (some ⟨g2,0,none⟩) 25 c2) (.slice x3 j3 c3) (.slice (some ⟨g4,0,none⟩) 5 c4));go_wp2
  obtain⟨i0,i1,i2,i3⟩:=F.out.cells4
  (try simp only[Exit.inBlock,Exit.then])
  refine bodyPost_ret (v:=.agg #[.slice (some ⟨g1,0,none⟩) 5 c1,.slice (some ⟨g2,0,none⟩) 25 c2,.slice x3 j3 c3,.slice (some ⟨g4,0,none⟩) 5 c4]) (by simp[results,results85,go_sem,i0,i1,i2,i3]) rfl ⟨_,_,_,_,{ n with nodes:=n.nodes.set kk { nd with beacon:=r0.beacon+1 } },rfl,(by rw[List.length_set];exact N5.out),(dU (F.out.drop.p2.drop.p4.p4.p4.p3.p4) o_).p4.p4.p4.p4⟩
 have e3':(kd==3)=false:=by simpa using e3
 by_cases e4:kd=4
 case pos=>
  subst e4;have hin:aE (kk:Int):=by unfold aE;omega
  obtain⟨en,hen⟩:∃en,nd.known[0]? =some en:=by
   obtain⟨e,he,_⟩:=OK.out.own _ hin;rw[<-ND.out]at he;have:=(iG he).1;exact⟨_,List.getElem?_eq_getElem (by have:=List.length_pos_of_mem this;omega)⟩
  have bn:0<=en.num/\en.num<=100:=by
   have T:=(OK.out.known _ hin).all en (by rw[<-ND.out];exact List.mem_of_getElem? hen);have:=T.num;have hb:=OK.out.born _ T.node;have P:=OK.out.pasts _ T.node;have:(aN n en.node en.born).length<=100:=P.few _ (by
        unfold aN
        rw[List.getD_eq_getElem?_getD,List.getElem?_eq_getElem (by have:=P.len;have:=T.born;omega)]
        exact List.getElem_mem _)
   omega
  have wr1:IntKind.i64.wrap (en.num+1)=en.num+1:=IntWalk.i64_in _ o_;have k0':0<nd.known.length:=(List.getElem?_eq_some_iff.1 hen).1;have k0'':(0:Int)<(nd.known.length:Int):=o_;obtain⟨yk,cyk,hk0⟩:=M.openKnown H.out.p2 GX.out;have gnk:=hk0.p1.hcell (i:=kk) (j:=1) (List.getElem?_eq_some_iff.1 GX.out).1 rfl;obtain⟨gk,capk,ci,evk,hck,hk1⟩:=M.open aP hk0 hen
  obtain⟨ek1,ek2,ek3⟩:=Value.slice.inj evk;cases ek1;cases ek3;clear ek2;obtain⟨V0,rfl,hk2⟩:=M.unentry hk1;have gz:=hk2.p1.hcell (i:=0) (j:=2) k0' rfl;rw[Nat.zero_mul,Nat.zero_add]at gz;obtain⟨kl,hkl⟩:=nm_ nd.known.length;rw[<-hkl]at gnk k0'';have k000:0<kl:=o_;have KL:=hd_ hkl;have HEN:=hd_ hen;have HK2:=hd_ hk2;clear hk0 hk1 hk2 hck bn hin evk hkl hen
  have S0:Hid (aH wS (b4L q3 (.slice (some ⟨g1,0,none⟩) 5 c1) (.slice (some ⟨g2,0,none⟩) 25 c2) (.slice x3 j3 c3) (.slice (some ⟨g4,0,none⟩) 5 c4)++[(⟨g1,kk * 5+1,none⟩,.slice (some ⟨gk,0,none⟩) kl cyk),(⟨gk,2,none⟩,.int .i64 en.num)])):=hd_ (by obtain⟨a0,a1,a2,a3⟩:=H.out.p1.cells4;exact⟨a0,a1,a2,a3,gnk,gz,trivial⟩);have S1:=hd_ (S0.out.below (Below.drew (Below.refl _ _)))
  have H1:=hd_ (HK2.out.drew);obtain⟨V,hV⟩:=nm_ wS.drew;rw[<-hV]at H1 S1;have EV:=hd_ hV;clear hV;go_wp2
  refine aC 18 (.tk 0 18 (.alt 18 .done .nomore)) (fun w'=>aH w' (b4L q3 (.slice (some ⟨g1,0,none⟩) 5 c1) (.slice (some ⟨g2,0,none⟩) 25 c2) (.slice x3 j3 c3) (.slice (some ⟨g4,0,none⟩) 5 c4)++[(⟨g1,kk * 5+1,none⟩,.slice (some ⟨gk,0,none⟩) kl cyk),(⟨gk,2,none⟩,.int .i64 en.num)])) kr_ kr_ (fun _ _ _ _ _ h=>h) (S0.out.below (Below.drew (Below.refl _ _))) ?_
  rw[<-EV.out];clear EV S0
  repeat (first|refine tC_ ?_|refine tB_ ?_)
  have hN:=H1.out.p1.hset (i:=0) k0' (j:=2) o_ (iv (en.num+1));have cu:=H1.out.p1.hcell (i:=0) (j:=2) k0' rfl;have fu:=H1.out.p1.hfree (0 * 10+2);rw[Nat.zero_mul,Nat.zero_add]at hN cu fu;refine aB r_ (fun K hK=>?_);go_simp;refine hK _ _ (.inl rfl) ?_;clear hK K
  try refine tP_ ?_
  refine aD ?_;obtain⟨Y,hY⟩:=nm_ (V.setCell ⟨gk,2,none⟩ (iv (en.num+1)));rw[<-hY]at hN ⊢;have hq:=M.close (FA:=aP) (x:=⟨en.node,en.born,en.num+1,en.s⟩) ((hN.p1).entry en.node en.born (en.num+1)) k0'
  have hq2:=M.close (FA:=aY (T:=TY)) (x:=⟨nd.born,nd.known.set 0 ⟨en.node,en.born,en.num+1,en.s⟩,nd.beacon,nd.level,nd.up⟩) (M.node nd.born nd.beacon nd.level nd.up hq) (List.getElem?_eq_some_iff.1 GX.out).1;have HF:=hd_ hq2;clear hY hN hq hq2 cu fu;obtain⟨a0,a1,a2,a3⟩:=(HF.out.p2).cells4;obtain⟨b0,b1,b2,b3⟩:=(HF.out.p6).cells4;have bf:=(HF.out.p6).free
  have F:=hd_ ((HF.out.p6).set4 (.slice (some ⟨g1,0,none⟩) 5 c1) (.slice (some ⟨g2,0,none⟩) 25 c2) (.slice x3 j3 c3) (.slice (some ⟨g4,0,none⟩) 5 c4));go_wp2;obtain⟨i0,i1,i2,i3⟩:=F.out.cells4
  (try simp only[Exit.inBlock,Exit.then])
  refine bodyPost_ret (v:=.agg #[.slice (some ⟨g1,0,none⟩) 5 c1,.slice (some ⟨g2,0,none⟩) 25 c2,.slice x3 j3 c3,.slice (some ⟨g4,0,none⟩) 5 c4]) (by simp[results,results85,go_sem,i0,i1,i2,i3]) rfl ⟨_,_,_,_,{ n with nodes:=n.nodes.set kk ⟨nd.born,nd.known.set 0 ⟨en.node,en.born,en.num+1,en.s⟩,nd.beacon,nd.level,nd.up⟩ },rfl,(by rw[List.length_set];exact N5.out),(dU (F.out.drop.p2.drop.p4.p4.p4.p3.p4) o_).p4.p4.p4.p4⟩
 have e4':(kd==4)=false:=by simpa using e4
 by_cases e5:kd=5
 case pos=>
  subst e5;have S0:Hid (aH wS (b4L q3 (.slice (some ⟨g1,0,none⟩) 5 c1) (.slice (some ⟨g2,0,none⟩) 25 c2) (.slice x3 j3 c3) (.slice (some ⟨g4,0,none⟩) 5 c4))):=hd_ (by obtain⟨a0,a1,a2,a3⟩:=H.out.p1.cells4;exact⟨a0,a1,a2,a3,trivial⟩);have S1:=hd_ (S0.out.below (Below.drew (Below.refl _ _)));have H1:=hd_ H.out.drew;obtain⟨V,hV⟩:=nm_ wS.drew;rw[<-hV]at H1 S1;have EV:=hd_ hV;clear hV;go_wp2
  refine aC 14 (.tk 0 3 (.take 4 (.take 6 (.take 8 (.alt 3 (.alt 5 (.alt 7 (.alt 9 (.take 10 (.alt 11 (.alt 12 (.take 13 (.alt 14 .done .nomore)) .nomore) .nomore)) .nomore) .nomore) .nomore) .nomore))))) (fun w'=>aH w' (b4L q3 (.slice (some ⟨g1,0,none⟩) 5 c1) (.slice (some ⟨g2,0,none⟩) 25 c2) (.slice x3 j3 c3) (.slice (some ⟨g4,0,none⟩) 5 c4))) kr_ kr_ (fun _ _ _ _ _ h=>h) (S0.out.below (Below.drew (Below.refl _ _))) ?_
  rw[<-EV.out];clear H EV S0
  repeat (first|refine tC_ ?_|refine tB_ ?_)
  refine aB r_ (fun K' hK=>?_);go_simp;refine ((H1.out).pick o_ 4 o_ o_).mono ?_;rintro r W5 ⟨z,rfl,z0,z1,h5⟩;have s_h5:aH W5 (b4L q3 (.slice (some ⟨g1,0,none⟩) 5 c1) (.slice (some ⟨g2,0,none⟩) 25 c2) (.slice x3 j3 c3) (.slice (some ⟨g4,0,none⟩) 5 c4)):=by
   exact zA9
  refine hK _ _ (.inr s_h5) ?_;clear hK K'
  try refine tP_ ?_
  refine aB r_ (fun K' hK=>?_);go_simp;refine ((h5).pick o_ 6 o_ o_).mono ?_;rintro r W6 ⟨y,rfl,y0,y1,h6⟩;have s_h6:aH W6 (b4L q3 (.slice (some ⟨g1,0,none⟩) 5 c1) (.slice (some ⟨g2,0,none⟩) 25 c2) (.slice x3 j3 c3) (.slice (some ⟨g4,0,none⟩) 5 c4)):=by
   obtain⟨a0,a1,a2,a3⟩:=(h6.p1).cells4;exact zAn
  refine hK _ _ (.inr s_h6) ?_;clear hK K'
  try refine tP_ ?_
  refine aB r_ (fun K' hK=>?_);go_simp;refine ((h6).pick o_ 6 o_ o_).mono ?_;rintro r W7 ⟨x,rfl,x0,x1,h7⟩;have s_h7:aH W7 (b4L q3 (.slice (some ⟨g1,0,none⟩) 5 c1) (.slice (some ⟨g2,0,none⟩) 25 c2) (.slice x3 j3 c3) (.slice (some ⟨g4,0,none⟩) 5 c4)):=by
   obtain⟨a0,a1,a2,a3⟩:=(h7.p1).cells4;exact zAn
  refine hK _ _ (.inr s_h7) ?_;clear hK K'
  try refine tP_ ?_
  refine aB r_ (fun K' hK=>?_);go_simp;refine ((h7).pick o_ 6 o_ o_).mono ?_;rintro r W8 ⟨v,rfl,v0,v1,h8⟩;have s_h8:aH W8 (b4L q3 (.slice (some ⟨g1,0,none⟩) 5 c1) (.slice (some ⟨g2,0,none⟩) 25 c2) (.slice x3 j3 c3) (.slice (some ⟨g4,0,none⟩) 5 c4)):=by
   obtain⟨a0,a1,a2,a3⟩:=(h8.p1).cells4;exact zAn
  refine hK _ _ (.inr s_h8) ?_;clear hK K'
  try refine tP_ ?_
  repeat (first|refine tC_ ?_|refine tB_ ?_)
  have h9:=((M.word z y x 0 v ((h8.p4).nil aP 64 10)).alloc #[iv z,iv y,iv x,iv 0,iv v,zn] 123).p2.p1;refine aB r_ (fun K hK=>?_);go_simp
  have s9:aH (W8.alloc (.cells #[iv z,iv y,iv x,iv 0,iv v,zn] 123)) (b4L q3 (.slice (some ⟨g1,0,none⟩) 5 c1) (.slice (some ⟨g2,0,none⟩) 25 c2) (.slice x3 j3 c3) (.slice (some ⟨g4,0,none⟩) 5 c4)):=s_h8.below ((Below.refl _ _).alloc lr_ _);refine hK _ _ (.inr s9) ?_;clear hK K
  try refine tP_ ?_
  have JW:Hid (n.words.length+1=j3+1):=hd_ (by rw[J3.out]);have w24:=OK.out.words;refine aB r_ (fun K hK=>aAP sC (pO (T:=TY)) h9 r_ r_ r_ r_ (by unfold maxLen;omega) o_ (N:=j3+1) (by rw[JW.out]) (fun yw capw W9 h10=>?_))
  have s10:aH W9 (b4L q3 (.slice (some ⟨g1,0,none⟩) 5 c1) (.slice (some ⟨g2,0,none⟩) 25 c2) (.slice x3 j3 c3) (.slice (some ⟨g4,0,none⟩) 5 c4)):=by
   obtain⟨a0,a1,a2,a3⟩:=(h10.p2).cells4;exact zAn
  refine hK _ _ (.inr s10) ?_;clear hK K
  try refine tP_ ?_
  repeat (first|refine tC_ ?_|refine tB_ ?_)
  obtain⟨a0,a1,a2,a3⟩:=(h10.p2).cells4;have af:=(h10.p2).free;have hN:=(h10.p2).set (i:=2) (.slice yw (j3+1) capw);simp only[List.setIfInBounds_toArray,List.set_cons_zero,List.set_cons_succ]at hN;refine aB r_ (fun K hK=>?_);go_simp;refine hK _ _ (.inl rfl) ?_;clear hK K
  try refine tP_ ?_
  refine aD ?_;obtain⟨Y,hY⟩:=nm_ (W9.setCell ⟨q3,2,none⟩ (.slice yw (j3+1) capw));rw[<-hY]at hN ⊢;have HF:=hd_ hN;clear hY hN;clear a0 a1 a2 a3;obtain⟨a0,a1,a2,a3⟩:=(HF.out).cells4;obtain⟨b0,b1,b2,b3⟩:=(HF.out.p6).cells4;have bf:=(HF.out.p6).free
  have F:=hd_ ((HF.out.p6).set4 (.slice (some ⟨g1,0,none⟩) 5 c1) (.slice (some ⟨g2,0,none⟩) 25 c2) (.slice yw (j3+1) capw) (.slice (some ⟨g4,0,none⟩) 5 c4));go_wp2;obtain⟨i0,i1,i2,i3⟩:=F.out.cells4
  (try simp only[Exit.inBlock,Exit.then])
  refine bodyPost_ret (v:=.agg #[.slice (some ⟨g1,0,none⟩) 5 c1,.slice (some ⟨g2,0,none⟩) 25 c2,.slice yw (j3+1) capw,.slice (some ⟨g4,0,none⟩) 5 c4]) (by simp[results,results85,go_sem,i0,i1,i2,i3]) rfl ⟨_,_,_,_,{ n with words:=n.words++[⟨z,y,x,0,v,[]⟩] },rfl,N5.out,(dU (F.out.drop.drop.p4.p1.p4.p4.p4) o_).p4.p4.p4.p4⟩
 have e5':(kd==5)=false:=by simpa using e5
 by_cases e6:kd=6
 case pos=>
  subst e6;have S0:Hid (aH wS (b4L q3 (.slice (some ⟨g1,0,none⟩) 5 c1) (.slice (some ⟨g2,0,none⟩) 25 c2) (.slice x3 j3 c3) (.slice (some ⟨g4,0,none⟩) 5 c4))):=hd_ (by obtain⟨a0,a1,a2,a3⟩:=H.out.p1.cells4;exact⟨a0,a1,a2,a3,trivial⟩);have S1:=hd_ (S0.out.below (Below.drew (Below.refl _ _)));have H1:=hd_ H.out.drew;obtain⟨V,hV⟩:=nm_ wS.drew;rw[<-hV]at H1 S1;have EV:=hd_ hV;clear hV;go_wp2
  refine aC 5 (.tk 0 3 (.alt 3 (.take 4 (.alt 5 .done .nomore)) .nomore)) (fun w'=>aH w' (b4L q3 (.slice (some ⟨g1,0,none⟩) 5 c1) (.slice (some ⟨g2,0,none⟩) 25 c2) (.slice x3 j3 c3) (.slice (some ⟨g4,0,none⟩) 5 c4))) kr_ kr_ (fun _ _ _ _ _ h=>h) (S0.out.below (Below.drew (Below.refl _ _))) ?_;rw[<-EV.out];clear H EV S0
  repeat (first|refine tC_ ?_|refine tB_ ?_)
  refine aB r_ (fun K' hK=>?_);go_simp;refine ((H1.out).pick o_ 25 o_ o_).mono ?_;rintro r W5 ⟨z,rfl,z0,z1,h5⟩;have s_h5:aH W5 (b4L q3 (.slice (some ⟨g1,0,none⟩) 5 c1) (.slice (some ⟨g2,0,none⟩) 25 c2) (.slice x3 j3 c3) (.slice (some ⟨g4,0,none⟩) 5 c4)):=by
   exact zA9
  refine hK _ _ (.inr s_h5) ?_;clear hK K'
  try refine tP_ ?_
  obtain⟨jz,rfl⟩:∃n:Nat,z=n:=⟨z.toNat,o_⟩
  have jn:jz<25:=o_;have jn':(jz:Int)<25:=o_;have z00:(0:Int)<=(jz:Int):=o_;obtain⟨⟨u,cu⟩,fu,hN⟩:=(h5.p3).setEl (i:=jz) (by rw[OK.out.links];exact jn) true (u:=.bool true) rfl
  repeat (first|refine tC_ ?_|refine tB_ ?_)
  refine aB r_ (fun K hK=>?_);go_simp;refine hK _ _ (.inl rfl) ?_;clear hK K
  try refine tP_ ?_
  refine aD ?_;obtain⟨Y,hY⟩:=nm_ (W5.setCell ⟨g2,jz,none⟩ (.bool true));rw[<-hY]at hN ⊢;have HF:=hd_ hN;clear hY hN;obtain⟨a0,a1,a2,a3⟩:=(HF.out.p2).cells4;obtain⟨b0,b1,b2,b3⟩:=(HF.out.p6).cells4;have bf:=(HF.out.p6).free;have F:=hd_ ((HF.out.p6).set4 (.slice (some ⟨g1,0,none⟩) 5 c1) (.slice (some ⟨g2,0,none⟩) 25 c2) (.slice x3 j3 c3) (.slice (some ⟨g4,0,none⟩) 5 c4));go_wp2
  obtain⟨i0,i1,i2,i3⟩:=F.out.cells4
  (try simp only[Exit.inBlock,Exit.then])
  refine bodyPost_ret (v:=.agg #[.slice (some ⟨g1,0,none⟩) 5 c1,.slice (some ⟨g2,0,none⟩) 25 c2,.slice x3 j3 c3,.slice (some ⟨g4,0,none⟩) 5 c4]) (by simp[results,results85,go_sem,i0,i1,i2,i3]) rfl ⟨_,_,_,_,{ n with links:=n.links.set jz true },rfl,N5.out,(dU (F.out.drop.p2.drop.p4.p4.p2.p4.p4) o_).p4.p4.p4.p4⟩
 have e6':(kd==6)=false:=by simpa using e6
 clear e0 e1 e2 e3 e4 e5 e6;have hin:aE (kk:Int):=by unfold aE;omega
 have gr:=pJ OK.out.past (show kk<5 by omega);obtain⟨rs,hrs⟩:=nm_ (aO n (kk:Int));have P:=OK.out.pasts _ hin;have hb:=OK.out.born _ hin;have pl:=P.len;have pf:=P.few;rw[<-hrs]at gr pl pf;obtain⟨l1,hl1⟩:∃l1,rs[1]? =some l1:=⟨_,List.getElem?_eq_getElem o_⟩
 have l100:l1.length<=100:=pf _ (List.mem_of_getElem? hl1);have r2:1<rs.length:=(List.getElem?_eq_some_iff.1 hl1).1;obtain⟨gq,capq,ci,evq,hcq,ho1⟩:=M.open bS H.out.p5 gr;obtain⟨eq1,eq2,eq3⟩:=Value.slice.inj evq;cases eq1;cases eq3;clear evq eq2;obtain⟨vr,rfl⟩:=sL hcq;have gp:=ho1.p1.hcell1 (List.getElem?_eq_some_iff.1 gr).1
 obtain⟨g6,cap6,ci6,ev6,hc6,ho2⟩:=M.open (A:=uD) cK (e:=23) (size:=1) (v:=vr) (xs:=rs) ho1 hl1;cases ev6;obtain⟨vq,rfl⟩:=sL hc6;have gq2:=ho2.p1.hcell1 r2;obtain⟨xq,cq,evv,_⟩:∃x c,vq=.slice x l1.length c/\True:=by
  obtain⟨f,hf,_⟩:=ho2.first;obtain⟨x,c,e,_⟩:=yI hf;exact⟨x,c,e,trivial⟩
 subst evv;obtain⟨ll,hll⟩:=nm_ l1.length;obtain⟨rl,hrl⟩:=nm_ rs.length;rw[<-hrl]at gp;rw[<-hll]at gq2;have LL:=hd_ hll;have RL2:=hd_ hrl;have rl1:(1:Int)<(rl:Int):=o_;have rl2:1<rl:=o_;have HO:=hd_ ho2;have GR:=hd_ gr;have R2:=hd_ r2;clear ho1 ho2 hcq hc6 hin gr P hb pl pf hl1 hll hrl r2 hrs
 have S0:Hid (aH wS (b4L q3 (.slice (some ⟨g1,0,none⟩) 5 c1) (.slice (some ⟨g2,0,none⟩) 25 c2) (.slice x3 j3 c3) (.slice (some ⟨g4,0,none⟩) 5 c4)++[(⟨g4,kk,none⟩,.slice (some ⟨g6,0,none⟩) rl cap6),(⟨g6,1,none⟩,.slice xq ll cq)])):=hd_ (by obtain⟨a0,a1,a2,a3⟩:=H.out.p1.cells4;exact⟨a0,a1,a2,a3,gp,gq2,trivial⟩);have S1:=hd_ (S0.out.below (Below.drew (Below.refl _ _)));have H1:=hd_ (HO.out.drew)
 obtain⟨V,hV⟩:=nm_ wS.drew;rw[<-hV]at H1 S1;have EV:=hd_ hV;clear hV;go_wp2
 refine aC 18 (.tk 0 13 (.alt 13 (.take 14 (.alt 15 (.alt 16 (.take 17 (.alt 18 .done .nomore)) .nomore) .nomore)) .nomore)) (fun w'=>aH w' (b4L q3 (.slice (some ⟨g1,0,none⟩) 5 c1) (.slice (some ⟨g2,0,none⟩) 25 c2) (.slice x3 j3 c3) (.slice (some ⟨g4,0,none⟩) 5 c4)++[(⟨g4,kk,none⟩,.slice (some ⟨g6,0,none⟩) rl cap6),(⟨g6,1,none⟩,.slice xq ll cq)])) kr_ kr_ (fun _ _ _ _ _ h=>h) (S0.out.below (Below.drew (Below.refl _ _))) ?_
 rw[<-EV.out];clear EV S0
 repeat (first|refine tC_ ?_|refine tB_ ?_)
 refine aB r_ (fun K' hK=>?_);go_simp;refine ((H1.out.p3).pick o_ 66 o_ o_).mono ?_;rintro r W5 ⟨z,rfl,z0,z1,h5⟩;have s_h5:aH W5 (b4L q3 (.slice (some ⟨g1,0,none⟩) 5 c1) (.slice (some ⟨g2,0,none⟩) 25 c2) (.slice x3 j3 c3) (.slice (some ⟨g4,0,none⟩) 5 c4)++[(⟨g4,kk,none⟩,.slice (some ⟨g6,0,none⟩) rl cap6),(⟨g6,1,none⟩,.slice xq ll cq)]):=by
  obtain⟨a0,a1,a2,a3⟩:=(h5.p4).cells4;have y1:=(h5.p3).hcell1 (List.getElem?_eq_some_iff.1 GR.out).1;have y2:=(h5.p2).hcell1 R2.out;rw[<-LL.out]at y2;rw[<-RL2.out]at y1;exact⟨a0,a1,a2,a3,y1,y2,trivial⟩
 refine hK _ _ (.inr s_h5) ?_;clear hK K'
 try refine tP_ ?_
 have wr1:IntKind.i64.wrap (z - 1)=z - 1:=IntWalk.i64_in _ o_
 repeat (first|refine tC_ ?_|refine tB_ ?_)
 have h6:=h5.alloc #[iv (z - 1)] 3;refine aB r_ (fun K hK=>?_);go_simp;have s6:aH (W5.alloc (.cells #[iv (z - 1)] 3)) (b4L q3 (.slice (some ⟨g1,0,none⟩) 5 c1) (.slice (some ⟨g2,0,none⟩) 25 c2) (.slice x3 j3 c3) (.slice (some ⟨g4,0,none⟩) 5 c4)++[(⟨g4,kk,none⟩,.slice (some ⟨g6,0,none⟩) rl cap6),(⟨g6,1,none⟩,.slice xq ll cq)]):=s_h5.below ((Below.refl _ _).alloc lr_ _)
 refine hK _ _ (.inr s6) ?_;clear hK K
 try refine tP_ ?_
 refine aB r_ (fun K hK=>aG9 (v:=.slice xq ll cq) (zs:=l1) (ys:=[z - 1]) (by rw[LL.out];exact h6.p2) (aCN h6) (by simp) r_ r_ r_ r_ (by simp only[List.length_cons,List.length_nil];omega) (N:=ll+1) (by rw[LL.out];rfl) (fun yr capr W8 h8=>?_))
 have s8:aH W8 (b4L q3 (.slice (some ⟨g1,0,none⟩) 5 c1) (.slice (some ⟨g2,0,none⟩) 25 c2) (.slice x3 j3 c3) (.slice (some ⟨g4,0,none⟩) 5 c4)++[(⟨g4,kk,none⟩,.slice (some ⟨g6,0,none⟩) rl cap6),(⟨g6,1,none⟩,.slice xq ll cq)]):=by
  obtain⟨a0,a1,a2,a3⟩:=(h8.p5).cells4;have y1:=(h8.p4).hcell1 (List.getElem?_eq_some_iff.1 GR.out).1;have y2:=(h8.p3).hcell1 R2.out;rw[<-LL.out]at y2;rw[<-RL2.out]at y1;exact⟨a0,a1,a2,a3,y1,y2,trivial⟩
 refine hK _ _ (.inr s8) ?_;clear hK K
 try refine tP_ ?_
 repeat (first|refine tC_ ?_|refine tB_ ?_)
 have h9:=(h8.p1.drop.p8.p8.p8.p8.p8.p6.p8.p7.p8)
 have cu:=h9.hcell1 R2.out;have fu:=h9.hfree 1;have hN:=h9.hset1 R2.out (.slice yr (ll+1) capr);refine aB r_ (fun K hK=>?_);go_simp;refine hK _ _ (.inl rfl) ?_;clear hK K
 try refine tP_ ?_
 refine aD ?_;obtain⟨Y,hY⟩:=nm_ (W8.setCell ⟨g6,1,none⟩ (.slice yr (ll+1) capr));rw[<-hY]at hN ⊢;have hq:=M.close (FA:=cK) (ci:=[.slice yr (ll+1) capr]) (x:=l1++[z - 1]) hN.p1 R2.out;have hq2:=M.close (FA:=bS) (ci:=[.slice (some ⟨g6,0,none⟩) rs.length cap6]) (x:=rs.set 1 (l1++[z - 1])) hq (List.getElem?_eq_some_iff.1 GR.out).1;have HF:=hd_ hq2;clear hY hN hq hq2 cu fu h9
 obtain⟨a0,a1,a2,a3⟩:=(HF.out.p2).cells4;obtain⟨b0,b1,b2,b3⟩:=(HF.out.p6).cells4;have bf:=(HF.out.p6).free;have F:=hd_ ((HF.out.p6).set4 (.slice (some ⟨g1,0,none⟩) 5 c1) (.slice (some ⟨g2,0,none⟩) 25 c2) (.slice x3 j3 c3) (.slice (some ⟨g4,0,none⟩) 5 c4));go_wp2;obtain⟨i0,i1,i2,i3⟩:=F.out.cells4
 (try simp only[Exit.inBlock,Exit.then])
 refine bodyPost_ret (v:=.agg #[.slice (some ⟨g1,0,none⟩) 5 c1,.slice (some ⟨g2,0,none⟩) 25 c2,.slice x3 j3 c3,.slice (some ⟨g4,0,none⟩) 5 c4]) (by simp[results,results85,go_sem,i0,i1,i2,i3]) rfl ⟨_,_,_,_,{ n with past:=n.past.set kk (rs.set 1 (l1++[z - 1])) },rfl,N5.out,(dU (F.out.drop.p2.drop.p4.p4.p4.p4) o_).p4.p4.p4.p4⟩
end
section
variable {B:Nat} {w0 w:World} {l:List Ch}
theorem aDw {v:Value} {n:Nat} (h:M B w0 w l) (hv:∃x cap,v=.slice x n cap) (ht:Bts w0 B v n):Calls prog 24 #[v] w fun e w'=>∃v1 v2 v3 v4,∃m:Nt,e=.returned (.agg #[v1,v2,v3,v4])/\m.nodes.length=5/\M B w0 w' (bE v1 m.nodes::bY v2 m.links::bG v3 m.words::dN v4 m.past::l):=by
 have h0:=h.alloc #[zn,zn,zn,zn] 30;obtain⟨q2,hq2⟩:=nm_ w.heap.size;obtain⟨W0,hW0⟩:=nm_ (w.alloc (.cells #[zn,zn,zn,zn] 30));rw[<-hW0, <-hq2]at h0;have H0:=hd_ h0;clear h h0;go_enter func24,ntmps24;go_upto_region 1 with fail
 rw[<-hW0, <-hq2];clear hW0 hq2
 go_wp2_with fail
 refine (H0.out.openRd hv ht).mono ?_;rintro e w1 ⟨rfl,h1⟩;have H1:=hd_ h1;clear h1 H0;generalize W0.heap.size=a at H1 ⊢
 go_wp2_with fail
 refine (uU H1.out o_).mono ?_;rintro e W1 ⟨v1,v2,v3,v4,m,rfl,h5,h1⟩;obtain⟨x1,c1,rfl,_⟩:=M.form h1;obtain⟨x2,c2,rfl,_⟩:=M.form h1.p1;obtain⟨x3,c3,rfl,_⟩:=M.form h1.p2;obtain⟨x4,c4,rfl,_⟩:=M.form h1.p3;obtain⟨f1,hf1⟩:=h1.nodesRd;obtain⟨g1,_,_,_,rfl,_⟩:=cB hf1 (eY (i:=0) h5 o_);obtain⟨j2,hj2⟩:=nm_ m.links.length;obtain⟨j3,hj3⟩:=nm_ m.words.length
 obtain⟨j4,hj4⟩:=nm_ m.past.length;rw[h5, <-hj2, <-hj3, <-hj4]at h1 ⊢;clear hj2 hj3 hj4 hf1;have N5:=hd_ h5;have h2:=h1.alloc #[.slice (some ⟨g1,0,none⟩) 5 c1,.slice x2 j2 c2,.slice x3 j3 c3,.slice x4 j4 c4] 30;obtain⟨q3,hq3⟩:=nm_ W1.heap.size;obtain⟨W2,hW2⟩:=nm_ (W1.alloc (.cells #[.slice (some ⟨g1,0,none⟩) 5 c1,.slice x2 j2 c2,.slice x3 j3 c3,.slice x4 j4 c4] 30));rw[<-hW2, <-hq3]at h2
 have H2:=hd_ h2.p5;clear h1 h2 H1 h5;go_upto_region 3 with fail
 rw[<-hW2, <-hq3];clear hW2 hq3
 go_wp2_with fail
 refine (H2.out.pick o_ 4 o_ o_).mono ?_;rintro r W3 ⟨p,rfl,p0,p1,h3⟩;have H3:=hd_ h3;clear h3 H2
 by_cases hp:p=0
 case neg=>
  have hp':(p==0)=false:=by simpa using hp
  obtain⟨a0,a1,a2,a3⟩:=(H3.out.p1).cells4;obtain⟨b0,b1,b2,b3⟩:=(H3.out.p6).cells4;have bf:=(H3.out.p6).free;have F:=hd_ ((H3.out.p6).set4 (.slice (some ⟨g1,0,none⟩) 5 c1) (.slice x2 j2 c2) (.slice x3 j3 c3) (.slice x4 j4 c4));go_wp2;obtain⟨i0,i1,i2,i3⟩:=F.out.cells4
  (try simp only[Exit.inBlock,Exit.then])
  exact bodyPost_ret (v:=.agg #[.slice (some ⟨g1,0,none⟩) 5 c1,.slice x2 j2 c2,.slice x3 j3 c3,.slice x4 j4 c4]) (by simp[results,results24,go_sem,i0,i1,i2,i3]) rfl ⟨_,_,_,_,m,rfl,N5.out,F.out.drop.drop.drop⟩
 subst hp;obtain⟨a0,a1,a2,a3⟩:=(H3.out.p1).cells4
 go_wp2_with fail
 refine (H3.out.pick o_ 5 o_ o_).mono ?_;rintro r wS ⟨kz,rfl,k0,k1,h4⟩;obtain⟨kk,rfl⟩:∃j:Nat,kz=j:=⟨kz.toNat,o_⟩
 have H:=hd_ h4;clear h4 H3 a0 a1 a2 a3;obtain⟨nd,hnd⟩:=nm_ (aA m (kk:Int));have GX:Hid (m.nodes[kk]? =some nd):=hd_ (by rw[hnd];exact eY N5.out o_);clear hnd;have S0:Hid (aH wS (b4L q3 (.slice (some ⟨g1,0,none⟩) 5 c1) (.slice x2 j2 c2) (.slice x3 j3 c3) (.slice x4 j4 c4))):=hd_ (by obtain⟨a0,a1,a2,a3⟩:=H.out.p1.cells4;exact⟨a0,a1,a2,a3,trivial⟩)
 have S1:=hd_ (S0.out.below (Below.drew (Below.refl _ _)));have H1:=hd_ H.out.drew;obtain⟨V,hV⟩:=nm_ wS.drew;rw[<-hV]at H1 S1;have EV:=hd_ hV;clear hV;go_wp2
 refine aC 7 (.tk 0 4 (.alt 4 (.tk 5 2 (.alt 7 .done .nomore)) .nomore)) (fun w'=>aH w' (b4L q3 (.slice (some ⟨g1,0,none⟩) 5 c1) (.slice x2 j2 c2) (.slice x3 j3 c3) (.slice x4 j4 c4))) kr_ kr_ (fun _ _ _ _ _ h=>h) (S0.out.below (Below.drew (Below.refl _ _))) ?_;rw[<-EV.out];clear H EV S0
 repeat (first|refine tC_ ?_|refine tB_ ?_)
 refine aB r_ (fun K' hK=>?_);go_simp;refine ((H1.out).pick o_ 6 o_ o_).mono ?_;rintro r W5 ⟨z,rfl,z0,z1,h5⟩;have s_h5:aH W5 (b4L q3 (.slice (some ⟨g1,0,none⟩) 5 c1) (.slice x2 j2 c2) (.slice x3 j3 c3) (.slice x4 j4 c4)):=by
  exact zA9
 refine hK _ _ (.inr s_h5) ?_;clear hK K'
 try refine tP_ ?_
 repeat (first|refine tC_ ?_|refine tB_ ?_)
 obtain⟨⟨u,cu⟩,fu,hN⟩:=(M.setNum (h5.p2) GX.out z).2.2.1;refine aB r_ (fun K hK=>?_);go_simp;refine hK _ _ (.inl rfl) ?_;clear hK K
 try refine tP_ ?_
 refine aD ?_;obtain⟨Y,hY⟩:=nm_ (W5.setCell ⟨g1,kk * 5+3,none⟩ (iv z));rw[<-hY]at hN ⊢;have HF:=hd_ hN;clear hY hN;obtain⟨a0,a1,a2,a3⟩:=(HF.out.p2).cells4;obtain⟨b0,b1,b2,b3⟩:=(HF.out.p6).cells4;have bf:=(HF.out.p6).free;have F:=hd_ ((HF.out.p6).set4 (.slice (some ⟨g1,0,none⟩) 5 c1) (.slice x2 j2 c2) (.slice x3 j3 c3) (.slice x4 j4 c4));go_wp2;obtain⟨i0,i1,i2,i3⟩:=F.out.cells4
 (try simp only[Exit.inBlock,Exit.then])
 exact bodyPost_ret (v:=.agg #[.slice (some ⟨g1,0,none⟩) 5 c1,.slice x2 j2 c2,.slice x3 j3 c3,.slice x4 j4 c4]) (by simp[results,results24,go_sem,i0,i1,i2,i3]) rfl ⟨_,_,_,_,{ m with nodes:=m.nodes.set kk { nd with level:=z } },rfl,(by rw[List.length_set];exact N5.out),F.out.drop.p2.drop.p1.drop⟩
end
section
variable {B:Nat} {w0 w:World} {l:List Ch}
theorem zS {v:Value} {n:Nat} (h:M B w0 w l) (hv:∃x cap,v=.slice x n cap) (ht:Bts w0 B v n):Calls prog 31 #[v] w fun e w'=>∃v1 v2 v3 v4,∃m:Nt,∃i:Int,e=.returned (.tuple #[.agg #[v1,v2,v3,v4],iv i])/\ -1<=i/\i<=5/\m.nodes.length=5/\M B w0 w' (bE v1 m.nodes::bY v2 m.links::bG v3 m.words::dN v4 m.past::l):=by
 have h0:=h.alloc #[zn,zn,zn,zn] 30;obtain⟨q2,hq2⟩:=nm_ w.heap.size;obtain⟨W0,hW0⟩:=nm_ (w.alloc (.cells #[zn,zn,zn,zn] 30));rw[<-hW0, <-hq2]at h0;have H0:=hd_ h0;clear h h0;go_enter func31,ntmps31;go_upto_region 1 with fail
 rw[<-hW0, <-hq2];clear hW0 hq2
 go_wp2_with fail
 refine (H0.out.openRd hv ht).mono ?_;rintro e w1 ⟨rfl,h1⟩;have H1':=hd_ h1;clear h1 H0;generalize W0.heap.size=a at H1' ⊢;have H1:=hd_ H1'.out.drew;obtain⟨V,hV⟩:=nm_ w1.drew;rw[<-hV]at H1;have EV:=hd_ hV;clear hV H1';go_upto_region 2 with fail
 refine aC 99 (.take 0 (.take 3 (.alt 1 (.alt 2 (.alt 4 (.take 5 (.alt 6 (.alt 7 (.alt 8 .done .nomore) .nomore) (.alt 7 (.alt 6 (.alt 8 .done .nomore) .nomore) .nomore))) .nomore) (.alt 4 (.alt 2 (.take 5 (.alt 6 (.alt 7 (.alt 8 .done .nomore) .nomore) (.alt 7 (.alt 6 (.alt 8 .done .nomore) .nomore) .nomore))) (.alt 7 (.alt 2 (.take 5 (.alt 6 (.alt 8 .done .nomore) .nomore)) .nomore) .nomore)) .nomore)) (.alt 2 (.alt 1 (.alt 4 (.take 5 (.alt 6 (.alt 7 (.alt 8 .done .nomore) .nomore) (.alt 7 (.alt 6 (.alt 8 .done .nomore) .nomore) .nomore))) .nomore) .nomore) .nomore)))) (fun _=>True) kr_ kr_ (fun _ _ _ _ _ h=>h) trivial ?_
 rw[<-EV.out];clear EV
 repeat (first|refine tA_ ?_|refine tB_ ?_)
 refine bP r_ (fun K' hK=>?_) ?_
 ·skip
  go_simp;refine (uU (H1.out) o_).mono ?_;rintro r W2 ⟨v1,v2,v3,v4,m,rfl,m5,h2⟩;obtain⟨x1,c1,rfl,_⟩:=M.form h2;obtain⟨x2,c2,rfl,_⟩:=M.form h2.p1;obtain⟨x3,c3,rfl,_⟩:=M.form h2.p2;obtain⟨x4,c4,rfl,_⟩:=M.form h2.p3;have N5:=hd_ m5;clear m5;refine hK _ _ (.inr trivial) ?_;clear hK K'
  try refine tP_ ?_
  refine bP r_ (fun K' hK=>?_) ?_
  ·skip
   go_simp;have h3:=(h2).alloc #[iv 0,iv 0,iv 1,iv 2,iv 3,iv 4,iv (-1),iv 5] 3;obtain⟨Y1,hY1⟩:=nm_ (W2.alloc (.cells #[iv 0,iv 0,iv 1,iv 2,iv 3,iv 4,iv (-1),iv 5] 3));rw[<-hY1]at h3 ⊢;clear hY1;refine hK _ _ (.inr trivial) ?_;clear hK K'
   try refine tP_ ?_
   refine aB r_ (fun K' hK=>?_);go_simp;refine ((h3.p5).pick o_ 8 o_ o_).mono ?_;rintro r W4 ⟨z,rfl,z0,z1,h4⟩;refine hK _ _ (.inr trivial) ?_;clear hK K'
   try refine tP_ ?_
   obtain⟨jz,rfl⟩:∃n:Nat,z=n:=⟨z.toNat,o_⟩
   have jn:jz<8:=o_;have jn':(jz:Int)<8:=o_;obtain⟨u,u0,u1,hu⟩:∃u:Int, -1<=u/\u<=5/\(#[iv 0,iv 0,iv 1,iv 2,iv 3,iv 4,iv (-1),iv 5]:Array Value)[jz]? =some (.int .i64 u):=by
    exact zAR
   have z00:(0:Int)<=(jz:Int):=o_;have gz:=(h4.p1).cell hu
   repeat (first|refine tA_ ?_|refine tB_ ?_)
   refine bP r_ (fun K' hK=>?_) ?_
   ·skip
    go_simp;refine hK _ _ (.inr trivial) ?_;clear hK K'
    try refine tP_ ?_
    obtain⟨b0,b1,b2,b3⟩:=(h4.p6).cells4;have bf:=(h4.p6).free;have h5:=(h4.p6).set4 (.slice x1 m.nodes.length c1) (.slice x2 m.links.length c2) (.slice x3 m.words.length c3) (.slice x4 m.past.length c4);refine aB r_ (fun K hK=>?_);go_simp
    obtain⟨Y9,hY9⟩:=nm_ ((((W4.setCell ⟨q2,0,none⟩ (.slice x1 m.nodes.length c1)).setCell ⟨q2,1,none⟩ (.slice x2 m.links.length c2)).setCell ⟨q2,2,none⟩ (.slice x3 m.words.length c3)).setCell ⟨q2,3,none⟩ (.slice x4 m.past.length c4));rw[<-hY9]at h5 ⊢;clear hY9;exact zo
   ·skip
    clear gz;obtain⟨b0,b1,b2,b3⟩:=(h4.p6).cells4;have bf:=(h4.p6).free;have h5:=(h4.p6).set4 (.slice x1 m.nodes.length c1) (.slice x2 m.links.length c2) (.slice x3 m.words.length c3) (.slice x4 m.past.length c4);refine aB r_ (fun K hK=>?_);go_simp
    obtain⟨Y9,hY9⟩:=nm_ ((((W4.setCell ⟨q2,0,none⟩ (.slice x1 m.nodes.length c1)).setCell ⟨q2,1,none⟩ (.slice x2 m.links.length c2)).setCell ⟨q2,2,none⟩ (.slice x3 m.words.length c3)).setCell ⟨q2,3,none⟩ (.slice x4 m.past.length c4));rw[<-hY9]at h5 ⊢;clear hY9;refine hK _ _ (.inr trivial) ?_;clear hK K
    try refine tP_ ?_
    have gz:=(h5.p2).cell hu;refine aB r_ (fun K hK=>?_);go_simp;exact zo
  ·skip
   refine aB r_ (fun K' hK=>?_);go_simp;refine ((h2.p4).pick o_ 8 o_ o_).mono ?_;rintro r W4 ⟨z,rfl,z0,z1,h3⟩;refine hK _ _ (.inr trivial) ?_;clear hK K'
   try refine tP_ ?_
   obtain⟨jz,rfl⟩:∃n:Nat,z=n:=⟨z.toNat,o_⟩
   have jn:jz<8:=o_;have jn':(jz:Int)<8:=o_;obtain⟨u,u0,u1,hu⟩:∃u:Int, -1<=u/\u<=5/\(#[iv 0,iv 0,iv 1,iv 2,iv 3,iv 4,iv (-1),iv 5]:Array Value)[jz]? =some (.int .i64 u):=by
    exact zAR
   have z00:(0:Int)<=(jz:Int):=o_;refine bP r_ (fun K' hK=>?_) ?_
   ·skip
    go_simp;have h4:=(h3).alloc #[iv 0,iv 0,iv 1,iv 2,iv 3,iv 4,iv (-1),iv 5] 3;obtain⟨Y1,hY1⟩:=nm_ (W4.alloc (.cells #[iv 0,iv 0,iv 1,iv 2,iv 3,iv 4,iv (-1),iv 5] 3));rw[<-hY1]at h4 ⊢;clear hY1;refine hK _ _ (.inr trivial) ?_;clear hK K'
    try refine tP_ ?_
    have gz:=(h4).cell hu
    repeat (first|refine tA_ ?_|refine tB_ ?_)
    refine bP r_ (fun K' hK=>?_) ?_
    ·skip
     go_simp;refine hK _ _ (.inr trivial) ?_;clear hK K'
     try refine tP_ ?_
     obtain⟨b0,b1,b2,b3⟩:=(h4.p6).cells4;have bf:=(h4.p6).free;have h5:=(h4.p6).set4 (.slice x1 m.nodes.length c1) (.slice x2 m.links.length c2) (.slice x3 m.words.length c3) (.slice x4 m.past.length c4);refine aB r_ (fun K hK=>?_);go_simp
     obtain⟨Y9,hY9⟩:=nm_ ((((Y1.setCell ⟨q2,0,none⟩ (.slice x1 m.nodes.length c1)).setCell ⟨q2,1,none⟩ (.slice x2 m.links.length c2)).setCell ⟨q2,2,none⟩ (.slice x3 m.words.length c3)).setCell ⟨q2,3,none⟩ (.slice x4 m.past.length c4));rw[<-hY9]at h5 ⊢;clear hY9;exact zo
    ·skip
     clear gz;obtain⟨b0,b1,b2,b3⟩:=(h4.p6).cells4;have bf:=(h4.p6).free;have h5:=(h4.p6).set4 (.slice x1 m.nodes.length c1) (.slice x2 m.links.length c2) (.slice x3 m.words.length c3) (.slice x4 m.past.length c4);refine aB r_ (fun K hK=>?_);go_simp
     obtain⟨Y9,hY9⟩:=nm_ ((((Y1.setCell ⟨q2,0,none⟩ (.slice x1 m.nodes.length c1)).setCell ⟨q2,1,none⟩ (.slice x2 m.links.length c2)).setCell ⟨q2,2,none⟩ (.slice x3 m.words.length c3)).setCell ⟨q2,3,none⟩ (.slice x4 m.past.length c4));rw[<-hY9]at h5 ⊢;clear hY9;refine hK _ _ (.inr trivial) ?_;clear hK K
     try refine tP_ ?_
     have gz:=(h5.p1).cell hu;refine aB r_ (fun K hK=>?_);go_simp;exact zo
   ·skip
    obtain⟨b0,b1,b2,b3⟩:=(h3.p5).cells4;have bf:=(h3.p5).free;have h4:=(h3.p5).set4 (.slice x1 m.nodes.length c1) (.slice x2 m.links.length c2) (.slice x3 m.words.length c3) (.slice x4 m.past.length c4);refine aB r_ (fun K hK=>?_);go_simp
    obtain⟨Y,hY⟩:=nm_ ((((W4.setCell ⟨q2,0,none⟩ (.slice x1 m.nodes.length c1)).setCell ⟨q2,1,none⟩ (.slice x2 m.links.length c2)).setCell ⟨q2,2,none⟩ (.slice x3 m.words.length c3)).setCell ⟨q2,3,none⟩ (.slice x4 m.past.length c4));rw[<-hY]at h4 ⊢;clear hY;refine hK _ _ (.inr trivial) ?_;clear hK K
    try refine tP_ ?_
    refine aB r_ (fun K' hK=>?_);go_simp;have h5:=(h4).alloc #[iv 0,iv 0,iv 1,iv 2,iv 3,iv 4,iv (-1),iv 5] 3;obtain⟨Y2,hY2⟩:=nm_ (Y.alloc (.cells #[iv 0,iv 0,iv 1,iv 2,iv 3,iv 4,iv (-1),iv 5] 3));rw[<-hY2]at h5 ⊢;clear hY2;refine hK _ _ (.inr trivial) ?_;clear hK K'
    try refine tP_ ?_
    have gz:=(h5).cell hu
    repeat (first|refine tA_ ?_|refine tB_ ?_)
    refine aB r_ (fun K hK=>?_);go_simp;refine hK _ _ (.inr trivial) ?_;clear hK K
    try refine tP_ ?_
    refine aB r_ (fun K hK=>?_);go_simp;refine hK _ _ (.inr trivial) ?_;clear hK K
    try refine tP_ ?_
    refine aD ?_;go_wp2;obtain⟨i0,i1,i2,i3⟩:=(h5.p1).cells4
    (try simp only[Exit.inBlock,Exit.then])
    exact bodyPost_ret (v:=.tuple #[.agg #[.slice x1 m.nodes.length c1,.slice x2 m.links.length c2,.slice x3 m.words.length c3,.slice x4 m.past.length c4],iv u]) (by simp[results,results31,go_sem,i0,i1,i2,i3]) rfl ⟨_,_,_,_,m,u,rfl,u0,u1,N5.out,h5.drop.drop.drop⟩
 ·skip
  refine aB r_ (fun K' hK=>?_);go_simp;have h2:=(H1.out).alloc #[iv 0,iv 0,iv 1,iv 2,iv 3,iv 4,iv (-1),iv 5] 3;obtain⟨Y1,hY1⟩:=nm_ (V.alloc (.cells #[iv 0,iv 0,iv 1,iv 2,iv 3,iv 4,iv (-1),iv 5] 3));rw[<-hY1]at h2 ⊢;clear hY1;refine hK _ _ (.inr trivial) ?_;clear hK K'
  try refine tP_ ?_
  refine aB r_ (fun K' hK=>?_);go_simp;refine (uU (h2.p1) o_).mono ?_;rintro r W2 ⟨v1,v2,v3,v4,m,rfl,m5,h3⟩;obtain⟨x1,c1,rfl,_⟩:=M.form h3;obtain⟨x2,c2,rfl,_⟩:=M.form h3.p1;obtain⟨x3,c3,rfl,_⟩:=M.form h3.p2;obtain⟨x4,c4,rfl,_⟩:=M.form h3.p3;have N5:=hd_ m5;clear m5;refine hK _ _ (.inr trivial) ?_;clear hK K'
  try refine tP_ ?_
  refine aB r_ (fun K' hK=>?_);go_simp;refine ((h3.p4).pick o_ 8 o_ o_).mono ?_;rintro r W4 ⟨z,rfl,z0,z1,h4⟩;refine hK _ _ (.inr trivial) ?_;clear hK K'
  try refine tP_ ?_
  obtain⟨jz,rfl⟩:∃n:Nat,z=n:=⟨z.toNat,o_⟩
  have jn:jz<8:=o_;have jn':(jz:Int)<8:=o_;obtain⟨u,u0,u1,hu⟩:∃u:Int, -1<=u/\u<=5/\(#[iv 0,iv 0,iv 1,iv 2,iv 3,iv 4,iv (-1),iv 5]:Array Value)[jz]? =some (.int .i64 u):=by
   exact zAR
  have z00:(0:Int)<=(jz:Int):=o_;have gz:=(h4.p5).cell hu
  repeat (first|refine tA_ ?_|refine tB_ ?_)
  refine bP r_ (fun K' hK=>?_) ?_
  ·skip
   go_simp;refine hK _ _ (.inr trivial) ?_;clear hK K'
   try refine tP_ ?_
   obtain⟨b0,b1,b2,b3⟩:=(h4.p6).cells4;have bf:=(h4.p6).free;have h5:=(h4.p6).set4 (.slice x1 m.nodes.length c1) (.slice x2 m.links.length c2) (.slice x3 m.words.length c3) (.slice x4 m.past.length c4);refine aB r_ (fun K hK=>?_);go_simp
   obtain⟨Y9,hY9⟩:=nm_ ((((W4.setCell ⟨q2,0,none⟩ (.slice x1 m.nodes.length c1)).setCell ⟨q2,1,none⟩ (.slice x2 m.links.length c2)).setCell ⟨q2,2,none⟩ (.slice x3 m.words.length c3)).setCell ⟨q2,3,none⟩ (.slice x4 m.past.length c4));rw[<-hY9]at h5 ⊢;clear hY9;exact zAm
  ·skip
   clear gz;obtain⟨b0,b1,b2,b3⟩:=(h4.p6).cells4;have bf:=(h4.p6).free;have h5:=(h4.p6).set4 (.slice x1 m.nodes.length c1) (.slice x2 m.links.length c2) (.slice x3 m.words.length c3) (.slice x4 m.past.length c4);refine aB r_ (fun K hK=>?_);go_simp
   obtain⟨Y9,hY9⟩:=nm_ ((((W4.setCell ⟨q2,0,none⟩ (.slice x1 m.nodes.length c1)).setCell ⟨q2,1,none⟩ (.slice x2 m.links.length c2)).setCell ⟨q2,2,none⟩ (.slice x3 m.words.length c3)).setCell ⟨q2,3,none⟩ (.slice x4 m.past.length c4));rw[<-hY9]at h5 ⊢;clear hY9;refine hK _ _ (.inr trivial) ?_;clear hK K
   try refine tP_ ?_
   have gz:=(h5.p6).cell hu;refine aB r_ (fun K hK=>?_);go_simp;exact zAm
end
theorem aG8 (w:World) {xk:Option Addr} {k ck:Nat} {es:List En} {f:List Nat} (h:gD TY w [.slice xk k ck] es f) (i:Int):
  Calls prog 35 #[.slice xk k ck,iv i] w fun r w'=>(∃u,r=.returned u/\((∃e V,bM es i=some e/\RdS w V e.s/\u=.tuple #[aAn V e,.bool true])\/(bM es i=none/\u=.tuple #[xW,.bool false])))/\Below w.heap.size w w':=by
 obtain rfl:k=es.length:=(aT h).1;obtain⟨_,_,e1,q1,q2⟩:=cM h;have hm:es.length<=maxLen:=Nat.le_trans q1 q2;unfold maxLen at hm;clear e1 q1 q2;have H1:=hd_ h;clear h;have H0:=(M.start w).alloc #[iv 0,iv 0,iv 0,zn,zn,zn,iv 0,iv 0,zn,iv 0] 64;go_enter func35,ntmps35;go_wp2;obtain⟨p1,hp1⟩:=nm_ w.heap.size;have HP:=hd_ hp1;rw[<-hp1]at H0;rw[<-hp1];clear hp1
 generalize w.alloc (.cells #[iv 0,iv 0,iv 0,zn,zn,zn,iv 0,iv 0,zn,iv 0] 64)=w1 at H0 ⊢;have H:=hd_ H0;clear H0;go_loopw [6] (fun z wr=>∃j:Nat,j<=es.length/\z=.int .i64 j/\(∀(a:Nat) (x:En),a<j->es[a]? =some x->x.node≠i)/\wr=w1) (fun z _=>es.length - (intOf z).toNat)
 case atStart=>exact⟨0,Nat.zero_le _,rfl,fun a x h=>absurd h (Nat.not_lt_zero _),rfl⟩
 case round=>
  obtain⟨j,hj,rfl,hno,rfl⟩:=hrel;have NO:=hd_ hno;clear hno;have hWB:=H.out.below;rw[HP.out]at hWB;obtain⟨d0,d1,d2,d3,d4,d5,d6,d7,d8,d9⟩:=H.out.cells10
  by_cases hlt:j<es.length
  ·obtain⟨x,hx⟩:∃x,es[j]? =some x:=⟨_,List.getElem?_eq_getElem hlt⟩
   obtain⟨g,V,fe,rfl,_,_,sr,ca0,ca1,ca2,cas⟩:=gY H1.out hx;have RV:=hd_ (aBf sr);replace ca0:=cell_later hWB ca0;replace ca1:=cell_later hWB ca1;replace ca2:=cell_later hWB ca2;have ca3:=cell_later hWB (cas 0 _ rfl);have ca4:=cell_later hWB (cas 1 _ rfl);have ca5:=cell_later hWB (cas 2 _ rfl);have ca6:=cell_later hWB (cas 3 _ rfl);have ca7:=cell_later hWB (cas 4 _ rfl)
   have ca8:=cell_later hWB (cas 5 _ rfl);have ca9:=cell_later hWB (cas 6 _ rfl);clear sr;clear cas hWB;have k0:(0:Int)<=(j:Int):=o_;have k1:(j:Int)<(es.length:Int):=o_
   by_cases eq:x.node=i
   ·have g0:(x.node==i)=true:=by simpa using eq
    have F:=hd_ (aC3 NO.out hx eq);have ef:=H.out.free;have N:=hd_ (H.out.set10 (iv x.node) (iv x.born) (iv x.num) (.slice V.xr V.nr V.cr) (.slice V.xf V.nf V.cf) (.slice V.xt V.nt V.ct) (iv x.s.lo) (iv x.s.al) (.slice V.xk V.nk V.ck) (iv x.s.ka));clear eq NO hx;go_wp2;obtain⟨e0,e1,e2,e3,e4,e5,e6,e7,e8,e9⟩:=N.out.cells10
    exact bodyPost_ret (v:=.tuple #[aAn V x,.bool true]) (by simp[results,results35,go_sem,e0,e1,e2,e3,e4,e5,e6,e7,e8,e9]) rfl ⟨⟨_,rfl,.inl ⟨x,V,F.out,RV.out,rfl⟩⟩,by rw[<-HP.out];exact N.out.below⟩
   ·exact zAD
  ·have F:=hd_ (aDC (es:=es) (i:=i) fun a x hx=>NO.out a x (by have:=(List.getElem?_eq_some_iff.1 hx).1;omega) hx)
   have ef:=H.out.free;have N:=hd_ (H.out.set10 (iv 0) (iv 0) (iv 0) zn zn zn (iv 0) (iv 0) zn (iv 0));have g:decide (j<es.length)=false:=by simpa using hlt
   clear NO hWB;go_wp2;obtain⟨e0,e1,e2,e3,e4,e5,e6,e7,e8,e9⟩:=N.out.cells10;exact bodyPost_ret (v:=.tuple #[xW,.bool false]) (by simp[results,results35,go_sem,e0,e1,e2,e3,e4,e5,e6,e7,e8,e9]) rfl ⟨⟨_,rfl,.inr ⟨F.out,rfl⟩⟩,by rw[<-HP.out];exact N.out.below⟩
theorem _root_.Go.Proofs.YtcblbdpdbggkbaaGreat.M.knownR' {B:Nat} {w0 w:World} {l:List Ch} {v:Value} {es:List En} (h:M B w0 w (eQ v es::l)):∃f,gD TY w [v] es f:=let ⟨f,hf,_⟩:=h.first;⟨f,hf⟩
theorem aBI (w:World) {x1 x2 x3 x4:Option Addr} {k1 c1 k2 c2 k3 c3 k4 c4:Nat} {n:Nt} (hn:iP w (.slice x1 k1 c1) (.slice x2 k2 c2) (.slice x3 k3 c3) (.slice x4 k4 c4) n) (i:Int):
  Calls prog 34 #[.agg #[.slice x1 k1 c1,.slice x2 k2 c2,.slice x3 k3 c3,.slice x4 k4 c4],iv i] w fun r w'=>∃y c,r=.returned (.slice y (dQ n i).length c)/\M w.heap.size w w' [eQ (.slice y (dQ n i).length c) (dQ n i)]:=by
 have HN:=hd_ hn;have KF:=hd_ (oY n i);have h0:=(M.start w).alloc #[.slice x1 k1 c1,.slice x2 k2 c2,.slice x3 k3 c3,.slice x4 k4 c4] 30;obtain⟨p2,hp2⟩:=nm_ w.heap.size;obtain⟨W1,hW1⟩:=nm_ (w.alloc (.cells #[.slice x1 k1 c1,.slice x2 k2 c2,.slice x3 k3 c3,.slice x4 k4 c4] 30));rw[<-hW1]at h0
 have H1:=hd_ (show M w.heap.size w W1 [aL p2 30 #[.slice x1 k1 c1,.slice x2 k2 c2,.slice x3 k3 c3,.slice x4 k4 c4]] by rw[hp2];exact h0);clear h0 hn;go_enter func34,ntmps34;go_upto_region 1 with fail
 rw[<-hW1, <-hp2];clear hW1 hp2;obtain⟨a0,a1,a2,a3⟩:=H1.out.cells4;obtain⟨q,hq⟩:=nm_ (jF n);have KN:=hd_ (oA W1 (HN.out.below H1.out.below lr_));rw[<-hq]at KN;have HQ:=hd_ hq;clear hq
 have NIL:Hid (dQ n i=[]->∀w',M w.heap.size w w' [aL p2 30 #[.slice x1 k1 c1,.slice x2 k2 c2,.slice x3 k3 c3,.slice x4 k4 c4]]->∃y c,Ending.returned (Value.slice (some ⟨w'.heap.size,0,none⟩) 0 0)=.returned (.slice y (dQ n i).length c)/\M w.heap.size w (w'.alloc (.cells #[] 64)) [eQ (.slice y (dQ n i).length c) (dQ n i)]):=hd_ fun e w' h=>by
  rw[e];exact⟨some ⟨w'.heap.size,0,none⟩,0,rfl,((h.alloc #[] 64).empty aP 10).p1.drop⟩
 go_wp2_with fail
 refine KN.out.mono ?_;rintro r w2 ⟨rfl,hb⟩;have H2:=hd_ (H1.out.later hb);clear hb KN H1 a0 a1 a2 a3;cases q with
 |false=>
  exact zBD
 |true=>
  have KI:=hd_ (mT i 0 4 w2);cases gi:in6 i 0 4 with
  |false=>
   rw[gi]at KI;have F:=hd_ (NIL.out (by unfold dQ;rw[if_neg (by rw[gi];simp)]) _ H2.out);clear gi
   go_wp2_with fail
   refine KI.out.mono ?_;rintro r w' ⟨rfl,hw⟩;rw[hw];clear hw w' KI;go_wp2;go_ret;exact F.out
  |true=>
   rw[gi]at KI;have EF:Hid (dQ n i=(aA n i).known):=hd_ (by unfold dQ;rw[if_pos ⟨HQ.out.symm,gi⟩]);obtain⟨iA,iB⟩:=bH.1 gi;obtain⟨f1,n1⟩:=HN.out.nodes;obtain rfl:k1=5:=(aT n1).1.trans (oF HQ.out.symm).1.nodes;obtain⟨j,rfl⟩:∃j:Nat,i=j:=⟨i.toNat,o_⟩
   have j5:j<5:=o_;obtain⟨nd,hnd⟩:∃nd,n.nodes[j]? =some nd:=⟨_,List.getElem?_eq_getElem (by rw[(oF HQ.out.symm).1.nodes];exact j5)⟩
   have eN:aA n (j:Int)=nd:=by unfold aA;rw[List.getD_eq_getElem?_getD,Int.toNat_natCast,hnd];rfl
   rw[eN]at EF;obtain⟨g1,xk,ck,fk,rfl,_,_,kr,_,_,b0,b1,_⟩:=cB n1 hnd;have j0:(0:Int)<=(j:Int):=o_;have j1:(j:Int)<5:=o_;have R:=hd_ kr;replace b1:=cell_later H2.out.below b1;obtain⟨a0,a1,a2,a3⟩:=H2.out.cells4;clear gi hnd eN b0 n1 kr iA iB
   have KE:=hd_ (kG w2 (es:=nd.known) ((aV aP _ _).below R.out H2.out.below lr_) (by rw[<-EF.out];have:=KF.out.1;omega) (by rw[<-EF.out];exact fun e he=>(KF.out.2 e he).1))
   go_wp2_with fail
   refine KI.out.mono ?_;rintro r w' ⟨rfl,hw⟩;rw[hw];clear hw w' KI
   exact zA1
end N
end Go.Proofs.YtcblbdpdbggkbaaGreat
namespace Go.Proofs.YtcblbdpdbggkbaaGreat
open _root_.Go.Proofs.Tryz
open Go.RowKit Go.Sort
theorem aFV (w:World) (V1 V2:SV) (s:Sm) (h1:RdS w V1 s) (h2:RdS w V2 s) (hs:wI s):
  Calls prog 38 #[.agg #[.slice V1.xr V1.nr V1.cr,.slice V1.xf V1.nf V1.cf,.slice V1.xt V1.nt V1.ct,iv s.lo,iv s.al,.slice V1.xk V1.nk V1.ck,iv s.ka],.agg #[.slice V2.xr V2.nr V2.cr,.slice V2.xf V2.nf V2.cf,.slice V2.xt V2.nt V2.ct,iv s.lo,iv s.al,.slice V2.xk V2.nk V2.ck,iv s.ka]] w fun e w'=>e=.returned (.bool true)/\Below w.heap.size w w':=by
 have hA:=((Below.refl w.heap.size w).alloc lr_ (.cells (cS V1 s) 46)).alloc (by simp) (.cells (cS V2 s) 46);have XA:=(aR.new w 46 (.slice V1.xr V1.nr V1.cr) (.slice V1.xf V1.nf V1.cf) (.slice V1.xt V1.nt V1.ct) (iv s.lo) (iv s.al) (.slice V1.xk V1.nk V1.ck) (iv s.ka)).alloc (.cells (cS V2 s) 46)
 have XB:=aR.new (w.alloc (.cells (cS V1 s) 46)) 46 (.slice V2.xr V2.nr V2.cr) (.slice V2.xf V2.nf V2.cf) (.slice V2.xt V2.nt V2.ct) (iv s.lo) (iv s.al) (.slice V2.xk V2.nk V2.ck) (iv s.ka);rw[World.size_alloc]at XB;obtain⟨a0,a1,a2,a3,a4,a5,a6⟩:=XA.cells;obtain⟨b0,b1,b2,b3,b4,b5,b6⟩:=XB.cells;obtain⟨W0,hW⟩:=nm_ ((w.alloc (.cells (cS V1 s) 46)).alloc (.cells (cS V2 s) 46));rw[<-hW]at hA XA XB
 have B:=hd_ hA;have H1:=hd_ h1;have H2:=hd_ h2;have HS:=hd_ hs;clear hA h1 h2 hs;have K1:=aFu W0 (.slice V1.xr V1.nr V1.cr) (.slice V2.xr V2.nr V2.cr) s.rs s.rs (H1.out.below B.out lr_).r (H2.out.below B.out lr_).r (by have:=HS.out.r.1;unfold maxLen;omega) (fun i hi=>by have:=HS.out.r.2 i hi;unfold maxLen;omega);rw[decide_eq_true rfl]at K1;go_enter func38,ntmps38
 go_wp2_with fail
 rw[<-hW];clear hW a0 a1 a2 a3 a4 a5 a6 b0 b1 b2 b3 b4 b5 b6;refine K1.mono ?_;rintro e w1 ⟨rfl,hb⟩;replace XA:=XA.later hb;replace XB:=XB.later hb;replace B:=hd_ (B.out.trans (hb.mono B.out.size));clear hb K1;have K2:=aCm w1 (.slice V1.xf V1.nf V1.cf) (.slice V2.xf V2.nf V2.cf) s.zs s.zs (H1.out.below B.out lr_).f (H2.out.below B.out lr_).f (by have:=HS.out.f;unfold maxLen;omega)
 rw[decide_eq_true rfl]at K2;obtain⟨a0,a1,a2,a3,a4,a5,a6⟩:=XA.cells;obtain⟨b0,b1,b2,b3,b4,b5,b6⟩:=XB.cells
 go_wp2_with fail
 refine K2.mono ?_;rintro e w2 ⟨rfl,m,hm⟩;have hb:Below w1.heap.size w1 w2:=by rw[hm];exact below_drewN (Below.refl _ _) _
 clear a0 a1 a2 a3 a4 a5 a6 b0 b1 b2 b3 b4 b5 b6 hm;replace XA:=XA.later hb;replace XB:=XB.later hb;replace B:=hd_ (B.out.trans (hb.mono B.out.size));clear hb K2;have K3:=T.aFo w2 (.slice V1.xt V1.nt V1.ct) (.slice V2.xt V2.nt V2.ct) s.ps s.lo s.al (H1.out.below B.out lr_).t (H2.out.below B.out lr_).t (by have:=HS.out.t;omega);obtain⟨a0,a1,a2,a3,a4,a5,a6⟩:=XA.cells
 obtain⟨b0,b1,b2,b3,b4,b5,b6⟩:=XB.cells
 go_wp2_with fail
 refine K3.mono ?_;rintro e w3 ⟨rfl,hb⟩;clear a0 a1 a2 a3 a4 a5 a6 b0 b1 b2 b3 b4 b5 b6;replace XA:=XA.later hb;replace XB:=XB.later hb;replace B:=hd_ (B.out.trans (hb.mono B.out.size));clear hb K3;have K4:=K.aER w3 (.slice V1.xk V1.nk V1.ck) (.slice V2.xk V2.nk V2.ck) s.ks s.ka (H1.out.below B.out lr_).k (H2.out.below B.out lr_).k (by have:=HS.out.k;omega)
 obtain⟨a0,a1,a2,a3,a4,a5,a6⟩:=XA.cells;obtain⟨b0,b1,b2,b3,b4,b5,b6⟩:=XB.cells
 go_wp2_with fail
 refine K4.mono ?_;rintro e w4 ⟨rfl,hb⟩;replace B:=hd_ (B.out.trans (hb.mono B.out.size));clear a0 a1 a2 a3 a4 a5 a6 b0 b1 b2 b3 b4 b5 b6 hb;go_wp2;go_ret;exact⟨rfl,B.out⟩
end Go.Proofs.YtcblbdpdbggkbaaGreat
namespace Go.Proofs.YtcblbdpdbggkbaaGreat
open _root_.Go.Proofs.Tryz
open Go.RowKit Go.Sort
namespace N
def aMc (es:List En):Prop:=∀e ∈ es,wI e.s
theorem aDx (w:World) (V1 V2:SV) (e:En) {f1 f2:List Nat} (h1:rS w (cS V1 (e.s)) e.s f1) (h2:rS w (cS V2 (e.s)) e.s f2) (hl:wI e.s):
  Calls prog 97 #[.agg #[iv e.node,iv e.born,iv e.num,.slice V1.xr V1.nr V1.cr,.slice V1.xf V1.nf V1.cf,.slice V1.xt V1.nt V1.ct,.int .i64 (e.s).lo,.int .i64 (e.s).al,.slice V1.xk V1.nk V1.ck,.int .i64 (e.s).ka],.agg #[iv e.node,iv e.born,iv e.num,.slice V2.xr V2.nr V2.cr,.slice V2.xf V2.nf V2.cf,.slice V2.xt V2.nt V2.ct,.int .i64 (e.s).lo,.int .i64 (e.s).al,.slice V2.xk V2.nk V2.ck,.int .i64 (e.s).ka]] w fun r w'=>r=.returned (.bool true)/\Below w.heap.size w w':=by
 obtain⟨i,bo,nu,s⟩:=e;simp only at h1 h2 hl ⊢;have H:=hd_ (((M.start w).alloc #[iv i,iv bo,iv nu,.slice V1.xr V1.nr V1.cr,.slice V1.xf V1.nf V1.cf,.slice V1.xt V1.nt V1.ct,iv s.lo,iv s.al,.slice V1.xk V1.nk V1.ck,iv s.ka] 64).alloc #[iv i,iv bo,iv nu,.slice V2.xr V2.nr V2.cr,.slice V2.xf V2.nf V2.cf,.slice V2.xt V2.nt V2.ct,iv s.lo,iv s.al,.slice V2.xk V2.nk V2.ck,iv s.ka] 64)
 obtain⟨U1,e1,r1⟩:=wO (bF.below h1 H.out.below lr_);obtain⟨U2,e2,r2⟩:=wO (bF.below h2 H.out.below lr_);have K:=hd_ (aFV _ U1 U2 s r1 r2 hl);simp only[List.cons.injEq,Value.slice.injEq,true_and,and_true]at e1 e2;obtain⟨⟨a1,a2,a3⟩,⟨a4,a5,a6⟩,⟨a7,a8,a9⟩,a10,a11,a12⟩:=e1;obtain⟨⟨b1,b2,b3⟩,⟨b4,b5,b6⟩,⟨b7,b8,b9⟩,b10,b11,b12⟩:=e2
 rw[<-a1, <-a2, <-a3, <-a4, <-a5, <-a6, <-a7, <-a8, <-a9, <-a10, <-a11, <-a12, <-b1, <-b2, <-b3, <-b4, <-b5, <-b6, <-b7, <-b8, <-b9, <-b10, <-b11, <-b12]at K;clear a1 a2 a3 a4 a5 a6 a7 a8 a9 a10 a11 a12 b1 b2 b3 b4 b5 b6 b7 b8 b9 b10 b11 b12 r1 r2 h1 h2 hl;obtain⟨c0,c1,c2,c3,c4,c5,c6,c7,c8,c9⟩:=H.out.p1.cells10;obtain⟨d0,d1,d2,d3,d4,d5,d6,d7,d8,d9⟩:=H.out.cells10
 simp only[World.size_alloc]at d0 d1 d2 d3 d4 d5 d6 d7 d8 d9;go_enter func97,ntmps97
 go_wp2_with fail
 refine K.out.mono ?_;rintro r w1 ⟨rfl,hb⟩;have H1:=hd_ (H.out.later hb);clear K hb c0 c1 c2 c3 c4 c5 c6 c7 c8 c9 d0 d1 d2 d3 d4 d5 d6 d7 d8 d9 H;go_wp2;go_ret;exact⟨rfl,H1.out.below⟩
theorem wW (w:World) {x1 x2:Option Addr} {n m c1 c2:Nat} {xs:List En} {f1 f2:List Nat} (h1:gD TY w [.slice x1 n c1] xs f1) (h2:gD TY w [.slice x2 m c2] xs f2) (hl:aMc xs):
  Calls prog 33 #[.slice x1 n c1,.slice x2 m c2] w fun r w'=>r=.returned (.bool true)/\Below w.heap.size w w':=by
 obtain rfl:n=xs.length:=(aT h1).1;obtain rfl:m=xs.length:=(aT h2).1;obtain⟨_,_,e1,q1,q2⟩:=cM h1;have hm:xs.length<=maxLen:=Nat.le_trans q1 q2;unfold maxLen at hm;clear e1 q1 q2;have H1:=hd_ h1;have H2:=hd_ h2;have HL:=hd_ hl;have n0:((xs.length:Int) != (xs.length:Int))=false:=by simp
 clear h1 h2 hl;go_enter func33,ntmps33;go_wp2;go_loopw [5] (fun i wr=>∃k:Nat,k<=xs.length/\i=.int .i64 k/\Below w.heap.size w wr) (fun i _=>xs.length - (intOf i).toNat)
 case atStart=>exact⟨0,Nat.zero_le _,rfl,Below.refl _ _⟩
 case round=>
  obtain⟨k,hk,rfl,hb⟩:=hrel;have HB:=hd_ hb;clear hb
  by_cases hlt:k<xs.length
  ·obtain⟨a,ha⟩:∃a,xs[k]? =some a:=⟨_,List.getElem?_eq_getElem hlt⟩
   have k0:(0:Int)<=(k:Int):=o_;have k1:(k:Int)<(xs.length:Int):=o_;obtain⟨g1,V1,p1,rfl,q1,_,r1,ca0,ca1,ca2,cas⟩:=gY H1.out ha;obtain⟨g2,V2,p2,rfl,q2,_,r2,cb0,cb1,cb2,cbs⟩:=gY H2.out ha;have ca3:=cas 0 _ rfl;have ca4:=cas 1 _ rfl;have ca5:=cas 2 _ rfl;have ca6:=cas 3 _ rfl;have ca7:=cas 4 _ rfl;have ca8:=cas 5 _ rfl;have ca9:=cas 6 _ rfl;have cb3:=cbs 0 _ rfl;have cb4:=cbs 1 _ rfl
   have cb5:=cbs 2 _ rfl;have cb6:=cbs 3 _ rfl;have cb7:=cbs 4 _ rfl;have cb8:=cbs 5 _ rfl;have cb9:=cbs 6 _ rfl;have R1:=hd_ r1;have R2:=hd_ r2;clear cas cbs r1 r2 q1 q2;have LA:=hd_ (HL.out a (List.mem_of_getElem? ha));clear ha
   have SS:=hd_ (fun w' (hb:Below w.heap.size w w')=>show w'.cell? ⟨g1,k * 10,none⟩=some (.int .i64 a.node)/\w'.cell? ⟨g1,k * 10+1,none⟩=some (.int .i64 a.born)/\w'.cell? ⟨g1,k * 10+2,none⟩=some (.int .i64 a.num)/\w'.cell? ⟨g1,k * 10+3,none⟩=some (.slice V1.xr V1.nr V1.cr)/\w'.cell? ⟨g1,k * 10+4,none⟩=some (.slice V1.xf V1.nf V1.cf)/\w'.cell? ⟨g1,k * 10+5,none⟩=some (.slice V1.xt V1.nt V1.ct)/\w'.cell? ⟨g1,k * 10+6,none⟩=some (.int .i64 a.s.lo)/\w'.cell? ⟨g1,k * 10+7,none⟩=some (.int .i64 a.s.al)/\w'.cell? ⟨g1,k * 10+8,none⟩=some (.slice V1.xk V1.nk V1.ck)/\w'.cell? ⟨g1,k * 10+9,none⟩=some (.int .i64 a.s.ka)/\w'.cell? ⟨g2,k * 10,none⟩=some (.int .i64 a.node)/\w'.cell? ⟨g2,k * 10+1,none⟩=some (.int .i64 a.born)/\w'.cell? ⟨g2,k * 10+2,none⟩=some (.int .i64 a.num)/\w'.cell? ⟨g2,k * 10+3,none⟩=some (.slice V2.xr V2.nr V2.cr)/\w'.cell? ⟨g2,k * 10+4,none⟩=some (.slice V2.xf V2.nf V2.cf)/\w'.cell? ⟨g2,k * 10+5,none⟩=some (.slice V2.xt V2.nt V2.ct)/\w'.cell? ⟨g2,k * 10+6,none⟩=some (.int .i64 a.s.lo)/\w'.cell? ⟨g2,k * 10+7,none⟩=some (.int .i64 a.s.al)/\w'.cell? ⟨g2,k * 10+8,none⟩=some (.slice V2.xk V2.nk V2.ck)/\w'.cell? ⟨g2,k * 10+9,none⟩=some (.int .i64 a.s.ka)from⟨cell_later hb ca0,cell_later hb ca1,cell_later hb ca2,cell_later hb ca3,cell_later hb ca4,cell_later hb ca5,cell_later hb ca6,cell_later hb ca7,cell_later hb ca8,cell_later hb ca9,cell_later hb cb0,cell_later hb cb1,cell_later hb cb2,cell_later hb cb3,cell_later hb cb4,cell_later hb cb5,cell_later hb cb6,cell_later hb cb7,cell_later hb cb8,cell_later hb cb9⟩)
   clear ca0 ca1 ca2 ca3 ca4 ca5 ca6 ca7 ca8 ca9 cb0 cb1 cb2 cb3 cb4 cb5 cb6 cb7 cb8 cb9;go_wp2
   refine aC 99 (.tk 0 8 (.alt 8 (.take 9 .done) .nomore)) (fun w'=>w'.cell? ⟨g1,k * 10,none⟩=some (.int .i64 a.node)/\w'.cell? ⟨g1,k * 10+1,none⟩=some (.int .i64 a.born)/\w'.cell? ⟨g1,k * 10+2,none⟩=some (.int .i64 a.num)/\w'.cell? ⟨g1,k * 10+3,none⟩=some (.slice V1.xr V1.nr V1.cr)/\w'.cell? ⟨g1,k * 10+4,none⟩=some (.slice V1.xf V1.nf V1.cf)/\w'.cell? ⟨g1,k * 10+5,none⟩=some (.slice V1.xt V1.nt V1.ct)/\w'.cell? ⟨g1,k * 10+6,none⟩=some (.int .i64 a.s.lo)/\w'.cell? ⟨g1,k * 10+7,none⟩=some (.int .i64 a.s.al)/\w'.cell? ⟨g1,k * 10+8,none⟩=some (.slice V1.xk V1.nk V1.ck)/\w'.cell? ⟨g1,k * 10+9,none⟩=some (.int .i64 a.s.ka)/\w'.cell? ⟨g2,k * 10,none⟩=some (.int .i64 a.node)/\w'.cell? ⟨g2,k * 10+1,none⟩=some (.int .i64 a.born)/\w'.cell? ⟨g2,k * 10+2,none⟩=some (.int .i64 a.num)/\w'.cell? ⟨g2,k * 10+3,none⟩=some (.slice V2.xr V2.nr V2.cr)/\w'.cell? ⟨g2,k * 10+4,none⟩=some (.slice V2.xf V2.nf V2.cf)/\w'.cell? ⟨g2,k * 10+5,none⟩=some (.slice V2.xt V2.nt V2.ct)/\w'.cell? ⟨g2,k * 10+6,none⟩=some (.int .i64 a.s.lo)/\w'.cell? ⟨g2,k * 10+7,none⟩=some (.int .i64 a.s.al)/\w'.cell? ⟨g2,k * 10+8,none⟩=some (.slice V2.xk V2.nk V2.ck)/\w'.cell? ⟨g2,k * 10+9,none⟩=some (.int .i64 a.s.ka)) kr_ kr_ (fun _ _ _ _ _ h=>h) (SS.out _ HB.out.drew) ?_
   have HD:=hd_ HB.out.drew;clear HB;generalize wr.drew=w3 at HD ⊢
   repeat (first|refine tA_ ?_|refine tB_ ?_)
   refine aB r_ (fun K hK=>?_);go_simp;refine (aDx _ V1 V2 a (bF.below R1.out HD.out lr_) (bF.below R2.out HD.out lr_) LA.out).mono ?_;rintro r w4 ⟨rfl,hb⟩;have HE:=hd_ (HD.out.trans (hb.mono HD.out.size));clear hb;refine hK _ _ (.inr (SS.out _ HE.out)) ?_;clear hK K
   try refine tP_ ?_
   repeat (first|refine tA_ ?_|refine tB_ ?_)
   refine aD ?_;clear SS HD;go_wp2;go_roundw
   case rel=>exact⟨k+1,hlt,gn_,HE.out⟩
   case measure=>simp[intOf];omega
  ·go_wp2
   go_ret;exact⟨rfl,HB.out⟩
end N
end Go.Proofs.YtcblbdpdbggkbaaGreat
namespace Go.Proofs.YtcblbdpdbggkbaaGreat
open _root_.Go.Proofs.Tryz
open Go
def aKq:List Nat:=[104,97,114,110,101,115,115,32,52,55,98,57,53,55,48,102,50,98,49,100,51,51,53,98,53,100,50,48,54,100,54,102,56,51,54,55,51,53,54,51,55,57,57,55,97,54,48,97,97,98,102,52,99,52,99,102,101,97,55,52,48,48,52,51,98,52,55,100,99,48,98,55,32,99,117,116,32]
def aLE:List Nat:=[97,116,32,108,111,111,112,46,101,120,97,109,112,108,101,47,105,110,107,108,105,110,103,47,108,97,119,115,46,70,110,78,101,116,78,101,119,32,108,111,111,112,46,101,120,97,109,112,108,101,47,105,110,107,108,105,110,103,47,108,97,119,115,46,70,110,78,101,116,79,107,32,108,111,111,112,46,101,120,97,109,112,108,101,47,105,110,107,108,105,110,103,47,108,97,119,115,46,70,110,78,101,116,82,101,97,99,104,32,108,111,111,112,46,101,120,97,109,112,108,101,47,105,110,107,108,105,110,103,47,108,97,119,115,46,70,110,78,101,116,82,101,97,99,104,80,97,116,104,32,108,111,111,112,46,101,120,97,109,112,108,101,47,105,110,107,108,105,110,103,47,108,97,119,115,46,70,110,78,101,116,75,110,111,119,110,32,108,111,111,112,46,101,120,97,109,112,108,101,47,105,110,107,108,105,110,103,47,108,97,119,115,46,70,110,78,101,116,83,117,109,32,108,111,111,112,46,101,120,97,109,112,108,101,47,105,110,107,108,105,110,103,47,108,97,119,115,46,70,110,78,101,116,83,117,109,71,101,116,32,108,111,111,112,46,101,120,97,109,112,108,101,47,105,110,107,108,105,110,103,47,108,97,119,115,46,70,110,78,101,116,83,117,109,70,97,114,32,108,111,111,112,46,101,120,97,109,112,108,101,47,105,110,107,108,105,110,103,47,108,97,119,115,46,70,110,78,101,116,76,105,115,116,32,108,111,111,112,46,101,120,97,109,112,108,101,47,105,110,107,108,105,110,103,47,108,97,119,115,46,70,110,69,120,97,99,116,78,101,116,79,107,32,108,111,111,112,46,101,120,97,109,112,108,101,47,105,110,107,108,105,110,103,47,108,97,119,115,46,70,110,69,120,97,99,116,78,101,116,82,101,97,99,104,32,108,111,111,112,46,101,120,97,109,112,108,101,47,105,110,107,108,105,110,103,47,108,97,119,115,46,70,110,69,120,97,99,116,78,101,116,75,110,111,119,110,32,108,111,111,112,46,101,120,97,109,112,108,101,47,105,110,107,108,105,110,103,47,108,97,119,115,46,70,110,69,120,97,99,116,78,101,116,83,117,109,32,108,111,111,112,46,101,120,97,109,112,108,101,47,105,110,107,108,105,110,103,47,108,97,119,115,46,70,110,69,120,97,99,116,78,101,116,76,105,115,116]
theorem a1:prog.initOrder=String.ofList (aKq.map Char.ofNat++aLE.map Char.ofNat):=by kernel_rfl
theorem a2:prog.initOrder.toList=aKq.map Char.ofNat++aLE.map Char.ofNat:=by rw[a1,String.toList_ofList]
theorem a3 (t:List Char):behindMainWord (wordsSigns (aKq.map Char.ofNat++t))= "cut".toList::wordsSigns t:=by kernel_rfl
theorem bm:∃X,behindMainWord (wordsSigns prog.initOrder.toList)= "cut".toList::X:=⟨_,by rw[a2,a3]⟩
theorem aL6 {P:Program} {c:List Char} {rest:List (List Char)} (h:behindMainWord (wordsSigns P.initOrder.toList)=c::rest):P.mayEnter=
  (((c== "gc".toList || c== "spec".toList)&&(rest.isEmpty || rest.head? ==some "stop".toList)) ||
    (c== "carried".toList&&rest.take 2==["gc".toList, "cut".toList]&& !P.laysLater&& !P.bearsReflect) ||
    ((stripLifts liftWords (c::rest)).2.head? ==some "cut".toList&&
      ((stripLifts liftWords (c::rest)).1.contains "finals" || !P.laysLater)&&((stripLifts liftWords (c::rest)).1.contains "reflectrows" || !P.bearsReflect)&&
      ((stripLifts liftWords (c::rest)).1.contains "reflectrows" || !(stripLifts liftWords (c::rest)).1.contains "leanrows")&&
      P.doorFits (stripLifts liftWords (c::rest)).1)):=by
 unfold Program.mayEnter;rw[h]
theorem aKx {P:Program} {c:List Char} {rest:List (List Char)} (h:behindMainWord (wordsSigns P.initOrder.toList)=c::rest):P.headLifts=if (stripLifts liftWords (c::rest)).2.head? ==some "cut".toList then (stripLifts liftWords (c::rest)).1 else []:=by
 unfold Program.headLifts;rw[h]
theorem aLF (X:List (List Char)):stripLifts liftWords ("cut".toList::X)=([], "cut".toList::X):=by kernel_rfl
theorem aLc {P:Program} {rest:List (List Char)} (h:behindMainWord (wordsSigns P.initOrder.toList)= "cut".toList::rest):P.make=some .cut:=by
 unfold Program.make;rw[h];kernel_rfl
theorem aLw {P:Program} {rest:List (List Char)} (h:behindMainWord (wordsSigns P.initOrder.toList)= "cut".toList::rest) (h1:P.laysLater=false) (h2:P.bearsReflect=false) (h3:P.doorFits []=true):P.mayEnter=true:=by
 rw[aL6 h,aLF,h1,h2,h3];kernel_rfl
theorem aH5 {P:Program} {rest:List (List Char)} (h:behindMainWord (wordsSigns P.initOrder.toList)= "cut".toList::rest):P.liftsFinal=false:=by
 unfold Program.liftsFinal;rw[aKx h,h,aLF];kernel_rfl
theorem aMl:prog.laysLater=false:=by kernel_rfl
theorem aMq:prog.bearsReflect=false:=by kernel_rfl
theorem aMb:prog.doorFits []=true:=by kernel_rfl
theorem mayE:prog.mayEnter=true:=by
 obtain⟨X,h⟩:=bm;exact aLw h aMl aMq aMb
theorem liftF:prog.liftsFinal=false:=by
 obtain⟨X,h⟩:=bm;exact aH5 h
theorem makeC:prog.make=some .cut:=by
 obtain⟨X,h⟩:=bm;exact aLc h
end Go.Proofs.YtcblbdpdbggkbaaGreat
