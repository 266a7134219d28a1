/-
  What the laws of XS need of the texts before it, part 10.
-/
import Derived.ArgAppend
import Derived.Below
import Derived.BigQuiet
import Derived.Carry
import Derived.ChangeAt
import Derived.ChangeOld
import Derived.ChangeSame
import Derived.Deep.AppendLies
import Derived.Deep.Cut
import Derived.Deep.DeepCutAuto
import Derived.Deep.DrawnRows
import Derived.Deep.Fields
import Derived.Deep.Matrix
import Derived.Deep.MidRow
import Derived.Deep.OwnRows
import Derived.Deep.QuietTactic
import Derived.Deep.RegionHeld3
import Derived.Deep.RegionLaw
import Derived.Deep.RegionLawGrows
import Derived.Deep.RegionWith
import Derived.Deep.Slices
import Derived.Deep.WholeRow
import Derived.DeepKeys5
import Derived.IntWalk
import Derived.KernelRfl
import Derived.Laws.AppendOwnNone
import Derived.Laws.EntriesVeiled
import Derived.Laws.ResultCell
import Derived.Lib.AppendZerosOnto
import Derived.Lib.Hide
import Derived.Lib.QuietBelow
import Derived.Lib.SliceRun
import Derived.Lib.SmallJoins
import Derived.Lib.Walk
import Derived.LoopIn
import Derived.LoopNIn
import Derived.Maps.AppendAt
import Derived.Maps.Keyed
import Derived.Maps.Own
import Derived.OneCell
import Derived.OpenShut
import Derived.OrdersHeld
import Derived.OwnWalkIn
import Derived.RangeFuncBound
import Derived.RangeFuncBox
import Derived.RangeFuncCalls
import Derived.RangeFuncLeaves
import Derived.RangeFuncNested
import Derived.RegionTactic
import Derived.Shelf.Abstract
import Derived.Shelf.RegionOpen
import Derived.Shelf.SlSortCmp.InsertionK
import Derived.StillTail
import Derived.TacticsInMore
import Derived.Test.YtcblbdpdbggkbaaGreatRows
import Derived.WalkKit
import Derived.WalkLawsBesides
import Derived.WalkSmall
import Derived.WalkSpells
import Derived.Test.YtcblbdpdbggkbaaGreatSXS9
set_option maxRecDepth 100000
set_option maxHeartbeats 16000000
set_option linter.unusedVariables false
set_option linter.unusedSectionVars false
set_option linter.unusedSimpArgs false
namespace Go.Proofs.YtcblbdpdbggkbaaGreat
open _root_.Go.Proofs.Tryz
theorem zr {P:Prop} (h:P:=by
 obtain rfl:j=n:=o_
 have e1:xs.take j=xs:=List.take_of_length_le (by rw[HN.out];exact Nat.le_refl _);have hF:=H.out;rw[e1,Nat.sub_self,List.replicate_zero,List.append_nil]at hF;have F:=hd_ hF;clear H hF e1;go_wp2;go_ret;exact⟨_,_,rfl,F.out⟩):P:=h
theorem zw {P:Prop} (h:P:=by
 rintro r w4 ⟨rfl,hb⟩;have HE:=hd_ (HD.out.trans (hb.mono HD.out.size));clear hb;refine hK _ _ (.inr (SS.out _ HE.out)) ?_;clear hK K
 try refine tP_ ?_
 repeat (first|refine tA_ ?_|refine tB_ ?_)
 refine aG ?_;clear SS HD;go_wp2;go_roundw
 case rel=>exact⟨k+1,hlt,gn_,HE.out⟩
 case measure=>simp[intOf];omega):P:=h
theorem zAt {P:Prop} (h:P:=by
 rw[<-EW.out]
 repeat (first|refine tC_ ?_|refine tB_ ?_)
 refine aB r_ (fun K' hK=>?_);go_simp;refine KE.out.mono ?_;rintro r w3 ⟨rfl,hb⟩;have H3:=hd_ (H2.later hb);refine hK _ _ (.inr (C0.out.below hb)) ?_;clear hK K'
 try refine tP_ ?_
 clear hb KE C0
 repeat (first|refine tC_ ?_|refine tB_ ?_)
 refine aG ?_;go_wp2;go_roundw
 case rel=>exact⟨j+1,o_,gn_,NO2.out,H3.out⟩
 case measure=>simp[intOf];omega):P:=h
theorem zAv {P:Prop} (h:P:=by
 rw[<-EW.out]
 repeat (first|refine tC_ ?_|refine tB_ ?_)
 refine aB r_ (fun K' hK=>?_);go_simp;refine KE.out.mono ?_;rintro r w3 ⟨rfl,hb⟩;have H3:=hd_ (H2.later hb);refine hK _ _ (.inr (C0.out.below hb)) ?_;clear hK K'
 try refine tP_ ?_
 clear hb KE C0
 repeat (first|refine tC_ ?_|refine tB_ ?_)
 refine aG ?_;go_wp2;go_ret;exact⟨by rw[F.out];rfl,by have:=H3.out.below;rwa[HP.out]at this⟩):P:=h
theorem zAM {P:Prop} (h:P:=by
 go_roundw
 case rel=>exact⟨j+1,o_,gn_,F.out⟩
 case measure=>simp[intOf];omega):P:=h
theorem zA5 {P:Prop} (h:P:=by
 go_wp2;go_ret;exact⟨by rw[F.out];rfl,by rw[<-HP.out];exact H3.out.below⟩):P:=h
theorem zBi {P:Prop} (h:P:=by
 refine aC 99 (.tk 0 25 .done) (fun w'=>w'=W) kr_ kr_ (fun _ _ _ _ _ h=>h) EW.out.symm ?_;rw[<-EW.out]
 repeat (first|refine tA_ ?_|refine tB_ ?_)
 refine aG ?_;exact zAc):P:=h
theorem zBu {P:Prop} (h:P:=by
 have IN3:=hd_ (IN2.out rfl);clear HV IN2;go_wp2;go_roundw
 case rel=>exact⟨q+1,o_,gn_,IN3.out,by first|rfl|trivial⟩
 case measure=>simp[intOf];omega):P:=h
theorem zBA {P:Prop} (h:P:=by
 have SY3:=hd_ (SY2.out rfl);clear F SY2;go_wp2;go_roundw
 case rel=>exact⟨b+1,o_,gn_,SY3.out,H2.out⟩
 case measure=>simp[intOf];omega):P:=h
theorem zBH {P:Prop} (h:P:=by
 refine hK _ _ (.inr C1.out) ?_;clear hK K'
 try refine tP_ ?_
 repeat (first|refine tC_ ?_|refine tB_ ?_)
 refine aG ?_;exact zA5):P:=h
theorem zBO {P:Prop} (h:P:=by
 go_wp2
 go_ret;exact⟨rfl,HB.out⟩):P:=h
theorem zB7 {P:Prop} (h:P:=by
 by_cases e:a<j
 ·exact NO.out a x e hx
 ·obtain rfl:a=j:=o_
  rw[HLB.out]at hx;cases hx;exact RO.out):P:=h
end Go.Proofs.YtcblbdpdbggkbaaGreat
namespace Go.Proofs.YtcblbdpdbggkbaaGreat
open _root_.Go.Proofs.Tryz
open Go.RowKit Go.Sort
section
variable {α:Type} {A:Rep α} {e:TypeId} {size:Nat} {w w0:World} {B:Nat} {l:List Ch}
theorem aJc {z:Value} (hz:z.cells.size=size) (n:Nat):(madeCells z.cells (n * size)).toList=((List.range n).map fun _=>z.cells.toList).flatten:=by
 apply List.ext_getElem?;intro j
 by_cases hj:j<n * size
 ·have s0:0<size:=Nat.pos_of_ne_zero fun q=>by rw[q,Nat.mul_zero]at hj;omega
  obtain⟨q,r,rfl,hr,hq⟩:∃q r,j=q * size+r/\r<size/\q<n:=⟨j / size,j % size,by rw[Nat.mul_comm];exact (Nat.div_add_mod j size).symm,Nat.mod_lt _ s0,(Nat.div_lt_iff_lt_mul s0).2 hj⟩
  rw[qT (size:=size) (c:=fun _=>z.cells.toList) (fun i _=>by rw[Array.length_toList];exact hz) hq hr];have e1:(q * size+r) % size=r:=by rw[Nat.add_comm,Nat.add_mul_mod_self_right,Nat.mod_eq_of_lt hr]
  simp[madeCells,hj,hz,e1,hr]
 ·rw[List.getElem?_eq_none (by simp[madeCells];omega),List.getElem?_eq_none (by rw[sI (size:=size) (c:=fun _=>z.cells.toList) (fun i _=>by rw[Array.length_toList];exact hz)];omega)]
theorem aMN (n:Nat):((List.range n).map fun _=>([]:List Nat)).flatten=[]:=by
 induction n with
 |zero=>rfl
 |succ n ih=>rw[List.range_succ,List.map_append,List.flatten_append,ih];rfl
theorem qD {P:Program} {t:TypeId} {z:Value} {bytes:Nat} (T:SlT P t e z size bytes) (FA:A.Frame) {z0:α} (hz:∀w,A w z.cells.toList z0 []) (h:M B w0 w l)
  {ops:Array Oper} {rest:List Oper} {o:Oper} {a:Act} {Q:Exit->Act->World->Prop} (hgd:o.guard=none) {lo co:Operand} (hop:o.op=Op.makeSlice t lo co) {kl kc:IntKind} {L C:Int} (n:Nat) (hlo:a.eval lo=.int kl L) (hco:a.eval co=.int kc C) (hL:L=(n:Int)) (hC:C=(n:Int))
  (b2:bytes * n<=281474976710656) (b3:n<=maxLen) (k:∀w',M B w0 w' (jH FA e size (.slice (some ⟨w.heap.size,0,none⟩) n n) (List.replicate n z0)::l)->Below w.heap.size w w'->wpList P ops Q rest (a.put o.dst (.slice (some ⟨w.heap.size,0,none⟩) n n)) w'):wpList P ops Q (o::rest) a w:=by
 obtain⟨i,hi,hiz,hs,hb⟩:=info_parts T.info;refine wpList_make_full w hgd lo co t hop w.heap.size e i z size T.und hi hiz hs kl kc L C n hlo hco hL hC (by rw[hb];exact b2) b3 lr_ fun w' ho hg=>?_
 have bl:Below w.heap.size w w':=⟨hg.os,hg.tape,hg.output,hg.size,fun q hq=>hg.block q hq (by simp)⟩
 rw[aJc T.zs]at ho;have lr:(List.replicate n z0).length=n:=List.length_replicate;refine k w' (h.add (f:=[w.heap.size]) bl ⟨_,fun _=>z.cells.toList,fun _=>[],rfl,by rw[lr];exact aM ho (Nat.zero_le _),fun i _=>by rw[Array.length_toList];exact T.zs,fun i x hi=>?_,?_⟩ (pB _) fun b hb=>by rw[List.mem_singleton.1 hb];exact Nat.le_refl _) bl
 ·have hx:=List.mem_of_getElem? hi
  rw[List.eq_of_mem_replicate hx];exact hz w'
 ·rw[aMN];rfl
theorem yU {xs:List α} {j n:Nat} {z:α} (hn:n=xs.length) (hj:j<n):(xs.take j++List.replicate (n - j) z)[j]? =some z:=by
 rw[List.getElem?_append_right (by rw[List.length_take];omega),List.length_take,List.getElem?_replicate,if_pos o_]
theorem pJ {xs:List α} {j n:Nat} {y z:α} (hn:n=xs.length) (hy:xs[j]? =some y):(xs.take j++List.replicate (n - j) z).set j y=xs.take (j+1)++List.replicate (n - (j+1)) z:=by
 have hj:j<xs.length:=(List.getElem?_eq_some_iff.1 hy).1;rw[List.set_append_right _ _ (by rw[List.length_take];omega),List.length_take,Nat.min_eq_left o_,Nat.sub_self,show n - j=(n - (j+1))+1 by omega,List.replicate_succ,List.set_cons_zero,List.take_add_one,hy];simp
end
theorem M.front {c:Ch} {w w0:World} {B:Nat} {l:List Ch} (h:M B w0 w (c::l)):M B w0 w [c]:=by
 obtain⟨f,hf,nd,lo⟩:=h.first;exact⟨h.below,h.low,f++[],⟨f,[],rfl,hf,rfl⟩,by rw[List.append_nil];exact nd,fun b hb=>lo b (by rw[List.append_nil]at hb;exact hb)⟩
namespace N
def wY:En:=⟨0,0,0,eC⟩
def wV:Wd:=⟨0,0,0,0,0,[]⟩
theorem nJ {α:Type} {A:Rep α} {e:TypeId} {size:Nat} (w:World):nQ e size A w [zn] [] []:=(Els.nil w 0 (fun _=>[]) fun _=>[]).rep
theorem aKJ (w:World):qC w [zn,zn,zn,iv 0,iv 0,zn,iv 0] eC []:=
 ⟨⟨none,0,0,none,0,0,none,0,0,none,0,0⟩,[],[],[],[],rfl,rfl,nJ w,.inl (nJ w),.inl (nJ w),.inl (nJ w)⟩
theorem aLd (w:World):aAg w (Value.agg #[iv 0,iv 0,iv 0,zn,zn,zn,iv 0,iv 0,zn,iv 0]).cells.toList wY []:=kZ.2 ⟨_,rfl,aKJ w⟩
theorem aG0 (w:World):aHB TY w (Value.agg #[iv 0,zn,iv 0,iv 0,iv 0]).cells.toList aG3 []:=nA.2 ⟨_,rfl,nJ w⟩
theorem aIM (w:World):aHb TY w (Value.agg #[iv 0,iv 0,iv 0,iv 0,iv 0,zn]).cells.toList wV []:=mZ.2 ⟨_,rfl,nJ w⟩
structure aBd (es:List En):Prop where
 len:es.length<=1048576
 sums:∀e ∈ es,rF e.s
structure aIL (n:Nt):Prop where
 nodes:n.nodes.length<=1048576
 links:n.links.length<=1048576
 words:n.words.length<=1048576
 past:n.past.length<=1048576
 node:∀x ∈ n.nodes,aBd x.known
 word:∀x ∈ n.words,aBd x.known
 rows:∀rs ∈ n.past,zE rs
theorem yQ {α:Type} {f:α->Nat} {l:List α} {a:α} (h:a ∈ l):f a<=szS f l:=by
 obtain⟨i,hi⟩:=List.getElem?_of_mem h;have:=rQ f l (i+1);rw[aAQ hi]at this;omega
theorem aBd.arg {es:List En} (h:szK es<=1048576):aBd es:=by
 unfold szK at h;exact⟨o_,fun e he=>rF.arg (by have:=yQ (f:=fun e:En=>sR e.s) he;omega)⟩
theorem aIL.arg {n:Nt} (h:aFE n<=1048576):aIL n:=by
 unfold aFE aBv aBQ szP at h;exact⟨o_,o_,o_,o_,fun x hx=>aBd.arg (by have:=yQ (f:=fun x:Nd=>szK x.known) hx;omega),fun x hx=>aBd.arg (by have:=yQ (f:=fun x:Wd=>szK x.known) hx;omega),fun rs hr=>zE.arg (by have:=yQ (f:=fun rs:List (List Int)=>rs.length+eX rs rs.length) hr;omega)⟩
theorem aLx (w:World) (V:SV) (s:Sm) (h:aDi w V s) (hl:rF s):Calls prog 194 #[.agg #[.slice V.xr V.nr V.cr,.slice V.xf V.nf V.cf,.slice V.xt V.nt V.ct,iv s.lo,iv s.al,.slice V.xk V.nk V.ck,iv s.ka]] w fun r w'=>∃U:SV,r=.returned (vS U s)/\M w.heap.size w w' [aQ.ch (cS U s) s]:=
 (aKo w V s h hl).mono fun _ _ ⟨U,a,b,c⟩=>⟨U,a,(M.start w).sum c b⟩
theorem aFU (w:World) (V:SV) (e:En) (h:aDi w V e.s) (hl:rF e.s):
  Calls prog 148 #[.agg #[iv e.node,iv e.born,iv e.num,.slice V.xr V.nr V.cr,.slice V.xf V.nf V.cf,.slice V.xt V.nt V.ct,.int .i64 (e.s).lo,.int .i64 (e.s).al,.slice V.xk V.nk V.ck,.int .i64 (e.s).ka]] w fun r w'=>∃U:SV,r=.returned (aBw U e)/\M w.heap.size w w' [aNf U e]:=by
 have X:=(((M.start w).alloc #[iv e.node,iv e.born,iv e.num,.slice V.xr V.nr V.cr,.slice V.xf V.nf V.cf,.slice V.xt V.nt V.ct,.int .i64 (e.s).lo,.int .i64 (e.s).al,.slice V.xk V.nk V.ck,.int .i64 (e.s).ka] 183).alloc #[iv 0,iv 0,iv 0,zn,zn,zn,iv 0,iv 0,zn,iv 0] 64).alloc #[iv e.node,iv e.born,iv e.num,zn,zn,zn,iv 0,iv 0,zn,iv 0] 64;simp only[World.size_alloc]at X
 obtain⟨p2,hp2⟩:=nm_ (w.heap.size+1);obtain⟨p3,hp3⟩:=nm_ (w.heap.size+1+1);have L23:p2<p3:=o_;have L13:w.heap.size<p3:=o_;have L12:w.heap.size<p2:=o_;have N23:¬p2=p3:=o_;have N32:¬p3=p2:=o_;have N13:¬w.heap.size=p3:=o_;have N31:¬p3=w.heap.size:=o_;rw[<-hp3, <-hp2]at X
 obtain⟨W0,hW⟩:=nm_ (((w.alloc (.cells #[iv e.node,iv e.born,iv e.num,.slice V.xr V.nr V.cr,.slice V.xf V.nf V.cf,.slice V.xt V.nt V.ct,.int .i64 (e.s).lo,.int .i64 (e.s).al,.slice V.xk V.nk V.ck,.int .i64 (e.s).ka] 183)).alloc (.cells #[iv 0,iv 0,iv 0,zn,zn,zn,iv 0,iv 0,zn,iv 0] 64)).alloc (.cells #[iv e.node,iv e.born,iv e.num,zn,zn,zn,iv 0,iv 0,zn,iv 0] 64));rw[<-hW]at X;have H:=hd_ X
 obtain⟨a0,a1,a2,a3,a4,a5,a6,a7,a8,a9⟩:=X.p2.cells10;obtain⟨d0,d1,d2,d3,d4,d5,d6,d7,d8,d9⟩:=X.cells10;have ff:=X.free;clear X;rw[hp3]at d0 d1 d2 d3 d4 d5 d6 d7 d8 d9 ff;rw[hW]at a0 a1 a2 a3 a4 a5 a6 a7 a8 a9 d0 d1 d2 d3 d4 d5 d6 d7 d8 d9 ff;go_enter func148,ntmps148
 go_wp2_with fail
 rw[<-hp3, <-hp2, <-hW];clear hW a0 a1 a2 a3 a4 a5 a6 a7 a8 a9 d0 d1 d2 d3 d4 d5 d6 d7 d8 d9 ff hp3 hp2;have H1:=H;clear H;obtain⟨W1,hW1⟩:=nm_ W0;rw[<-hW1]at H1 ⊢;clear hW1;refine (aLx W1 V e.s (h.below H1.out.below lr_) hl).mono ?_;rintro r w1 ⟨U,rfl,hU⟩;have H2:=hd_ (H1.out.plus hU).p1;clear hU H1
 go_wp2_with (first|(refine bE H2.out (vs:=[.slice U.xr U.nr U.cr,.slice U.xf U.nf U.cf,.slice U.xt U.nt U.ct,.int .i64 e.s.lo,.int .i64 e.s.al,.slice U.xk U.nk U.ck,.int .i64 e.s.ka]) (ys:=#[.int .i64 e.node,.int .i64 e.born,.int .i64 e.num,.slice U.xr U.nr U.cr,.slice U.xf U.nf U.cf,.slice U.xt U.nt U.ct,.int .i64 e.s.lo,.int .i64 e.s.al,.slice U.xk U.nk U.ck,.int .i64 e.s.ka]) rfl rfl rfl rfl vD rfl (by simp) (by simp[nO]) ?_;intro w2 h3;have H4:=hd_ h3;obtain⟨x0,x1,x2,x3,x4,x5,x6,x7,x8,x9⟩:=h3.cells10;clear h3 H2)|(refine bE H4.out.p2 (vs:=[.int .i64 e.node,.int .i64 e.born,.int .i64 e.num,.slice U.xr U.nr U.cr,.slice U.xf U.nf U.cf,.slice U.xt U.nt U.ct,.int .i64 e.s.lo,.int .i64 e.s.al,.slice U.xk U.nk U.ck,.int .i64 e.s.ka]) (ys:=#[.int .i64 e.node,.int .i64 e.born,.int .i64 e.num,.slice U.xr U.nr U.cr,.slice U.xf U.nf U.cf,.slice U.xt U.nt U.ct,.int .i64 e.s.lo,.int .i64 e.s.al,.slice U.xk U.nk U.ck,.int .i64 e.s.ka]) rfl rfl rfl rfl aMG rfl (by simp) (by simp[nO]) ?_;intro w3 h6;have H6:=hd_ h6;clear h6))
 obtain⟨e0,e1,e2,e3,e4,e5,e6,e7,e8,e9⟩:=H6.out.cells10;exact bodyPost_ret (v:=.agg #[iv e.node,iv e.born,iv e.num,.slice U.xr U.nr U.cr,.slice U.xf U.nf U.cf,.slice U.xt U.nt U.ct,iv e.s.lo,iv e.s.al,.slice U.xk U.nk U.ck,iv e.s.ka]) (by simp[results,results148,go_sem,e0,e1,e2,e3,e4,e5,e6,e7,e8,e9]) rfl ⟨U,rfl,(H6.out.p2.entry e.node e.born e.num).front⟩
theorem aAp (w:World) (v:Value) (xs:List (En)) (h:mM w [v] xs) (hn:xs.length<=1048576) (hl:∀e ∈ xs,rF e.s):
  Calls prog 62 #[v] w fun r w'=>∃y c,r=.returned (.slice y xs.length c)/\M w.heap.size w w' [jG (.slice y xs.length c) xs]:=by
 obtain⟨x,c,ev,_⟩:=bB h;cases ev;obtain⟨n,hn'⟩:=nm_ xs.length;rw[<-hn']at h ⊢ hn;have HN:=hd_ hn';have H1:=hd_ h;have HL:=hd_ hl;clear hl;have H0:=hd_ (M.start w);clear h hn';go_enter func62,ntmps62
 go_wp2_with (at_make;refine qD aNl aX (z0:=wY) aLd H0.out rfl rfl n rfl rfl rfl rfl o_ (by unfold maxLen;omega) ?_;intro w1 h1 hb1;have H:=hd_ h1;clear H0 h1 hb1)
 go_loopw [4] (fun i wr=>∃j:Nat,j<=n/\i=.int .i64 (j:Int)/\M w.heap.size w wr [jG (.slice (some ⟨w.heap.size,0,none⟩) n n) (xs.take j++List.replicate (n - j) (wY))]) (fun i _=>n - (intOf i).toNat)
 case atStart=>exact⟨0,Nat.zero_le _,rfl,H.out⟩
 case round=>
  clear H;obtain⟨j,hj,rfl,hm⟩:=hrel;have H:=hd_ hm;clear hm
  by_cases hlt:j<n
  ·obtain⟨y,hy⟩:∃y,xs[j]? =some y:=⟨_,List.getElem?_eq_getElem (by rw[<-HN.out];exact hlt)⟩
   obtain⟨b,o,ci,rfl,_,lc,hr,hA⟩:=mT (gU.keep H1.out H.out.below lr_) hy;obtain⟨cs,ec,V,ec2,hs⟩:=zX.1 hA;subst ec2;subst ec;have a0:=hr 0 _ rfl;have a1:=hr 1 _ rfl;have a2:=hr 2 _ rfl;have a3:=hr 3 _ rfl;have a4:=hr 4 _ rfl;have a5:=hr 5 _ rfl;have a6:=hr 6 _ rfl;have a7:=hr 7 _ rfl;have a8:=hr 8 _ rfl;have a9:=hr 9 _ rfl;simp only[Nat.add_zero]at a0
   have KS:=hd_ (aFU wr V y hs (HL.out y (List.mem_of_getElem? hy)));have HF:=hd_ (pJ (z:=wY) HN.out hy);have FA0:=hd_ (yU (z:=wY) HN.out hlt);have k0:(0:Int)<=(j:Int):=o_;have kn:(j:Int)<(n:Int):=o_;have HJ:Hid (j<(xs.take j++List.replicate (n - j) (wY)).length):=hd_ (by rw[List.length_append,List.length_take,List.length_replicate];have:=HN.out;omega)
   clear hy lc hr hA
   go_wp2_with fail
   refine KS.out.mono ?_;rintro r w2 ⟨U,rfl,hU⟩;have h1:=H.out.plus hU;obtain⟨g,cap,ci,e,_,h2⟩:=M.open aX h1.p1 FA0.out;simp only[Value.slice.injEq,Option.some.injEq,Addr.mk.injEq,and_true]at e;obtain⟨rfl,en,rfl⟩:=e;clear en
   obtain⟨Z,rfl⟩:∃Z:SV,ci=[.int .i64 0,.int .i64 0,.int .i64 0,.slice Z.xr Z.nr Z.cr,.slice Z.xf Z.nf Z.cf,.slice Z.xt Z.nt Z.ct,.int .i64 0,.int .i64 0,.slice Z.xk Z.nk Z.ck,.int .i64 0]:=by
    obtain⟨f,hf,_⟩:=h2.first;obtain⟨cs,rfl,Z,_,_,_,_,rfl,_⟩:=kZ.1 hf;exact⟨Z,rfl⟩
   have H2:=hd_ h2.drop;clear h1 h2 hU KS H
   go_wp2_with (go_loud (refine oS H2.out HJ.out rfl (j:=0) (vs:=[.int .i64 y.node,.int .i64 y.born,.int .i64 y.num,.slice U.xr U.nr U.cr,.slice U.xf U.nf U.cf,.slice U.xt U.nt U.ct,.int .i64 y.s.lo,.int .i64 y.s.al,.slice U.xk U.nk U.ck,.int .i64 y.s.ka]) (ci':=[.int .i64 y.node,.int .i64 y.born,.int .i64 y.num,.slice U.xr U.nr U.cr,.slice U.xf U.nf U.cf,.slice U.xt U.nt U.ct,.int .i64 y.s.lo,.int .i64 y.s.al,.slice U.xk U.nk U.ck,.int .i64 y.s.ka]) rfl rfl rfl rfl rfl aMG rfl (by simp) (by simp[aGk]) ?_);intro w4 h3;have h4:=M.close (FA:=aX) (x:=y) h3.p1 HJ.out;rw[HF.out]at h4;have F:=hd_ h4;clear h3 h4 H2)
   exact zAM
  ·exact zr
theorem aH9 (w:World) {y:Option Addr} {m0 cy:Nat} (x:Nd) (h:mM w [.slice y m0 cy] x.known) (hl:aBd x.known):
  Calls prog 185 #[.agg #[iv x.born,.slice y m0 cy,iv x.beacon,iv x.level,iv x.up]] w fun r w'=>∃y2 c2,r=.returned (.agg #[iv x.born,.slice y2 x.known.length c2,iv x.beacon,iv x.level,iv x.up])/\M w.heap.size w w' [aMw [iv x.born,.slice y2 x.known.length c2,iv x.beacon,iv x.level,iv x.up] x]:=by
 have X:=(((M.start w).alloc #[iv x.born,.slice y m0 cy,iv x.beacon,iv x.level,iv x.up] 220).alloc #[iv 0,zn,iv 0,iv 0,iv 0] 55).alloc #[iv x.born,zn,iv 0,iv 0,iv 0] 55;simp only[World.size_alloc]at X;obtain⟨p2,hp2⟩:=nm_ (w.heap.size+1);obtain⟨p3,hp3⟩:=nm_ (w.heap.size+1+1);have L23:p2<p3:=o_;have L13:w.heap.size<p3:=o_;have L12:w.heap.size<p2:=o_;have N23:¬p2=p3:=o_;have N32:¬p3=p2:=o_
 have N13:¬w.heap.size=p3:=o_;have N31:¬p3=w.heap.size:=o_;rw[<-hp3, <-hp2]at X;obtain⟨W0,hW⟩:=nm_ (((w.alloc (.cells #[iv x.born,.slice y m0 cy,iv x.beacon,iv x.level,iv x.up] 220)).alloc (.cells #[iv 0,zn,iv 0,iv 0,iv 0] 55)).alloc (.cells #[iv x.born,zn,iv 0,iv 0,iv 0] 55));rw[<-hW]at X;have H:=hd_ X;obtain⟨a0,a1,a2,a3,a4⟩:=X.p2.cells5;obtain⟨d0,d1,d2,d3,d4⟩:=X.cells5;have ff:=X.free;clear X
 rw[hp3]at d0 d1 d2 d3 d4 ff;rw[hW]at a0 a1 a2 a3 a4 d0 d1 d2 d3 d4 ff;go_enter func185,ntmps185
 go_wp2_with fail
 rw[<-hp3, <-hp2, <-hW];clear hW a0 a1 a2 a3 a4 d0 d1 d2 d3 d4 ff hp3 hp2;have H1:=H;clear H;obtain⟨W1,hW1⟩:=nm_ W0;rw[<-hW1]at H1 ⊢;clear hW1;refine (aAp W1 _ x.known (gU.keep h H1.out.below lr_) hl.len hl.sums).mono ?_;rintro r w1 ⟨y2,c2,rfl,hU⟩;have H2:=hd_ (H1.out.plus hU).p1;clear hU H1;obtain⟨d0,d1,d2,d3,d4⟩:=H2.out.cells5;have ff:=H2.out.free
 obtain⟨a0,a1,a2,a3,a4⟩:=H2.out.p3.cells5;have g0:=H2.out.set (i:=1) (.slice y2 x.known.length c2);simp only[List.setIfInBounds_toArray,List.set_cons_zero,List.set_cons_succ]at g0;have g1:=g0.set (i:=2) (iv x.beacon);simp only[List.setIfInBounds_toArray,List.set_cons_zero,List.set_cons_succ]at g1;have g2:=g1.set (i:=3) (iv x.level)
 simp only[List.setIfInBounds_toArray,List.set_cons_zero,List.set_cons_succ]at g2;have g3:=g2.set (i:=4) (iv x.up);simp only[List.setIfInBounds_toArray,List.set_cons_zero,List.set_cons_succ]at g3;have H4:=hd_ g3;clear g0 g1 g2 g3 H2;obtain⟨x0,x1,x2,x3,x4⟩:=H4.out.cells5
 go_wp2_with (refine bE H4.out.p2 (vs:=[.int .i64 x.born,.slice y2 x.known.length c2,.int .i64 x.beacon,.int .i64 x.level,.int .i64 x.up]) (ys:=#[.int .i64 x.born,.slice y2 x.known.length c2,.int .i64 x.beacon,.int .i64 x.level,.int .i64 x.up]) rfl rfl rfl rfl aMn rfl (by simp) (by simp[nO]) ?_;intro w3 h6;have H6:=hd_ h6;clear h6)
 obtain⟨e0,e1,e2,e3,e4⟩:=H6.out.cells5;exact bodyPost_ret (v:=.agg #[iv x.born,.slice y2 x.known.length c2,iv x.beacon,iv x.level,iv x.up]) (by simp[results,results185,go_sem,e0,e1,e2,e3,e4]) rfl ⟨y2,c2,rfl,(H6.out.p2.node x.born x.beacon x.level x.up).front⟩
theorem aHa (w:World) (v:Value) (xs:List (Nd)) (h:rR 5 aAO w [v] xs) (hn:xs.length<=1048576) (hl:∀x ∈ xs,aBd x.known):
  Calls prog 116 #[v] w fun r w'=>∃y c,r=.returned (.slice y xs.length c)/\M w.heap.size w w' [mJ (.slice y xs.length c) xs]:=by
 obtain⟨x,c,ev,_⟩:=bB h;cases ev;obtain⟨n,hn'⟩:=nm_ xs.length;rw[<-hn']at h ⊢ hn;have HN:=hd_ hn';have H1:=hd_ h;have HL:=hd_ hl;clear hl;have H0:=hd_ (M.start w);clear h hn';go_enter func116,ntmps116
 go_wp2_with (at_make;refine qD aM6 (cP (T:=TY)) (z0:=aG3) aG0 H0.out rfl rfl n rfl rfl rfl rfl o_ (by unfold maxLen;omega) ?_;intro w1 h1 hb1;have H:=hd_ h1;clear H0 h1 hb1)
 go_loopw [4] (fun i wr=>∃j:Nat,j<=n/\i=.int .i64 (j:Int)/\M w.heap.size w wr [mJ (.slice (some ⟨w.heap.size,0,none⟩) n n) (xs.take j++List.replicate (n - j) (aG3))]) (fun i _=>n - (intOf i).toNat)
 case atStart=>exact⟨0,Nat.zero_le _,rfl,H.out⟩
 case round=>
  clear H;obtain⟨j,hj,rfl,hm⟩:=hrel;have H:=hd_ hm;clear hm
  by_cases hlt:j<n
  ·obtain⟨y,hy⟩:∃y,xs[j]? =some y:=⟨_,List.getElem?_eq_getElem (by rw[<-HN.out];exact hlt)⟩
   obtain⟨b,o,ci,rfl,_,lc,hr,hA⟩:=mT ((eJ nH 5).keep H1.out H.out.below lr_) hy;obtain⟨v,ec,hs⟩:=aCc.1 hA;subst ec;obtain⟨z,cz,ez,_⟩:=bB hs;cases ez;have a0:=hr 0 _ rfl;have a1:=hr 1 _ rfl;have a2:=hr 2 _ rfl;have a3:=hr 3 _ rfl;have a4:=hr 4 _ rfl;simp only[Nat.add_zero]at a0;have KS:=hd_ (aH9 wr y hs (HL.out y (List.mem_of_getElem? hy)))
   have HF:=hd_ (pJ (z:=aG3) HN.out hy);have FA0:=hd_ (yU (z:=aG3) HN.out hlt);have k0:(0:Int)<=(j:Int):=o_;have kn:(j:Int)<(n:Int):=o_;have HJ:Hid (j<(xs.take j++List.replicate (n - j) (aG3)).length):=hd_ (by rw[List.length_append,List.length_take,List.length_replicate];have:=HN.out;omega);clear hy lc hr hA
   go_wp2_with fail
   refine KS.out.mono ?_;rintro r w2 ⟨y2,c2,rfl,hU⟩;have h1:=H.out.plus hU;obtain⟨g,cap,ci,e,_,h2⟩:=M.open (cP (T:=TY)) h1.p1 FA0.out;simp only[Value.slice.injEq,Option.some.injEq,Addr.mk.injEq,and_true]at e;obtain⟨rfl,en,rfl⟩:=e;clear en;obtain⟨u,rfl⟩:∃u:Value,ci=[.int .i64 0,u,.int .i64 0,.int .i64 0,.int .i64 0]:=by
    obtain⟨f,hf,_⟩:=h2.first;obtain⟨u,rfl,_⟩:=nA.1 hf;exact⟨u,rfl⟩
   have H2:=hd_ h2.drop;clear h1 h2 hU KS H
   go_wp2_with (go_loud (refine oS H2.out HJ.out rfl (j:=0) (vs:=[.int .i64 y.born,.slice y2 y.known.length c2,.int .i64 y.beacon,.int .i64 y.level,.int .i64 y.up]) (ci':=[.int .i64 y.born,.slice y2 y.known.length c2,.int .i64 y.beacon,.int .i64 y.level,.int .i64 y.up]) rfl rfl rfl rfl rfl aMn rfl (by simp) (by simp[aGk]) ?_);intro w4 h3;have h4:=M.close (FA:=(cP (T:=TY))) (x:=y) h3.p1 HJ.out;rw[HF.out]at h4;have F:=hd_ h4;clear h3 h4 H2)
   exact zAM
  ·exact zr
theorem aHY (w:World) {y:Option Addr} {m0 cy:Nat} (x:Wd) (h:mM w [.slice y m0 cy] x.known) (hl:aBd x.known):
  Calls prog 186 #[.agg #[iv x.kind,iv x.src,iv x.dst,iv x.beacon,iv x.level,.slice y m0 cy]] w fun r w'=>∃y2 c2,r=.returned (.agg #[iv x.kind,iv x.src,iv x.dst,iv x.beacon,iv x.level,.slice y2 x.known.length c2])/\M w.heap.size w w' [aMx [iv x.kind,iv x.src,iv x.dst,iv x.beacon,iv x.level,.slice y2 x.known.length c2] x]:=by
 have X:=(((M.start w).alloc #[iv x.kind,iv x.src,iv x.dst,iv x.beacon,iv x.level,.slice y m0 cy] 223).alloc #[iv 0,iv 0,iv 0,iv 0,iv 0,zn] 123).alloc #[iv x.kind,iv x.src,iv x.dst,iv x.beacon,iv x.level,zn] 123;simp only[World.size_alloc]at X;obtain⟨p2,hp2⟩:=nm_ (w.heap.size+1);obtain⟨p3,hp3⟩:=nm_ (w.heap.size+1+1);have L23:p2<p3:=o_;have L13:w.heap.size<p3:=o_;have L12:w.heap.size<p2:=o_
 have N23:¬p2=p3:=o_;have N32:¬p3=p2:=o_;have N13:¬w.heap.size=p3:=o_;have N31:¬p3=w.heap.size:=o_;rw[<-hp3, <-hp2]at X;obtain⟨W0,hW⟩:=nm_ (((w.alloc (.cells #[iv x.kind,iv x.src,iv x.dst,iv x.beacon,iv x.level,.slice y m0 cy] 223)).alloc (.cells #[iv 0,iv 0,iv 0,iv 0,iv 0,zn] 123)).alloc (.cells #[iv x.kind,iv x.src,iv x.dst,iv x.beacon,iv x.level,zn] 123));rw[<-hW]at X;have H:=hd_ X
 obtain⟨a0,a1,a2,a3,a4,a5⟩:=X.p2.cells6;obtain⟨d0,d1,d2,d3,d4,d5⟩:=X.cells6;have ff:=X.free;clear X;rw[hp3]at d0 d1 d2 d3 d4 d5 ff;rw[hW]at a0 a1 a2 a3 a4 a5 d0 d1 d2 d3 d4 d5 ff;go_enter func186,ntmps186
 go_wp2_with fail
 rw[<-hp3, <-hp2, <-hW];clear hW a0 a1 a2 a3 a4 a5 d0 d1 d2 d3 d4 d5 ff hp3 hp2;have H1:=H;clear H;obtain⟨W1,hW1⟩:=nm_ W0;rw[<-hW1]at H1 ⊢;clear hW1;refine (aAp W1 _ x.known (gU.keep h H1.out.below lr_) hl.len hl.sums).mono ?_;rintro r w1 ⟨y2,c2,rfl,hU⟩;have H2:=hd_ (H1.out.plus hU).p1;clear hU H1;obtain⟨d0,d1,d2,d3,d4,d5⟩:=H2.out.cells6;have ff:=H2.out.free
 obtain⟨a0,a1,a2,a3,a4,a5⟩:=H2.out.p3.cells6;have g0:=H2.out.set (i:=5) (.slice y2 x.known.length c2);simp only[List.setIfInBounds_toArray,List.set_cons_zero,List.set_cons_succ]at g0;have H4:=hd_ g0;clear g0 H2;obtain⟨x0,x1,x2,x3,x4,x5⟩:=H4.out.cells6
 go_wp2_with (refine bE H4.out.p2 (vs:=[.int .i64 x.kind,.int .i64 x.src,.int .i64 x.dst,.int .i64 x.beacon,.int .i64 x.level,.slice y2 x.known.length c2]) (ys:=#[.int .i64 x.kind,.int .i64 x.src,.int .i64 x.dst,.int .i64 x.beacon,.int .i64 x.level,.slice y2 x.known.length c2]) rfl rfl rfl rfl aMp rfl (by simp) (by simp[nO]) ?_;intro w3 h6;have H6:=hd_ h6;clear h6)
 obtain⟨e0,e1,e2,e3,e4,e5⟩:=H6.out.cells6;exact bodyPost_ret (v:=.agg #[iv x.kind,iv x.src,iv x.dst,iv x.beacon,iv x.level,.slice y2 x.known.length c2]) (by simp[results,results186,go_sem,e0,e1,e2,e3,e4,e5]) rfl ⟨y2,c2,rfl,(H6.out.p2.word x.kind x.src x.dst x.beacon x.level).front⟩
theorem aFP (w:World) (v:Value) (xs:List (Wd)) (h:rR 6 aAh w [v] xs) (hn:xs.length<=1048576) (hl:∀x ∈ xs,aBd x.known):
  Calls prog 118 #[v] w fun r w'=>∃y c,r=.returned (.slice y xs.length c)/\M w.heap.size w w' [mN (.slice y xs.length c) xs]:=by
 obtain⟨x,c,ev,_⟩:=bB h;cases ev;obtain⟨n,hn'⟩:=nm_ xs.length;rw[<-hn']at h ⊢ hn;have HN:=hd_ hn';have H1:=hd_ h;have HL:=hd_ hl;clear hl;have H0:=hd_ (M.start w);clear h hn';go_enter func118,ntmps118
 go_wp2_with (at_make;refine qD aM7 (gD (T:=TY)) (z0:=wV) aIM H0.out rfl rfl n rfl rfl rfl rfl o_ (by unfold maxLen;omega) ?_;intro w1 h1 hb1;have H:=hd_ h1;clear H0 h1 hb1)
 go_loopw [4] (fun i wr=>∃j:Nat,j<=n/\i=.int .i64 (j:Int)/\M w.heap.size w wr [mN (.slice (some ⟨w.heap.size,0,none⟩) n n) (xs.take j++List.replicate (n - j) (wV))]) (fun i _=>n - (intOf i).toNat)
 case atStart=>exact⟨0,Nat.zero_le _,rfl,H.out⟩
 case round=>
  clear H;obtain⟨j,hj,rfl,hm⟩:=hrel;have H:=hd_ hm;clear hm
  by_cases hlt:j<n
  ·obtain⟨y,hy⟩:∃y,xs[j]? =some y:=⟨_,List.getElem?_eq_getElem (by rw[<-HN.out];exact hlt)⟩
   obtain⟨b,o,ci,rfl,_,lc,hr,hA⟩:=mT ((eJ nK 6).keep H1.out H.out.below lr_) hy;obtain⟨v,ec,hs⟩:=aBU.1 hA;subst ec;obtain⟨z,cz,ez,_⟩:=bB hs;cases ez;have a0:=hr 0 _ rfl;have a1:=hr 1 _ rfl;have a2:=hr 2 _ rfl;have a3:=hr 3 _ rfl;have a4:=hr 4 _ rfl;have a5:=hr 5 _ rfl;simp only[Nat.add_zero]at a0
   have KS:=hd_ (aHY wr y hs (HL.out y (List.mem_of_getElem? hy)));have HF:=hd_ (pJ (z:=wV) HN.out hy);have FA0:=hd_ (yU (z:=wV) HN.out hlt);have k0:(0:Int)<=(j:Int):=o_;have kn:(j:Int)<(n:Int):=o_;have HJ:Hid (j<(xs.take j++List.replicate (n - j) (wV)).length):=hd_ (by rw[List.length_append,List.length_take,List.length_replicate];have:=HN.out;omega)
   clear hy lc hr hA
   go_wp2_with fail
   refine KS.out.mono ?_;rintro r w2 ⟨y2,c2,rfl,hU⟩;have h1:=H.out.plus hU;obtain⟨g,cap,ci,e,_,h2⟩:=M.open (gD (T:=TY)) h1.p1 FA0.out;simp only[Value.slice.injEq,Option.some.injEq,Addr.mk.injEq,and_true]at e;obtain⟨rfl,en,rfl⟩:=e;clear en;obtain⟨u,rfl⟩:∃u:Value,ci=[.int .i64 0,.int .i64 0,.int .i64 0,.int .i64 0,.int .i64 0,u]:=by
    obtain⟨f,hf,_⟩:=h2.first;obtain⟨u,rfl,_⟩:=mZ.1 hf;exact⟨u,rfl⟩
   have H2:=hd_ h2.drop;clear h1 h2 hU KS H
   go_wp2_with (go_loud (refine oS H2.out HJ.out rfl (j:=0) (vs:=[.int .i64 y.kind,.int .i64 y.src,.int .i64 y.dst,.int .i64 y.beacon,.int .i64 y.level,.slice y2 y.known.length c2]) (ci':=[.int .i64 y.kind,.int .i64 y.src,.int .i64 y.dst,.int .i64 y.beacon,.int .i64 y.level,.slice y2 y.known.length c2]) rfl rfl rfl rfl rfl aMp rfl (by simp) (by simp[aGk]) ?_);intro w4 h3;have h4:=M.close (FA:=(gD (T:=TY))) (x:=y) h3.p1 HJ.out;rw[HF.out]at h4;have F:=hd_ h4;clear h3 h4 H2)
   exact zAM
  ·exact zr
theorem aGH (w:World) (v:Value) (xs:List Bool) (h:aAI w [v] xs) (hn:xs.length<=1048576):
  Calls prog 117 #[v] w fun r w'=>∃y c,r=.returned (.slice y xs.length c)/\M w.heap.size w w' [lL (.slice y xs.length c) xs]:=by
 obtain⟨x,c,ev,_⟩:=bB h;cases ev;obtain⟨n,hn'⟩:=nm_ xs.length;rw[<-hn']at h ⊢ hn;have HN:=hd_ hn';have H1:=hd_ h;have H0:=hd_ (M.start w);clear h hn';go_enter func117,ntmps117
 go_wp2_with (at_make;refine aH2 aMl (enc:=aMy) (z0:=false) rfl rfl (fun _=>rfl) H0.out rfl rfl n rfl rfl rfl rfl o_ (by unfold maxLen;omega) ?_;intro w1 h1 hb1;have H:=hd_ h1;clear H0 h1 hb1)
 go_loopw [4] (fun i wr=>∃j:Nat,j<=n/\i=.int .i64 (j:Int)/\M w.heap.size w wr [lL (.slice (some ⟨w.heap.size,0,none⟩) n n) (xs.take j++List.replicate (n - j) false)]) (fun i _=>n - (intOf i).toNat)
 case atStart=>exact⟨0,Nat.zero_le _,rfl,H.out⟩
 case round=>
  clear H;obtain⟨j,hj,rfl,hm⟩:=hrel;have H:=hd_ hm;clear hm
  by_cases hlt:j<n
  ·obtain⟨y,hy⟩:∃y,xs[j]? =some y:=⟨_,List.getElem?_eq_getElem (by rw[<-HN.out];exact hlt)⟩
   obtain⟨b,o,ci,rfl,_,lc,hr,hA⟩:=mT (oO.keep H1.out H.out.below lr_) hy;have a0:=hr 0 (.bool y) (by rw[hA];rfl);simp only[Nat.mul_one,Nat.add_zero]at a0;have HF:=hd_ (pJ (z:=false) HN.out hy);have k0:(0:Int)<=(j:Int):=o_;have kn:(j:Int)<(n:Int):=o_
   have HJ:Hid (j<(xs.take j++List.replicate (n - j) false).length):=hd_ (by rw[List.length_append,List.length_take,List.length_replicate];have:=HN.out;omega);clear hy lc hr hA;obtain⟨⟨z,cz⟩,fz,h1⟩:=H.out.setEl (i:=j) HJ.out y (u:=.bool y) rfl;rw[HF.out]at h1;have F:=hd_ (show M w.heap.size w _ [lL _ _]from h1);clear h1 H;go_wp2;exact zAM
  ·exact zr
theorem aGB {w:World} {B:Nat} {v:Value} {rs:List (List Int)} {G C:Nat->Nat} (o:dJ w B v rs G C):(v.ownBlock.toList++(List.range rs.length).map G).Nodup:=by
 refine List.nodup_append.2 ⟨gV _,List.pairwise_map.2 (List.Pairwise.imp_of_mem (fun {i j} hi hj q e=>o.apart i j (List.mem_range.1 hi) (List.mem_range.1 hj) q e) List.nodup_range),fun a ha b hb e=>?_⟩;exact zB8
theorem aLm {w:World} {B:Nat} {v:Value} {rs:List (List Int)} {G C:Nat->Nat} (o:dJ w B v rs G C):∀b ∈ v.ownBlock.toList++(List.range rs.length).map G,B<=b:=fun b hb=>by
 rcases List.mem_append.1 hb with hb|hb
 ·exact (World.ownsRow.lt o.hdr b (bR hb)).1
 ·obtain⟨i,hi,rfl⟩:=List.mem_map.1 hb
  exact ((o.row i (List.mem_range.1 hi)).lt (G i) rfl).1
theorem aJn (w:World) (v:Value) (rs:List (List Int)) (h:pC w v rs) (hl:zE rs):
  Calls prog 187 #[v] w fun r w'=>∃y c,r=.returned (.slice y rs.length c)/\M w.heap.size w w' [oG (.slice y rs.length c) rs]:=
 (yK w v rs h hl.len hl.row).mono fun _ w' ⟨a,⟨G,b⟩,c⟩=>⟨_,_,a,(M.start w).add c (aDZ b) (aGB b) (aLm b)⟩
theorem aHT (w:World) (v:Value) (xs:List (List (List Int))) (h:aCk w [v] xs) (hn:xs.length<=1048576) (hl:∀rs ∈ xs,zE rs):
  Calls prog 119 #[v] w fun r w'=>∃y c,r=.returned (.slice y xs.length c)/\M w.heap.size w w' [pQ (.slice y xs.length c) xs]:=by
 obtain⟨x,c,ev,_⟩:=bB h;cases ev;obtain⟨n,hn'⟩:=nm_ xs.length;rw[<-hn']at h ⊢ hn;have HN:=hd_ hn';have H1:=hd_ h;have HL:=hd_ hl;clear hl;have H0:=hd_ (M.start w);clear h hn';go_enter func119,ntmps119
 go_wp2_with (at_make;refine qD aM2 cA (z0:=([]:List (List Int))) (fun w=>nJ w) H0.out rfl rfl n rfl rfl rfl rfl o_ (by unfold maxLen;omega) ?_;intro w1 h1 hb1;have H:=hd_ h1;clear H0 h1 hb1)
 go_loopw [4] (fun i wr=>∃j:Nat,j<=n/\i=.int .i64 (j:Int)/\M w.heap.size w wr [pQ (.slice (some ⟨w.heap.size,0,none⟩) n n) (xs.take j++List.replicate (n - j) (([]:List (List Int))))]) (fun i _=>n - (intOf i).toNat)
 case atStart=>exact⟨0,Nat.zero_le _,rfl,H.out⟩
 case round=>
  clear H;obtain⟨j,hj,rfl,hm⟩:=hrel;have H:=hd_ hm;clear hm
  by_cases hlt:j<n
  ·obtain⟨y,hy⟩:∃y,xs[j]? =some y:=⟨_,List.getElem?_eq_getElem (by rw[<-HN.out];exact hlt)⟩
   obtain⟨b,o,ci,rfl,_,lc,hr,hA⟩:=mT (nR.keep H1.out H.out.below lr_) hy;obtain⟨z,cz,ez,_⟩:=bB hA;subst ez;have a0:=hr 0 _ rfl;simp only[Nat.mul_one,Nat.add_zero]at a0;have KS:=hd_ (aJn wr _ y (aCx hA) (HL.out y (List.mem_of_getElem? hy)));have HF:=hd_ (pJ (z:=([]:List (List Int))) HN.out hy);have FA0:=hd_ (yU (z:=([]:List (List Int))) HN.out hlt)
   have k0:(0:Int)<=(j:Int):=o_;have kn:(j:Int)<(n:Int):=o_;have HJ:Hid (j<(xs.take j++List.replicate (n - j) (([]:List (List Int)))).length):=hd_ (by rw[List.length_append,List.length_take,List.length_replicate];have:=HN.out;omega);clear hy lc hr hA
   go_wp2_with fail
   refine KS.out.mono ?_;rintro r w2 ⟨y2,c2,rfl,hU⟩;have h1:=H.out.plus hU;obtain⟨g,cap,ci,e,_,h2⟩:=M.open cA h1.p1 FA0.out;simp only[Value.slice.injEq,Option.some.injEq,Addr.mk.injEq,and_true]at e;obtain⟨rfl,en,rfl⟩:=e;clear en;obtain⟨u,rfl⟩:∃u:Value,ci=[u]:=by
    obtain⟨f,hf,_⟩:=h2.first;obtain⟨u,_,_,rfl,_⟩:=hf;exact⟨u,rfl⟩
   have H2:=hd_ h2.drop;clear h1 h2 hU KS H;have z0:=H2.out.hcell1 HJ.out;have fz:=H2.out.hfree;have h3:=H2.out.hset1 HJ.out (.slice y2 y.length c2);have h4:=M.close (FA:=cA) (x:=y) h3.p1 HJ.out;rw[HF.out]at h4;have F:=hd_ (show M w.heap.size w _ [pQ _ _]from h4);clear h3 h4;go_wp2;exact zAM
  ·exact zr
theorem aKB (w:World) {x1 x2 x3 x4:Option Addr} {k1 k2 k3 k4 c1 c2 c3 c4:Nat} (n:Nt) (h:aFV w [.slice x1 k1 c1,.slice x2 k2 c2,.slice x3 k3 c3,.slice x4 k4 c4] n) (hl:aIL n):
  Calls prog 49 #[.agg #[.slice x1 k1 c1,.slice x2 k2 c2,.slice x3 k3 c3,.slice x4 k4 c4]] w fun r w'=>∃y1 d1 y2 d2 y3 d3 y4 d4,r=.returned (.agg #[.slice y1 n.nodes.length d1,.slice y2 n.links.length d2,.slice y3 n.words.length d3,.slice y4 n.past.length d4])/\M w.heap.size w w' [mJ (.slice y1 n.nodes.length d1) n.nodes,lL (.slice y2 n.links.length d2) n.links,mN (.slice y3 n.words.length d3) n.words,pQ (.slice y4 n.past.length d4) n.past]:=by
 obtain⟨_,_,_,_,ev,h1,h2,h3,h4⟩:=zT.1 h;cases ev;have HL:=hd_ hl;have H1:=hd_ h1;have H2:=hd_ h2;have H3:=hd_ h3;have H4:=hd_ h4;clear h hl h1 h2 h3 h4;have X:=(((M.start w).alloc #[.slice x1 k1 c1,.slice x2 k2 c2,.slice x3 k3 c3,.slice x4 k4 c4] 80).alloc #[zn,zn,zn,zn] 30).alloc #[zn,zn,zn,zn] 30;simp only[World.size_alloc]at X;obtain⟨p2,hp2⟩:=nm_ (w.heap.size+1)
 obtain⟨p3,hp3⟩:=nm_ (w.heap.size+1+1);rw[<-hp3, <-hp2]at X;obtain⟨W0,hW⟩:=nm_ (((w.alloc (.cells #[.slice x1 k1 c1,.slice x2 k2 c2,.slice x3 k3 c3,.slice x4 k4 c4] 80)).alloc (.cells #[zn,zn,zn,zn] 30)).alloc (.cells #[zn,zn,zn,zn] 30));rw[<-hW]at X;have H:=hd_ X;obtain⟨a0,a1,a2,a3⟩:=X.p2.cells4;clear X;rw[hW]at a0 a1 a2 a3;go_enter func49,ntmps49
 go_wp2_with fail
 rw[<-hW];have HP:=hd_ hp3;have HP2:=hd_ hp2;clear hW a0 a1 a2 a3 hp3 hp2;have K:=aHa W0 _ n.nodes ((eJ nH 5).keep H1.out H.out.below lr_) HL.out.nodes HL.out.node;refine K.mono ?_;rintro r w1 ⟨y1,d1,rfl,hU⟩;have h:=H.out.plus hU;clear K hU H1;have g:=h.p1;obtain⟨d0',d1',d2',d3'⟩:=g.cells4;have ff:=g.free;obtain⟨a0,a1,a2,a3⟩:=g.p3.cells4
 have g2:=g.set (i:=0) (.slice y1 n.nodes.length d1);simp only[List.setIfInBounds_toArray,List.set_cons_zero,List.set_cons_succ]at g2;have h':=g2.p3.p3.p2;clear h g g2 H;obtain⟨V1,hV⟩:=nm_ (w1.setCell ⟨p3,0,none⟩ (.slice y1 n.nodes.length d1));rw[<-hV]at h';have H:=hd_ h';clear h';rw[HP.out]at hV ff d0' d1' d2' d3';obtain⟨b0,b1,b2,b3⟩:=H.out.p2.cells4;rw[hV]at b0 b1 b2 b3
 go_wp2_with fail
 rw[<-hV];clear hV ff d0' d1' d2' d3' a0 a1 a2 a3 b0 b1 b2 b3;have K:=aGH V1 _ n.links (oO.keep H2.out H.out.below lr_) HL.out.links;refine K.mono ?_;rintro r w2 ⟨y2,d2,rfl,hU⟩;have h:=H.out.plus hU;clear K hU H2;have g:=h.p1;obtain⟨d0',d1',d2',d3'⟩:=g.cells4;have ff:=g.free;obtain⟨a0,a1,a2,a3⟩:=g.p3.cells4;have g2:=g.set (i:=1) (.slice y2 n.links.length d2)
 simp only[List.setIfInBounds_toArray,List.set_cons_zero,List.set_cons_succ]at g2;have h':=g2.p3.p3.p2;clear h g g2 H;obtain⟨V2,hV⟩:=nm_ (w2.setCell ⟨p3,1,none⟩ (.slice y2 n.links.length d2));rw[<-hV]at h';have H:=hd_ h';clear h';rw[HP.out]at hV ff d0' d1' d2' d3';obtain⟨b0,b1,b2,b3⟩:=H.out.p2.cells4;rw[hV]at b0 b1 b2 b3
 go_wp2_with fail
 rw[<-hV];clear hV ff d0' d1' d2' d3' a0 a1 a2 a3 b0 b1 b2 b3;have K:=aFP V2 _ n.words ((eJ nK 6).keep H3.out H.out.below lr_) HL.out.words HL.out.word;refine K.mono ?_;rintro r w3 ⟨y3,d3,rfl,hU⟩;have h:=H.out.plus hU;clear K hU H3;have g:=h.p1;obtain⟨d0',d1',d2',d3'⟩:=g.cells4;have ff:=g.free;obtain⟨a0,a1,a2,a3⟩:=g.p3.cells4
 have g2:=g.set (i:=2) (.slice y3 n.words.length d3);simp only[List.setIfInBounds_toArray,List.set_cons_zero,List.set_cons_succ]at g2;have h':=g2.p3.p3.p2;clear h g g2 H;obtain⟨V3,hV⟩:=nm_ (w3.setCell ⟨p3,2,none⟩ (.slice y3 n.words.length d3));rw[<-hV]at h';have H:=hd_ h';clear h';rw[HP.out]at hV ff d0' d1' d2' d3';obtain⟨b0,b1,b2,b3⟩:=H.out.p2.cells4;rw[hV]at b0 b1 b2 b3
 go_wp2_with fail
 rw[<-hV];clear hV ff d0' d1' d2' d3' a0 a1 a2 a3 b0 b1 b2 b3;have K:=aHT V3 _ n.past (nR.keep H4.out H.out.below lr_) HL.out.past HL.out.rows;refine K.mono ?_;rintro r w4 ⟨y4,d4,rfl,hU⟩;have h:=H.out.plus hU;clear K hU H4;have g:=h.p1;obtain⟨d0',d1',d2',d3'⟩:=g.cells4;have ff:=g.free;obtain⟨a0,a1,a2,a3⟩:=g.p3.cells4;have g2:=g.set (i:=3) (.slice y4 n.past.length d4)
 simp only[List.setIfInBounds_toArray,List.set_cons_zero,List.set_cons_succ]at g2;obtain⟨r0,r1,r2,r3⟩:=g.p2.cells4;have fr:=g.p2.free;have g4:=g2.p2.set4 (.slice y1 n.nodes.length d1) (.slice y2 n.links.length d2) (.slice y3 n.words.length d3) (.slice y4 n.past.length d4);have F:=hd_ g4;clear h g g2 g4 H;rw[HP2.out]at fr r0 r1 r2 r3;rw[HP.out]at d0' d1' d2' d3' ff;rw[HP.out,HP2.out]at F;go_wp2
 obtain⟨e0,e1,e2,e3⟩:=F.out.cells4;exact bodyPost_ret (v:=.agg #[.slice y1 n.nodes.length d1,.slice y2 n.links.length d2,.slice y3 n.words.length d3,.slice y4 n.past.length d4]) (by simp[results,results49,go_sem,e0,e1,e2,e3]) rfl ⟨_,_,_,_,_,_,_,_,rfl,F.out.drop.drop.p1.drop.p1.p2.p3⟩
end N
end Go.Proofs.YtcblbdpdbggkbaaGreat
namespace Go.Proofs.YtcblbdpdbggkbaaGreat
open _root_.Go.Proofs.Tryz
open Go.RowKit Go.ChangeShapes Go.WideShapes Go.ChangeAt Go.Deep Go.Joins
namespace N
section
variable {H:Type} {enc:TypeId × Value->H} {w:World}
theorem aEu:fQ enc prog w 183 aDm:=
 sV (aAK underlying183 rfl rfl rfl rfl (s0:=1) (s1:=1) (s2:=1) (s3:=7) kr_ kr_ kr_ kr_ kr_ (fL underlying3) (fL underlying3) (fL underlying3) aHL) _ (fun p=>⟨p.1,p.2.1,p.2.2.1,p.2.2.2⟩) fun _=>rfl
theorem yF:fQ enc prog w 88 mM:=iR underlying88 kr_ dc_ aEu
theorem aGs:fQ enc prog w 220 aAO:=
 sV (aGE underlying220 rfl rfl rfl rfl rfl (s0:=1) (s1:=1) (s2:=1) (s3:=1) (s4:=1) kr_ kr_ kr_ kr_ kr_ kr_ (fL underlying3) yF (fL underlying3) (fL underlying3) (fL underlying3)) _ (fun p=>⟨p.1,p.2.1,p.2.2.1,p.2.2.2.1,p.2.2.2.2⟩) fun _=>rfl
theorem aG2:fQ enc prog w 223 aAh:=
 sV (aIj underlying223 rfl rfl rfl rfl rfl rfl (s0:=1) (s1:=1) (s2:=1) (s3:=1) (s4:=1) (s5:=1) kr_ kr_ kr_ kr_ kr_ kr_ kr_ (fL underlying3) (fL underlying3) (fL underlying3) (fL underlying3) (fL underlying3) yF) _ (fun p=>⟨p.1,p.2.1,p.2.2.1,p.2.2.2.1,p.2.2.2.2.1,p.2.2.2.2.2⟩) fun _=>rfl
theorem aGw:fQ enc prog w 28 aCk:=iR underlying28 kr_ dc_ (iR underlying34 kr_ dc_ (iR underlying23 kr_ dc_ (fL underlying3)))
theorem aH6:fQ enc prog w 80 aFV:=
 sV (aAK underlying80 rfl rfl rfl rfl (s0:=1) (s1:=1) (s2:=1) (s3:=1) kr_ kr_ kr_ kr_ kr_ (iR underlying77 kr_ dc_ aGs) (iR underlying26 kr_ dc_ (aFI underlying4)) (iR underlying78 kr_ dc_ aG2) aGw) _ (fun p=>⟨p.1,p.2.1,p.2.2.1,p.2.2.2⟩) fun _=>rfl
end
structure NV where
 x1:Option Addr
 k1:Nat
 c1:Nat
 x2:Option Addr
 k2:Nat
 c2:Nat
 x3:Option Addr
 k3:Nat
 c3:Nat
 x4:Option Addr
 k4:Nat
 c4:Nat
def aM9 (w:World) (V:NV) (n:Nt):Prop:=aFV w [.slice V.x1 V.k1 V.c1,.slice V.x2 V.k2 V.c2,.slice V.x3 V.k3 V.c3,.slice V.x4 V.k4 V.c4] n
theorem aKE {H:Type} {enc:TypeId × Value->H} {w:World} {r:Reach} {b0:Nat} {v:Value} {d:DataW H} {p:List MemPlace} (hv:Value.okWide prog w r b0 80 v)
  (h:DataW.Trod enc prog w 0 (fun _=>true) true 80 v d p):∃V n,v=.agg #[.slice V.x1 V.k1 V.c1,.slice V.x2 V.k2 V.c2,.slice V.x3 V.k3 V.c3,.slice V.x4 V.k4 V.c4]/\aM9 w V n:=by
 obtain⟨cs,rfl,_⟩:=okWide_struct underlying80 hv;obtain⟨fuel,hf⟩:=h;obtain⟨n,hn⟩:=aH6 fuel _ _ hf;obtain⟨v1,v2,v3,v4,ec,h1,h2,h3,h4⟩:=zT.1 hn;obtain⟨x1,c1,e1,_⟩:=bB h1;obtain⟨x2,c2,e2,_⟩:=bB h2;obtain⟨x3,c3,e3,_⟩:=bB h3;obtain⟨x4,c4,e4,_⟩:=bB h4;cases e1;cases e2;cases e3;cases e4;have ec':cs.toList=_:=ec;obtain⟨cs⟩:=cs;simp only at ec';subst ec'
 exact⟨⟨x1,_,c1,x2,_,c2,x3,_,c3,x4,_,c4⟩,n,rfl,hn⟩
end N
end Go.Proofs.YtcblbdpdbggkbaaGreat
namespace Go.Proofs.YtcblbdpdbggkbaaGreat
open _root_.Go.Proofs.Tryz
open Go.RowKit Go.Sort
namespace N
def aEG (es:List En):Prop:=∀e ∈ es,rF e.s
def aMs (ns:List Nd):Prop:=∀x ∈ ns,aEG x.known
def aMm (ws:List Wd):Prop:=∀x ∈ ws,aEG x.known
theorem aC4 (w:World) (V1 V2:SV) (e:En) {f1 f2:List Nat} (h1:qC w (cS V1 (e.s)) e.s f1) (h2:qC w (cS V2 (e.s)) e.s f2) (hl:rF e.s):
  Calls prog 128 #[.agg #[iv e.node,iv e.born,iv e.num,.slice V1.xr V1.nr V1.cr,.slice V1.xf V1.nf V1.cf,.slice V1.xt V1.nt V1.ct,.int .i64 (e.s).lo,.int .i64 (e.s).al,.slice V1.xk V1.nk V1.ck,.int .i64 (e.s).ka],.agg #[iv e.node,iv e.born,iv e.num,.slice V2.xr V2.nr V2.cr,.slice V2.xf V2.nf V2.cf,.slice V2.xt V2.nt V2.ct,.int .i64 (e.s).lo,.int .i64 (e.s).al,.slice V2.xk V2.nk V2.ck,.int .i64 (e.s).ka]] w fun r w'=>r=.returned (.bool true)/\Below w.heap.size w w':=by
 obtain⟨i,bo,nu,s⟩:=e;simp only at h1 h2 hl ⊢;have H:=hd_ (((M.start w).alloc #[iv i,iv bo,iv nu,.slice V1.xr V1.nr V1.cr,.slice V1.xf V1.nf V1.cf,.slice V1.xt V1.nt V1.ct,iv s.lo,iv s.al,.slice V1.xk V1.nk V1.ck,iv s.ka] 64).alloc #[iv i,iv bo,iv nu,.slice V2.xr V2.nr V2.cr,.slice V2.xf V2.nf V2.cf,.slice V2.xt V2.nt V2.ct,iv s.lo,iv s.al,.slice V2.xk V2.nk V2.ck,iv s.ka] 64)
 obtain⟨U1,e1,r1⟩:=vB (aQ.below h1 H.out.below lr_);obtain⟨U2,e2,r2⟩:=vB (aQ.below h2 H.out.below lr_);have K:=hd_ (uZ _ U1 U2 s r1 r2 hl);simp only[List.cons.injEq,Value.slice.injEq,true_and,and_true]at e1 e2;obtain⟨⟨a1,a2,a3⟩,⟨a4,a5,a6⟩,⟨a7,a8,a9⟩,a10,a11,a12⟩:=e1;obtain⟨⟨b1,b2,b3⟩,⟨b4,b5,b6⟩,⟨b7,b8,b9⟩,b10,b11,b12⟩:=e2
 rw[<-a1, <-a2, <-a3, <-a4, <-a5, <-a6, <-a7, <-a8, <-a9, <-a10, <-a11, <-a12, <-b1, <-b2, <-b3, <-b4, <-b5, <-b6, <-b7, <-b8, <-b9, <-b10, <-b11, <-b12]at K;clear a1 a2 a3 a4 a5 a6 a7 a8 a9 a10 a11 a12 b1 b2 b3 b4 b5 b6 b7 b8 b9 b10 b11 b12 r1 r2 h1 h2 hl;obtain⟨c0,c1,c2,c3,c4,c5,c6,c7,c8,c9⟩:=H.out.p1.cells10;obtain⟨d0,d1,d2,d3,d4,d5,d6,d7,d8,d9⟩:=H.out.cells10
 simp only[World.size_alloc]at d0 d1 d2 d3 d4 d5 d6 d7 d8 d9;go_enter func128,ntmps128
 go_wp2_with fail
 refine K.out.mono ?_;rintro r w1 ⟨rfl,hb⟩;have H1:=hd_ (H.out.later hb);clear K hb c0 c1 c2 c3 c4 c5 c6 c7 c8 c9 d0 d1 d2 d3 d4 d5 d6 d7 d8 d9 H;go_wp2;go_ret;exact⟨rfl,H1.out.below⟩
theorem tK (w:World) {x1 x2:Option Addr} {n m c1 c2:Nat} {xs:List En} {f1 f2:List Nat} (h1:fU TY w [.slice x1 n c1] xs f1) (h2:fU TY w [.slice x2 m c2] xs f2) (hl:aEG xs):
  Calls prog 55 #[.slice x1 n c1,.slice x2 m c2] w fun r w'=>r=.returned (.bool true)/\Below w.heap.size w w':=by
 obtain rfl:n=xs.length:=(aK h1).1;obtain rfl:m=xs.length:=(aK h2).1;obtain⟨_,_,e1,q1,q2⟩:=aP h1;have hm:xs.length<=maxLen:=Nat.le_trans q1 q2;unfold maxLen at hm;clear e1 q1 q2;have H1:=hd_ h1;have H2:=hd_ h2;have HL:=hd_ hl;have n0:((xs.length:Int) != (xs.length:Int))=false:=by simp
 clear h1 h2 hl;go_enter func55,ntmps55;go_wp2;go_loopw [5] (fun i wr=>∃k:Nat,k<=xs.length/\i=.int .i64 k/\Below w.heap.size w wr) (fun i _=>xs.length - (intOf i).toNat)
 case atStart=>exact⟨0,Nat.zero_le _,rfl,Below.refl _ _⟩
 case round=>
  obtain⟨k,hk,rfl,hb⟩:=hrel;have HB:=hd_ hb;clear hb
  by_cases hlt:k<xs.length
  ·obtain⟨a,ha⟩:∃a,xs[k]? =some a:=⟨_,List.getElem?_eq_getElem hlt⟩
   have k0:(0:Int)<=(k:Int):=o_;have k1:(k:Int)<(xs.length:Int):=o_;obtain⟨g1,V1,p1,rfl,q1,_,r1,ca0,ca1,ca2,cas⟩:=jP H1.out ha;obtain⟨g2,V2,p2,rfl,q2,_,r2,cb0,cb1,cb2,cbs⟩:=jP H2.out ha;have ca3:=cas 0 _ rfl;have ca4:=cas 1 _ rfl;have ca5:=cas 2 _ rfl;have ca6:=cas 3 _ rfl;have ca7:=cas 4 _ rfl;have ca8:=cas 5 _ rfl;have ca9:=cas 6 _ rfl;have cb3:=cbs 0 _ rfl;have cb4:=cbs 1 _ rfl
   have cb5:=cbs 2 _ rfl;have cb6:=cbs 3 _ rfl;have cb7:=cbs 4 _ rfl;have cb8:=cbs 5 _ rfl;have cb9:=cbs 6 _ rfl;have R1:=hd_ r1;have R2:=hd_ r2;clear cas cbs r1 r2 q1 q2;have LA:=hd_ (HL.out a (List.mem_of_getElem? ha));clear ha
   have SS:=hd_ (fun w' (hb:Below w.heap.size w w')=>show w'.cell? ⟨g1,k * 10,none⟩=some (.int .i64 a.node)/\w'.cell? ⟨g1,k * 10+1,none⟩=some (.int .i64 a.born)/\w'.cell? ⟨g1,k * 10+2,none⟩=some (.int .i64 a.num)/\w'.cell? ⟨g1,k * 10+3,none⟩=some (.slice V1.xr V1.nr V1.cr)/\w'.cell? ⟨g1,k * 10+4,none⟩=some (.slice V1.xf V1.nf V1.cf)/\w'.cell? ⟨g1,k * 10+5,none⟩=some (.slice V1.xt V1.nt V1.ct)/\w'.cell? ⟨g1,k * 10+6,none⟩=some (.int .i64 a.s.lo)/\w'.cell? ⟨g1,k * 10+7,none⟩=some (.int .i64 a.s.al)/\w'.cell? ⟨g1,k * 10+8,none⟩=some (.slice V1.xk V1.nk V1.ck)/\w'.cell? ⟨g1,k * 10+9,none⟩=some (.int .i64 a.s.ka)/\w'.cell? ⟨g2,k * 10,none⟩=some (.int .i64 a.node)/\w'.cell? ⟨g2,k * 10+1,none⟩=some (.int .i64 a.born)/\w'.cell? ⟨g2,k * 10+2,none⟩=some (.int .i64 a.num)/\w'.cell? ⟨g2,k * 10+3,none⟩=some (.slice V2.xr V2.nr V2.cr)/\w'.cell? ⟨g2,k * 10+4,none⟩=some (.slice V2.xf V2.nf V2.cf)/\w'.cell? ⟨g2,k * 10+5,none⟩=some (.slice V2.xt V2.nt V2.ct)/\w'.cell? ⟨g2,k * 10+6,none⟩=some (.int .i64 a.s.lo)/\w'.cell? ⟨g2,k * 10+7,none⟩=some (.int .i64 a.s.al)/\w'.cell? ⟨g2,k * 10+8,none⟩=some (.slice V2.xk V2.nk V2.ck)/\w'.cell? ⟨g2,k * 10+9,none⟩=some (.int .i64 a.s.ka)from⟨cell_later hb ca0,cell_later hb ca1,cell_later hb ca2,cell_later hb ca3,cell_later hb ca4,cell_later hb ca5,cell_later hb ca6,cell_later hb ca7,cell_later hb ca8,cell_later hb ca9,cell_later hb cb0,cell_later hb cb1,cell_later hb cb2,cell_later hb cb3,cell_later hb cb4,cell_later hb cb5,cell_later hb cb6,cell_later hb cb7,cell_later hb cb8,cell_later hb cb9⟩)
   clear ca0 ca1 ca2 ca3 ca4 ca5 ca6 ca7 ca8 ca9 cb0 cb1 cb2 cb3 cb4 cb5 cb6 cb7 cb8 cb9;go_wp2
   refine aC 99 (.tk 0 8 (.alt 8 (.take 9 .done) .nomore)) (fun w'=>w'.cell? ⟨g1,k * 10,none⟩=some (.int .i64 a.node)/\w'.cell? ⟨g1,k * 10+1,none⟩=some (.int .i64 a.born)/\w'.cell? ⟨g1,k * 10+2,none⟩=some (.int .i64 a.num)/\w'.cell? ⟨g1,k * 10+3,none⟩=some (.slice V1.xr V1.nr V1.cr)/\w'.cell? ⟨g1,k * 10+4,none⟩=some (.slice V1.xf V1.nf V1.cf)/\w'.cell? ⟨g1,k * 10+5,none⟩=some (.slice V1.xt V1.nt V1.ct)/\w'.cell? ⟨g1,k * 10+6,none⟩=some (.int .i64 a.s.lo)/\w'.cell? ⟨g1,k * 10+7,none⟩=some (.int .i64 a.s.al)/\w'.cell? ⟨g1,k * 10+8,none⟩=some (.slice V1.xk V1.nk V1.ck)/\w'.cell? ⟨g1,k * 10+9,none⟩=some (.int .i64 a.s.ka)/\w'.cell? ⟨g2,k * 10,none⟩=some (.int .i64 a.node)/\w'.cell? ⟨g2,k * 10+1,none⟩=some (.int .i64 a.born)/\w'.cell? ⟨g2,k * 10+2,none⟩=some (.int .i64 a.num)/\w'.cell? ⟨g2,k * 10+3,none⟩=some (.slice V2.xr V2.nr V2.cr)/\w'.cell? ⟨g2,k * 10+4,none⟩=some (.slice V2.xf V2.nf V2.cf)/\w'.cell? ⟨g2,k * 10+5,none⟩=some (.slice V2.xt V2.nt V2.ct)/\w'.cell? ⟨g2,k * 10+6,none⟩=some (.int .i64 a.s.lo)/\w'.cell? ⟨g2,k * 10+7,none⟩=some (.int .i64 a.s.al)/\w'.cell? ⟨g2,k * 10+8,none⟩=some (.slice V2.xk V2.nk V2.ck)/\w'.cell? ⟨g2,k * 10+9,none⟩=some (.int .i64 a.s.ka)) kr_ kr_ (fun _ _ _ _ _ h=>h) (SS.out _ HB.out.drew) ?_
   have HD:=hd_ HB.out.drew;clear HB;generalize wr.drew=w3 at HD ⊢
   repeat (first|refine tA_ ?_|refine tB_ ?_)
   refine aB r_ (fun K hK=>?_);go_simp;refine (aC4 _ V1 V2 a (aQ.below R1.out HD.out lr_) (aQ.below R2.out HD.out lr_) LA.out).mono ?_;exact zw
  ·exact zBO
theorem aE6 (w:World) {a:Nd} {x1 x2:Option Addr} {n1 n2 c1 c2:Nat} {f1 f2:List Nat} (h1:fU TY w [.slice x1 n1 c1] a.known f1) (h2:fU TY w [.slice x2 n2 c2] a.known f2) (hl:aEG a.known):
  Calls prog 188 #[.agg #[iv a.born,.slice x1 n1 c1,iv a.beacon,iv a.level,iv a.up],.agg #[iv a.born,.slice x2 n2 c2,iv a.beacon,iv a.level,iv a.up]] w fun r w'=>r=.returned (.bool true)/\Below w.heap.size w w':=by
 have H:=hd_ (((M.start w).alloc #[iv a.born,.slice x1 n1 c1,iv a.beacon,iv a.level,iv a.up] 55).alloc #[iv a.born,.slice x2 n2 c2,iv a.beacon,iv a.level,iv a.up] 55);have R1:=hd_ h1;have R2:=hd_ h2;have HL:=hd_ hl;clear h1 h2 hl;obtain⟨c0,c1,c2,c3,c4⟩:=H.out.p1.cells5;obtain⟨d0,d1,d2,d3,d4⟩:=H.out.cells5;simp only[World.size_alloc]at d0 d1 d2 d3 d4;go_enter func188,ntmps188
 go_wp2_with fail
 refine (tK _ (eQ.below R1.out H.out.below lr_) (eQ.below R2.out H.out.below lr_) HL.out).mono ?_;rintro r w1 ⟨rfl,hb⟩;have H1:=hd_ (H.out.later hb);clear hb c0 c1 c2 c3 c4 d0 d1 d2 d3 d4;obtain⟨c0,c1,c2,c3,c4⟩:=H1.out.p1.cells5;obtain⟨d0,d1,d2,d3,d4⟩:=H1.out.cells5;simp only[World.size_alloc]at d0 d1 d2 d3 d4;go_wp2;go_ret;exact⟨rfl,H1.out.below⟩
theorem aC6 (w:World) {x1 x2:Option Addr} {n m c1 c2:Nat} {xs:List Nd} {f1 f2:List Nat} (h1:qL TY w [.slice x1 n c1] xs f1) (h2:qL TY w [.slice x2 m c2] xs f2) (hl:aMs xs):
  Calls prog 120 #[.slice x1 n c1,.slice x2 m c2] w fun r w'=>r=.returned (.bool true)/\Below w.heap.size w w':=by
 obtain rfl:n=xs.length:=(aK h1).1;obtain rfl:m=xs.length:=(aK h2).1;obtain⟨_,_,e1,q1,q2⟩:=aP h1;have hm:xs.length<=maxLen:=Nat.le_trans q1 q2;unfold maxLen at hm;clear e1 q1 q2;have H1:=hd_ h1;have H2:=hd_ h2;have HL:=hd_ hl;have n0:((xs.length:Int) != (xs.length:Int))=false:=by simp
 clear h1 h2 hl;go_enter func120,ntmps120;go_wp2;go_loopw [5] (fun i wr=>∃k:Nat,k<=xs.length/\i=.int .i64 k/\Below w.heap.size w wr) (fun i _=>xs.length - (intOf i).toNat)
 case atStart=>exact⟨0,Nat.zero_le _,rfl,Below.refl _ _⟩
 case round=>
  obtain⟨k,hk,rfl,hb⟩:=hrel;have HB:=hd_ hb;clear hb
  by_cases hlt:k<xs.length
  ·obtain⟨a,ha⟩:∃a,xs[k]? =some a:=⟨_,List.getElem?_eq_getElem hlt⟩
   have k0:(0:Int)<=(k:Int):=o_;have k1:(k:Int)<(xs.length:Int):=o_;obtain⟨g1,y1,d1,p1,rfl,q1,_,r1,_,_,ca0,ca1,ca2,ca3,ca4⟩:=gM H1.out ha;obtain⟨g2,y2,d2,p2,rfl,q2,_,r2,_,_,cb0,cb1,cb2,cb3,cb4⟩:=gM H2.out ha;have R1:=hd_ r1;have R2:=hd_ r2;clear r1 r2 q1 q2;have LA:=hd_ (HL.out a (List.mem_of_getElem? ha));clear ha
   have SS:=hd_ (fun w' (hb:Below w.heap.size w w')=>show w'.cell? ⟨g1,k * 5,none⟩=some (.int .i64 a.born)/\w'.cell? ⟨g1,k * 5+1,none⟩=some (.slice y1 a.known.length d1)/\w'.cell? ⟨g1,k * 5+2,none⟩=some (.int .i64 a.beacon)/\w'.cell? ⟨g1,k * 5+3,none⟩=some (.int .i64 a.level)/\w'.cell? ⟨g1,k * 5+4,none⟩=some (.int .i64 a.up)/\w'.cell? ⟨g2,k * 5,none⟩=some (.int .i64 a.born)/\w'.cell? ⟨g2,k * 5+1,none⟩=some (.slice y2 a.known.length d2)/\w'.cell? ⟨g2,k * 5+2,none⟩=some (.int .i64 a.beacon)/\w'.cell? ⟨g2,k * 5+3,none⟩=some (.int .i64 a.level)/\w'.cell? ⟨g2,k * 5+4,none⟩=some (.int .i64 a.up)from⟨cell_later hb ca0,cell_later hb ca1,cell_later hb ca2,cell_later hb ca3,cell_later hb ca4,cell_later hb cb0,cell_later hb cb1,cell_later hb cb2,cell_later hb cb3,cell_later hb cb4⟩)
   clear ca0 ca1 ca2 ca3 ca4 cb0 cb1 cb2 cb3 cb4;go_wp2
   refine aC 99 (.tk 0 8 (.alt 8 (.take 9 .done) .nomore)) (fun w'=>w'.cell? ⟨g1,k * 5,none⟩=some (.int .i64 a.born)/\w'.cell? ⟨g1,k * 5+1,none⟩=some (.slice y1 a.known.length d1)/\w'.cell? ⟨g1,k * 5+2,none⟩=some (.int .i64 a.beacon)/\w'.cell? ⟨g1,k * 5+3,none⟩=some (.int .i64 a.level)/\w'.cell? ⟨g1,k * 5+4,none⟩=some (.int .i64 a.up)/\w'.cell? ⟨g2,k * 5,none⟩=some (.int .i64 a.born)/\w'.cell? ⟨g2,k * 5+1,none⟩=some (.slice y2 a.known.length d2)/\w'.cell? ⟨g2,k * 5+2,none⟩=some (.int .i64 a.beacon)/\w'.cell? ⟨g2,k * 5+3,none⟩=some (.int .i64 a.level)/\w'.cell? ⟨g2,k * 5+4,none⟩=some (.int .i64 a.up)) kr_ kr_ (fun _ _ _ _ _ h=>h) (SS.out _ HB.out.drew) ?_
   have HD:=hd_ HB.out.drew;clear HB;generalize wr.drew=w3 at HD ⊢
   repeat (first|refine tA_ ?_|refine tB_ ?_)
   refine aB r_ (fun K hK=>?_);go_simp;refine (aE6 _ (eQ.below R1.out HD.out lr_) (eQ.below R2.out HD.out lr_) LA.out).mono ?_;exact zw
  ·exact zBO
theorem aEL (w:World) {a:Wd} {x1 x2:Option Addr} {n1 n2 c1 c2:Nat} {f1 f2:List Nat} (h1:fU TY w [.slice x1 n1 c1] a.known f1) (h2:fU TY w [.slice x2 n2 c2] a.known f2) (hl:aEG a.known):
  Calls prog 189 #[.agg #[iv a.kind,iv a.src,iv a.dst,iv a.beacon,iv a.level,.slice x1 n1 c1],.agg #[iv a.kind,iv a.src,iv a.dst,iv a.beacon,iv a.level,.slice x2 n2 c2]] w fun r w'=>r=.returned (.bool true)/\Below w.heap.size w w':=by
 have H:=hd_ (((M.start w).alloc #[iv a.kind,iv a.src,iv a.dst,iv a.beacon,iv a.level,.slice x1 n1 c1] 123).alloc #[iv a.kind,iv a.src,iv a.dst,iv a.beacon,iv a.level,.slice x2 n2 c2] 123);have R1:=hd_ h1;have R2:=hd_ h2;have HL:=hd_ hl;clear h1 h2 hl;obtain⟨c0,c1,c2,c3,c4,c5⟩:=H.out.p1.cells6;obtain⟨d0,d1,d2,d3,d4,d5⟩:=H.out.cells6;simp only[World.size_alloc]at d0 d1 d2 d3 d4 d5
 go_enter func189,ntmps189
 go_wp2_with fail
 refine (tK _ (eQ.below R1.out H.out.below lr_) (eQ.below R2.out H.out.below lr_) HL.out).mono ?_;rintro r w1 ⟨rfl,hb⟩;have H1:=hd_ (H.out.later hb);clear hb c0 c1 c2 c3 c4 c5 d0 d1 d2 d3 d4 d5;obtain⟨c0,c1,c2,c3,c4,c5⟩:=H1.out.p1.cells6;obtain⟨d0,d1,d2,d3,d4,d5⟩:=H1.out.cells6;simp only[World.size_alloc]at d0 d1 d2 d3 d4 d5;go_wp2;go_ret;exact⟨rfl,H1.out.below⟩
theorem aDt (w:World) {x1 x2:Option Addr} {n m c1 c2:Nat} {xs:List Wd} {f1 f2:List Nat} (h1:uC TY w [.slice x1 n c1] xs f1) (h2:uC TY w [.slice x2 m c2] xs f2) (hl:aMm xs):
  Calls prog 122 #[.slice x1 n c1,.slice x2 m c2] w fun r w'=>r=.returned (.bool true)/\Below w.heap.size w w':=by
 obtain rfl:n=xs.length:=(aK h1).1;obtain rfl:m=xs.length:=(aK h2).1;obtain⟨_,_,e1,q1,q2⟩:=aP h1;have hm:xs.length<=maxLen:=Nat.le_trans q1 q2;unfold maxLen at hm;clear e1 q1 q2;have H1:=hd_ h1;have H2:=hd_ h2;have HL:=hd_ hl;have n0:((xs.length:Int) != (xs.length:Int))=false:=by simp
 clear h1 h2 hl;go_enter func122,ntmps122;go_wp2;go_loopw [5] (fun i wr=>∃k:Nat,k<=xs.length/\i=.int .i64 k/\Below w.heap.size w wr) (fun i _=>xs.length - (intOf i).toNat)
 case atStart=>exact⟨0,Nat.zero_le _,rfl,Below.refl _ _⟩
 case round=>
  obtain⟨k,hk,rfl,hb⟩:=hrel;have HB:=hd_ hb;clear hb
  by_cases hlt:k<xs.length
  ·obtain⟨a,ha⟩:∃a,xs[k]? =some a:=⟨_,List.getElem?_eq_getElem hlt⟩
   have k0:(0:Int)<=(k:Int):=o_;have k1:(k:Int)<(xs.length:Int):=o_;obtain⟨g1,y1,d1,p1,rfl,q1,_,r1,_,_,ca0,ca1,ca2,ca3,ca4,ca5⟩:=uP H1.out ha;obtain⟨g2,y2,d2,p2,rfl,q2,_,r2,_,_,cb0,cb1,cb2,cb3,cb4,cb5⟩:=uP H2.out ha;have R1:=hd_ r1;have R2:=hd_ r2;clear r1 r2 q1 q2;have LA:=hd_ (HL.out a (List.mem_of_getElem? ha));clear ha
   have SS:=hd_ (fun w' (hb:Below w.heap.size w w')=>show w'.cell? ⟨g1,k * 6,none⟩=some (.int .i64 a.kind)/\w'.cell? ⟨g1,k * 6+1,none⟩=some (.int .i64 a.src)/\w'.cell? ⟨g1,k * 6+2,none⟩=some (.int .i64 a.dst)/\w'.cell? ⟨g1,k * 6+3,none⟩=some (.int .i64 a.beacon)/\w'.cell? ⟨g1,k * 6+4,none⟩=some (.int .i64 a.level)/\w'.cell? ⟨g1,k * 6+5,none⟩=some (.slice y1 a.known.length d1)/\w'.cell? ⟨g2,k * 6,none⟩=some (.int .i64 a.kind)/\w'.cell? ⟨g2,k * 6+1,none⟩=some (.int .i64 a.src)/\w'.cell? ⟨g2,k * 6+2,none⟩=some (.int .i64 a.dst)/\w'.cell? ⟨g2,k * 6+3,none⟩=some (.int .i64 a.beacon)/\w'.cell? ⟨g2,k * 6+4,none⟩=some (.int .i64 a.level)/\w'.cell? ⟨g2,k * 6+5,none⟩=some (.slice y2 a.known.length d2)from⟨cell_later hb ca0,cell_later hb ca1,cell_later hb ca2,cell_later hb ca3,cell_later hb ca4,cell_later hb ca5,cell_later hb cb0,cell_later hb cb1,cell_later hb cb2,cell_later hb cb3,cell_later hb cb4,cell_later hb cb5⟩)
   clear ca0 ca1 ca2 ca3 ca4 ca5 cb0 cb1 cb2 cb3 cb4 cb5;go_wp2
   refine aC 99 (.tk 0 8 (.alt 8 (.take 9 .done) .nomore)) (fun w'=>w'.cell? ⟨g1,k * 6,none⟩=some (.int .i64 a.kind)/\w'.cell? ⟨g1,k * 6+1,none⟩=some (.int .i64 a.src)/\w'.cell? ⟨g1,k * 6+2,none⟩=some (.int .i64 a.dst)/\w'.cell? ⟨g1,k * 6+3,none⟩=some (.int .i64 a.beacon)/\w'.cell? ⟨g1,k * 6+4,none⟩=some (.int .i64 a.level)/\w'.cell? ⟨g1,k * 6+5,none⟩=some (.slice y1 a.known.length d1)/\w'.cell? ⟨g2,k * 6,none⟩=some (.int .i64 a.kind)/\w'.cell? ⟨g2,k * 6+1,none⟩=some (.int .i64 a.src)/\w'.cell? ⟨g2,k * 6+2,none⟩=some (.int .i64 a.dst)/\w'.cell? ⟨g2,k * 6+3,none⟩=some (.int .i64 a.beacon)/\w'.cell? ⟨g2,k * 6+4,none⟩=some (.int .i64 a.level)/\w'.cell? ⟨g2,k * 6+5,none⟩=some (.slice y2 a.known.length d2)) kr_ kr_ (fun _ _ _ _ _ h=>h) (SS.out _ HB.out.drew) ?_
   have HD:=hd_ HB.out.drew;clear HB;generalize wr.drew=w3 at HD ⊢
   repeat (first|refine tA_ ?_|refine tB_ ?_)
   refine aB r_ (fun K hK=>?_);go_simp;refine (aEL _ (eQ.below R1.out HD.out lr_) (eQ.below R2.out HD.out lr_) LA.out).mono ?_;exact zw
  ·exact zBO
theorem aDy (w:World) {x1 x2:Option Addr} {n m c1 c2:Nat} {xs:List Bool} {f1 f2:List Nat} (h1:qM TY w [.slice x1 n c1] xs f1) (h2:qM TY w [.slice x2 m c2] xs f2):
  Calls prog 121 #[.slice x1 n c1,.slice x2 m c2] w fun r w'=>r=.returned (.bool true)/\Below w.heap.size w w':=by
 obtain rfl:n=xs.length:=(aK h1).1;obtain rfl:m=xs.length:=(aK h2).1;obtain⟨_,_,e1,q1,q2⟩:=aP h1;have hm:xs.length<=maxLen:=Nat.le_trans q1 q2;unfold maxLen at hm;clear e1 q1 q2;have H1:=hd_ h1;have H2:=hd_ h2;have n0:((xs.length:Int) != (xs.length:Int))=false:=by simp
 clear h1 h2;go_enter func121,ntmps121;go_wp2;go_loopw [5] (fun i wr=>∃k:Nat,k<=xs.length/\i=.int .i64 k/\Below w.heap.size w wr) (fun i _=>xs.length - (intOf i).toNat)
 case atStart=>exact⟨0,Nat.zero_le _,rfl,Below.refl _ _⟩
 case round=>
  obtain⟨k,hk,rfl,hb⟩:=hrel;have HB:=hd_ hb;clear hb
  by_cases hlt:k<xs.length
  ·obtain⟨a,ha⟩:∃a,xs[k]? =some a:=⟨_,List.getElem?_eq_getElem hlt⟩
   have k0:(0:Int)<=(k:Int):=o_;have k1:(k:Int)<(xs.length:Int):=o_;obtain⟨g1,rfl,_,ca0⟩:=oK H1.out ha;obtain⟨g2,rfl,_,cb0⟩:=oK H2.out ha;clear ha;have SS:=hd_ (fun w' (hb:Below w.heap.size w w')=>show w'.cell? ⟨g1,k,none⟩=some (.bool a)/\w'.cell? ⟨g2,k,none⟩=some (.bool a)from⟨cell_later hb ca0,cell_later hb cb0⟩);clear ca0 cb0;go_wp2
   refine aC 99 (.tk 0 9 .done) (fun w'=>w'.cell? ⟨g1,k,none⟩=some (.bool a)/\w'.cell? ⟨g2,k,none⟩=some (.bool a)) kr_ kr_ (fun _ _ _ _ _ h=>h) (SS.out _ HB.out.drew) ?_;have HD:=hd_ HB.out.drew;clear HB;generalize wr.drew=w3 at HD ⊢
   repeat (first|refine tA_ ?_|refine tB_ ?_)
   have HE:=HD;refine aG ?_;clear SS HD;go_wp2;go_roundw
   case rel=>exact⟨k+1,hlt,gn_,HE.out⟩
   case measure=>simp[intOf];omega
  ·exact zBO
theorem aDu (w:World) {v1 v2:Value} {rs:List (List Int)} {f1 f2:List Nat} (h1:oD w [v1] rs f1) (h2:oD w [v2] rs f2):
  Calls prog 190 #[v1,v2] w fun r w'=>r=.returned (.bool true)/\Below w.heap.size w w':=by
 have hm:rs.length<=maxLen:=by obtain⟨_,_,_,q1,q2⟩:=aP h1;exact Nat.le_trans q1 q2
 have hr:∀i,i<rs.length->(rs.getD i []).length<=maxLen:=fun i hi=>by
  obtain⟨x,c,rfl,_⟩:=aP h1;have hi':rs[i]? =some (rs.getD i []):=by simp[List.getD,hi]
  obtain⟨_,_,_,_,_,_,_,_,q1,q2,_⟩:=mL h1 hi';exact Nat.le_trans q1 q2
 obtain⟨u1,e1,r1⟩:=aAn h1;obtain⟨u2,e2,r2⟩:=aAn h2;cases e1;cases e2;have K:=aAt w v1 v2 rs rs r1 r2 hm hr;rw[show decide (rs=rs)=true from decide_eq_true rfl]at K;exact K
theorem aBD (w:World) {x1 x2:Option Addr} {n m c1 c2:Nat} {xs:List (List (List Int))} {f1 f2:List Nat} (h1:aAq TY w [.slice x1 n c1] xs f1) (h2:aAq TY w [.slice x2 m c2] xs f2):
  Calls prog 123 #[.slice x1 n c1,.slice x2 m c2] w fun r w'=>r=.returned (.bool true)/\Below w.heap.size w w':=by
 obtain rfl:n=xs.length:=(aK h1).1;obtain rfl:m=xs.length:=(aK h2).1;obtain⟨_,_,e1,q1,q2⟩:=aP h1;have hm:xs.length<=maxLen:=Nat.le_trans q1 q2;unfold maxLen at hm;clear e1 q1 q2;have H1:=hd_ h1;have H2:=hd_ h2;have n0:((xs.length:Int) != (xs.length:Int))=false:=by simp
 clear h1 h2;go_enter func123,ntmps123;go_wp2;go_loopw [5] (fun i wr=>∃k:Nat,k<=xs.length/\i=.int .i64 k/\Below w.heap.size w wr) (fun i _=>xs.length - (intOf i).toNat)
 case atStart=>exact⟨0,Nat.zero_le _,rfl,Below.refl _ _⟩
 case round=>
  obtain⟨k,hk,rfl,hb⟩:=hrel;have HB:=hd_ hb;clear hb
  by_cases hlt:k<xs.length
  ·obtain⟨a,ha⟩:∃a,xs[k]? =some a:=⟨_,List.getElem?_eq_getElem hlt⟩
   have k0:(0:Int)<=(k:Int):=o_;have k1:(k:Int)<(xs.length:Int):=o_;obtain⟨g1,y1,d1,p1,rfl,q1,_,r1,_,_,ca0⟩:=mS H1.out ha;obtain⟨g2,y2,d2,p2,rfl,q2,_,r2,_,_,cb0⟩:=mS H2.out ha;have R1:=hd_ r1;have R2:=hd_ r2;clear r1 r2 q1 q2;clear ha
   have SS:=hd_ (fun w' (hb:Below w.heap.size w w')=>show w'.cell? ⟨g1,k,none⟩=some (.slice y1 a.length d1)/\w'.cell? ⟨g2,k,none⟩=some (.slice y2 a.length d2)from⟨cell_later hb ca0,cell_later hb cb0⟩);clear ca0 cb0;go_wp2
   refine aC 99 (.tk 0 8 (.alt 8 (.take 9 .done) .nomore)) (fun w'=>w'.cell? ⟨g1,k,none⟩=some (.slice y1 a.length d1)/\w'.cell? ⟨g2,k,none⟩=some (.slice y2 a.length d2)) kr_ kr_ (fun _ _ _ _ _ h=>h) (SS.out _ HB.out.drew) ?_;have HD:=hd_ HB.out.drew;clear HB;generalize wr.drew=w3 at HD ⊢
   repeat (first|refine tA_ ?_|refine tB_ ?_)
   refine aB r_ (fun K hK=>?_);go_simp;refine (aDu _ (cA.below R1.out HD.out lr_) (cA.below R2.out HD.out lr_)).mono ?_;exact zw
  ·exact zBO
structure aM0 (n:Nt):Prop where
 ns:aMs n.nodes
 ws:aMm n.words
theorem aFM (w:World) {a:Nt} {x1a x1b x1c x1d x2a x2b x2c x2d:Option Addr} {n1a n1b n1c n1d n2a n2b n2c n2d c1a c1b c1c c1d c2a c2b c2c c2d:Nat} {f1 f2:List Nat} (h1:aIo TY w [.slice x1a n1a c1a,.slice x1b n1b c1b,.slice x1c n1c c1c,.slice x1d n1d c1d] a f1) (h2:aIo TY w [.slice x2a n2a c2a,.slice x2b n2b c2b,.slice x2c n2c c2c,.slice x2d n2d c2d] a f2) (hl:aM0 a):
  Calls prog 50 #[.agg #[.slice x1a n1a c1a,.slice x1b n1b c1b,.slice x1c n1c c1c,.slice x1d n1d c1d],.agg #[.slice x2a n2a c2a,.slice x2b n2b c2b,.slice x2c n2c c2c,.slice x2d n2d c2d]] w fun r w'=>r=.returned (.bool true)/\Below w.heap.size w w':=by
 have H:=hd_ (((M.start w).alloc #[.slice x1a n1a c1a,.slice x1b n1b c1b,.slice x1c n1c c1c,.slice x1d n1d c1d] 30).alloc #[.slice x2a n2a c2a,.slice x2b n2b c2b,.slice x2c n2c c2c,.slice x2d n2d c2d] 30);obtain⟨_,_,_,_,_,_,_,_,e1,_,ra1,ra2,ra3,ra4⟩:=pO.1 h1;cases e1;obtain⟨_,_,_,_,_,_,_,_,e2,_,rb1,rb2,rb3,rb4⟩:=pO.1 h2;cases e2;have A1:=hd_ ra1;have A2:=hd_ ra2;have A3:=hd_ ra3
 have A4:=hd_ ra4;have B1:=hd_ rb1;have B2:=hd_ rb2;have B3:=hd_ rb3;have B4:=hd_ rb4;have HL:=hd_ hl;clear h1 h2 hl ra1 ra2 ra3 ra4 rb1 rb2 rb3 rb4;obtain⟨c0,c1,c2,c3⟩:=H.out.p1.cells4;obtain⟨d0,d1,d2,d3⟩:=H.out.cells4;simp only[World.size_alloc]at d0 d1 d2 d3;go_enter func50,ntmps50
 go_wp2_with fail
 refine (aC6 _ (pY.below A1.out H.out.below lr_) (pY.below B1.out H.out.below lr_) HL.out.ns).mono ?_;rintro r w1 ⟨rfl,hb⟩;have H1:=hd_ (H.out.later hb);clear hb c0 c1 c2 c3 d0 d1 d2 d3;obtain⟨c0,c1,c2,c3⟩:=H1.out.p1.cells4;obtain⟨d0,d1,d2,d3⟩:=H1.out.cells4;simp only[World.size_alloc]at d0 d1 d2 d3
 go_wp2_with fail
 refine (aDy _ (pT.below A2.out H1.out.below lr_) (pT.below B2.out H1.out.below lr_)).mono ?_;rintro r w2 ⟨rfl,hb⟩;have H2:=hd_ (H1.out.later hb);clear hb c0 c1 c2 c3 d0 d1 d2 d3;obtain⟨c0,c1,c2,c3⟩:=H2.out.p1.cells4;obtain⟨d0,d1,d2,d3⟩:=H2.out.cells4;simp only[World.size_alloc]at d0 d1 d2 d3
 go_wp2_with fail
 refine (aDt _ (qN.below A3.out H2.out.below lr_) (qN.below B3.out H2.out.below lr_) HL.out.ws).mono ?_;rintro r w3 ⟨rfl,hb⟩;have H3:=hd_ (H2.out.later hb);clear hb c0 c1 c2 c3 d0 d1 d2 d3;obtain⟨c0,c1,c2,c3⟩:=H3.out.p1.cells4;obtain⟨d0,d1,d2,d3⟩:=H3.out.cells4;simp only[World.size_alloc]at d0 d1 d2 d3
 go_wp2_with fail
 refine (aBD _ (rZ.below A4.out H3.out.below lr_) (rZ.below B4.out H3.out.below lr_)).mono ?_;rintro r w4 ⟨rfl,hb⟩;have H4:=hd_ (H3.out.later hb);clear hb c0 c1 c2 c3 d0 d1 d2 d3;obtain⟨c0,c1,c2,c3⟩:=H4.out.p1.cells4;obtain⟨d0,d1,d2,d3⟩:=H4.out.cells4;simp only[World.size_alloc]at d0 d1 d2 d3;go_wp2;go_ret;exact⟨rfl,H4.out.below⟩
theorem aBb (w:World) {x1 x4 xk:Option Addr} {k1 c1 k4 c4 k ck:Nat} {v2 v3:Value} {n:Nt} {es:List En} {f:List Nat} (hn:jF w (.slice x1 k1 c1) v2 v3 (.slice x4 k4 c4) n) (hs:oC n) (h:fU TY w [.slice xk k ck] es f):
  Calls prog 160 #[.agg #[.slice x1 k1 c1,v2,v3,.slice x4 k4 c4],.slice xk k ck] w fun r w'=>r=.returned (.bool (eG n es))/\Below w.heap.size w w':=by
 obtain rfl:k=es.length:=(aK h).1;obtain⟨_,_,e1,q1,q2⟩:=aP h;have hm:es.length<=maxLen:=Nat.le_trans q1 q2;unfold maxLen at hm;clear e1 q1 q2;have H1:=hd_ h;have HN:=hd_ hn;have HS:=hd_ hs;clear h hn hs;have H:=hd_ ((M.start w).alloc #[.slice x1 k1 c1,v2,v3,.slice x4 k4 c4] 30);go_enter func160,ntmps160;go_wp2;obtain⟨p1,hp1⟩:=nm_ w.heap.size;have HP:=hd_ hp1;rw[<-hp1]at H
 rw[<-hp1];clear hp1;generalize (w.alloc (.cells #[.slice x1 k1 c1,v2,v3,.slice x4 k4 c4] 30))=w1 at H ⊢;go_loopw [5] (fun z wr=>∃j:Nat,j<=es.length/\z=.int .i64 j/\(∀(a:Nat) (x:En),a<j->es[a]? =some x->fC n x=true/\(0<a->∀d:En,es[a - 1]? =some d->d.node<x.node))/\M p1 w wr [bO p1 30 #[.slice x1 k1 c1,v2,v3,.slice x4 k4 c4]]) (fun z _=>es.length - (intOf z).toNat)
 case atStart=>exact⟨0,Nat.zero_le _,rfl,fun a x h=>absurd h (Nat.not_lt_zero _),H.out⟩
 case round=>
  clear H;obtain⟨j,hj,rfl,hno,h⟩:=hrel;have NO:=hd_ hno;have H:=hd_ h;clear hno h;have hWB:=H.out.below;rw[HP.out]at hWB
  by_cases hlt:j<es.length
  ·obtain⟨W,hW⟩:=nm_ wr.drew
   have H2:=H.out.drew;rw[<-hW]at H2;have EW:=hd_ hW;have WB:=Below.drew hWB;rw[<-hW]at WB;clear hW hWB;obtain⟨x,hx⟩:∃x,es[j]? =some x:=⟨_,List.getElem?_eq_getElem hlt⟩
   obtain⟨g,V,fe,rfl,_,_,sr,ca0,ca1,ca2,cas⟩:=jP ((aN aX _ _).below H1.out WB lr_) hx;obtain⟨V',eV,rV⟩:=vB sr;cases aCR eV;have ca3:=cas 0 _ rfl;have ca4:=cas 1 _ rfl;have ca5:=cas 2 _ rfl;have ca6:=cas 3 _ rfl;have ca7:=cas 4 _ rfl;have ca8:=cas 5 _ rfl;have ca9:=cas 6 _ rfl;obtain⟨a0,a1,a2,a3⟩:=H2.cells4
   have KE:=hd_ (aFL W (e:=x) (HN.out.below WB lr_) HS.out rV);have k0:(0:Int)<=(j:Int):=o_;have k1':(j:Int)<(es.length:Int):=o_;have HX:=hd_ hx;clear cas sr eV rV hx WB
   by_cases eb:fC n x=true
   case neg=>
    have gb:fC n x=false:=by simpa using eb
    have F:=hd_ (nC HX.out (.inl gb));rw[gb]at KE;clear eb gb;have C0:=hd_ (show bD W (b4L p1 (.slice x1 k1 c1) v2 v3 (.slice x4 k4 c4)++zY g j V x)from⟨a0,a1,a2,a3,ca0,ca1,ca2,ca3,ca4,ca5,ca6,ca7,ca8,ca9,trivial⟩);clear a0 a1 a2 a3 ca0 ca1 ca2 ca3 ca4 ca5 ca6 ca7 ca8 ca9;go_upto_region 4 with fail
    refine aC 99 (.tk 0 5 (.alt 5 (.tk 6 19 .done) .nomore)) (fun w'=>bD w' (b4L p1 (.slice x1 k1 c1) v2 v3 (.slice x4 k4 c4)++zY g j V x)) kr_ kr_ (fun _ _ _ _ _ h=>h) (by rw[<-EW.out];exact C0.out) ?_;exact zAv
   have EB:=hd_ eb;rw[eb]at KE;clear eb
   by_cases j0:j=0
   ·have jn:decide (0<j)=false:=by simp;omega
    have jp:decide ((0:Int)<(j:Int))=false:=by simp;omega
    have J0:=hd_ j0;clear j0;have NO2:Hid (∀(a:Nat) (y:En),a<j+1->es[a]? =some y->fC n y=true/\(0<a->∀d:En,es[a - 1]? =some d->d.node<y.node)):=hd_ fun a y ha hy=>by
     have:=J0.out;obtain rfl:a=j:=o_;rw[HX.out]at hy;cases hy;exact⟨EB.out,fun q=>absurd q o_⟩
    have C0:=hd_ (show bD W (b4L p1 (.slice x1 k1 c1) v2 v3 (.slice x4 k4 c4)++zY g j V x)from⟨a0,a1,a2,a3,ca0,ca1,ca2,ca3,ca4,ca5,ca6,ca7,ca8,ca9,trivial⟩);clear a0 a1 a2 a3 ca0 ca1 ca2 ca3 ca4 ca5 ca6 ca7 ca8 ca9;go_upto_region 4 with fail
    refine aC 99 (.tk 0 5 (.alt 5 (.tk 6 19 .done) .nomore)) (fun w'=>bD w' (b4L p1 (.slice x1 k1 c1) v2 v3 (.slice x4 k4 c4)++zY g j V x)) kr_ kr_ (fun _ _ _ _ _ h=>h) (by rw[<-EW.out];exact C0.out) ?_;exact zAt
   ·obtain⟨d,hd⟩:∃d,es[j - 1]? =some d:=⟨_,List.getElem?_eq_getElem o_⟩
    obtain⟨g',V',fe',eg,_,_,_,cb0,_⟩:=jP ((aN aX _ _).below H1.out (by have:=H2.below;rwa[HP.out]at this) lr_) hd;cases eg;have jp:decide ((0:Int)<(j:Int))=true:=by simp;omega
    have jn:decide (0<j)=true:=by simp;omega
    have js:IntKind.i64.wrap ((j:Int) - 1)=(j:Int) - 1:=IntWalk.i64_in _ o_;have jt:((j:Int) - 1).toNat=j - 1:=o_;have j1:(1:Int)<=(j:Int):=o_;have j2:(j:Int) - 1<(es.length:Int):=o_;have HD:=hd_ hd;clear hd
    by_cases ed:d.node<x.node
    case neg=>
     have gd:decide (x.node<=d.node)=true:=by simp;omega
     have F:Hid (eG n es=false):=hd_ (nC HX.out (.inr ⟨o_,d,HD.out,o_⟩));clear ed;have C0:=hd_ (show bD W (b4L p1 (.slice x1 k1 c1) v2 v3 (.slice x4 k4 c4)++(zY g j V x++[(⟨g,(j - 1) * 10,none⟩,.int .i64 d.node)]))from⟨a0,a1,a2,a3,ca0,ca1,ca2,ca3,ca4,ca5,ca6,ca7,ca8,ca9,cb0,trivial⟩);clear a0 a1 a2 a3 ca0 ca1 ca2 ca3 ca4 ca5 ca6 ca7 ca8 ca9 cb0;go_upto_region 4 with fail
     refine aC 99 (.tk 0 5 (.alt 5 (.tk 6 19 .done) .nomore)) (fun w'=>bD w' (b4L p1 (.slice x1 k1 c1) v2 v3 (.slice x4 k4 c4)++(zY g j V x++[(⟨g,(j - 1) * 10,none⟩,.int .i64 d.node)]))) kr_ kr_ (fun _ _ _ _ _ h=>h) (by rw[<-EW.out];exact C0.out) ?_;exact zAv
    have gd:decide (x.node<=d.node)=false:=by simp;omega
    have NO2:Hid (∀(a:Nat) (y:En),a<j+1->es[a]? =some y->fC n y=true/\(0<a->∀d:En,es[a - 1]? =some d->d.node<y.node)):=hd_ fun a y ha hy=>by
     by_cases q:a<j
     ·exact NO.out a y q hy
     ·obtain rfl:a=j:=o_
      rw[HX.out]at hy;cases hy;refine⟨EB.out,fun _ d' hd'=>?_⟩;rw[HD.out]at hd';cases hd';exact ed
    clear ed;have C0:=hd_ (show bD W (b4L p1 (.slice x1 k1 c1) v2 v3 (.slice x4 k4 c4)++(zY g j V x++[(⟨g,(j - 1) * 10,none⟩,.int .i64 d.node)]))from⟨a0,a1,a2,a3,ca0,ca1,ca2,ca3,ca4,ca5,ca6,ca7,ca8,ca9,cb0,trivial⟩);clear a0 a1 a2 a3 ca0 ca1 ca2 ca3 ca4 ca5 ca6 ca7 ca8 ca9 cb0;go_upto_region 4 with fail
    refine aC 99 (.tk 0 5 (.alt 5 (.tk 6 19 .done) .nomore)) (fun w'=>bD w' (b4L p1 (.slice x1 k1 c1) v2 v3 (.slice x4 k4 c4)++(zY g j V x++[(⟨g,(j - 1) * 10,none⟩,.int .i64 d.node)]))) kr_ kr_ (fun _ _ _ _ _ h=>h) (by rw[<-EW.out];exact C0.out) ?_;exact zAt
  ·have F:Hid (eG n es=true):=hd_ (xE.2 fun i e hi=>NO.out i e (by have:=(List.getElem?_eq_some_iff.1 hi).1;omega) hi)
   have g:decide (j<es.length)=false:=by simpa using hlt
   clear NO hWB;exact zAc
theorem vE {w:World} {x:Option Addr} {k c:Nat} {l:List Int} (h:cW w (.slice x k c) l) {j:Nat} (hj:j<l.length):∃b o,x=some ⟨b,o,Option.none⟩/\w.cell? ⟨b,o+j,Option.none⟩=some (.int .i64 (l.getD j 0)):=by
 rcases h with ⟨_,rfl⟩|⟨b,o,cap,e,_,_,_,hc⟩
 ·cases hj
 ·exact⟨b,o,(Value.slice.inj e).1,hc j hj⟩
theorem aHz {l:List Int} {j:Nat} (hj:j<l.length) (h:in6 (l.getD j 0) 0 63=false):lA l=false:=by
 unfold lA;rw[lM (i:=j) (a:=l.getD j 0) (by rw[List.getD_eq_getElem?_getD,List.getElem?_eq_getElem hj];rfl) h,Bool.false_and]
theorem aFt {l:List Int} (h:100<l.length):lA l=false:=by
 unfold lA;rw[decide_eq_false o_,Bool.and_false]
theorem aJ9 {l:List Int} (h:∀a,a<l.length->in6 (l.getD a 0) 0 63=true) (h2:¬ 100<l.length):lA l=true:=by
 unfold lA;rw[decide_eq_true o_,Bool.and_true];exact vI.2 fun a t ht=>by
  have q:=h a (List.getElem?_eq_some_iff.1 ht).1;rwa[List.getD_eq_getElem?_getD,ht]at q
theorem aEi (w:World) {x1 x4:Option Addr} {k1 c1 k4 c4:Nat} {v2 v3:Value} {n:Nt} (hn:jF w (.slice x1 k1 c1) v2 v3 (.slice x4 k4 c4) n) (h5:n.nodes.length=5) (p5:n.past.length=5) {i:Nat} (i5:i<5) (hbn:1<=(aD n i).born/\(aD n i).born<=20):
  Calls prog 86 #[.agg #[.slice x1 k1 c1,v2,v3,.slice x4 k4 c4],iv (i:Int)] w fun r w'=>r=.returned (.bool (kY n i))/\Below w.heap.size w w':=by
 obtain⟨f1,n1⟩:=hn.nodes;obtain⟨f4,n4⟩:=hn.past;obtain rfl:k1=5:=(aK n1).1.trans h5;obtain rfl:k4=5:=(aK n4).1.trans p5;obtain⟨nd,hnd⟩:∃nd,n.nodes[i]? =some nd:=⟨_,List.getElem?_eq_getElem (by rw[h5];exact i5)⟩
 obtain⟨rs,hrs⟩:∃rs,n.past[i]? =some rs:=⟨_,List.getElem?_eq_getElem (by rw[p5];exact i5)⟩
 have eN:aD n (i:Int)=nd:=by unfold aD;rw[List.getD_eq_getElem?_getD,Int.toNat_natCast,hnd];rfl
 have eR:dF n (i:Int)=rs:=by unfold dF;rw[List.getD_eq_getElem?_getD,Int.toNat_natCast,hrs];rfl
 have PB:Hid (kY n (i:Int)=(decide ((rs.length:Int)=nd.born+1)&&(decide ((rs.getD 0 []).length=0)&&rs.all lA))):=hd_ (by unfold kY bZ;rw[eN,eR];rfl);rw[eN]at hbn;have H0:=(M.start w).alloc #[.slice x1 5 c1,v2,v3,.slice x4 5 c4] 30;have N1:=hd_ n1;have N4:=hd_ n4;clear hn n1 n4 h5 p5 eN eR;go_enter func86,ntmps86;go_upto_region 1 with fail
 obtain⟨p1,hp1⟩:=nm_ w.heap.size;have HP:=hd_ hp1;rw[<-hp1]at H0;rw[<-hp1];clear hp1;generalize (w.alloc (.cells #[.slice x1 5 c1,v2,v3,.slice x4 5 c4] 30))=w1 at H0 ⊢;obtain⟨W,hW⟩:=nm_ w1.drew;have H1:=H0.drew;rw[<-hW]at H1;have EW:=hd_ hW;have H:=hd_ H1;clear H0 H1 hW;obtain⟨a0,a1,a2,a3⟩:=H.out.cells4;have hWB:=H.out.below;rw[HP.out]at hWB
 obtain⟨g1,xk,ck,fk,rfl,_,_,_,_,_,b0,_⟩:=gM ((aN cP _ _).below N1.out hWB lr_) hnd;obtain⟨g4,xr,cr,fr,rfl,_,_,rr,rcr,rcm,b1⟩:=mS ((aN cA _ _).below N4.out hWB lr_) hrs;clear hnd hrs hWB;unfold maxLen at rcm;have i0:(0:Int)<=(i:Int):=o_;have i5':(i:Int)<5:=o_;have bw:IntKind.i64.wrap (nd.born+1)=nd.born+1:=IntWalk.i64_in _ o_;have PLN:True:=trivial
 by_cases hA:(rs.length:Int)=nd.born+1
 case neg=>
  have F:Hid (kY n (i:Int)=false):=hd_ (by rw[PB.out,decide_eq_false hA];rfl);have gA:((rs.length:Int) != nd.born+1)=true:=by simpa using hA
  clear hA;exact zBi
 have gA:((rs.length:Int) != nd.born+1)=false:=by simpa using hA
 have HA:=hd_ hA;have r0:0<rs.length:=o_;clear hA;obtain⟨l0,hl0⟩:∃l,rs[0]? =some l:=⟨_,List.getElem?_eq_getElem r0⟩
 obtain⟨g5,xl,cl,fl,rfl,_,_,_,_,_,b2⟩:=mL rr hl0;have EL0:Hid (rs.getD 0 []=l0):=hd_ (by rw[List.getD_eq_getElem?_getD,hl0];rfl);clear hl0
 by_cases hB:l0.length=0
 case neg=>
  have F:Hid (kY n (i:Int)=false):=hd_ (by rw[PB.out,EL0.out,decide_eq_false hB,Bool.false_and,Bool.and_false]);have gB:((l0.length:Int) != 0)=true:=by simp only[bne_iff_ne,ne_eq];omega
  clear hB;exact zBi
 have gB:((l0.length:Int) != 0)=false:=by simp only[bne_eq_false_iff_eq];omega
 have FB:Hid (kY n (i:Int)=rs.all lA):=hd_ (by rw[PB.out,EL0.out,decide_eq_true HA.out,decide_eq_true hB];rfl);clear hB;refine aC 99 (.tk 0 25 .done) (fun w'=>w'=W) kr_ kr_ (fun _ _ _ _ _ h=>h) EW.out.symm ?_;rw[<-EW.out]
 repeat (first|refine tA_ ?_|refine tB_ ?_)
 refine aG ?_;clear b2 b0;go_wp2;have RR:=hd_ rr;clear rr gA gB bw;go_loopw [5] (fun z wr=>∃j:Nat,j<=rs.length/\z=.int .i64 j/\(∀(a:Nat) (x:List Int),a<j->rs[a]? =some x->lA x=true)/\wr=W) (fun z _=>rs.length - (intOf z).toNat)
 case atStart=>exact⟨0,Nat.zero_le _,rfl,fun a x h=>absurd h (Nat.not_lt_zero _),rfl⟩
 case round=>
  obtain⟨j,hj,rfl,hno,hwr⟩:=hrel;subst wr;have NO:=hd_ hno;clear hno
  by_cases hlt:j<rs.length
  ·obtain⟨lb,hlb⟩:∃l,rs[j]? =some l:=⟨_,List.getElem?_eq_getElem hlt⟩
   obtain⟨g6,xb,cb,fb,eg,_,_,rb,rbc,rbm,b3⟩:=mL RR.out hlb;cases eg;have IB:Hid (cW W (.slice xb lb.length cb) lb):=hd_ (by
        obtain⟨v,ev,ho,_⟩:=iT rb
        cases ev
        exact ho)
   have HLB:=hd_ hlb;unfold maxLen at rbm;have j0:(0:Int)<=(j:Int):=o_;have j1:(j:Int)<(rs.length:Int):=o_;clear rb hlb;go_wp2;go_loopw [6] (fun z wr=>∃q:Nat,q<=lb.length/\z=.int .i64 q/\(∀a:Nat,a<q->in6 (lb.getD a 0) 0 63=true)/\wr=W) (fun z _=>lb.length - (intOf z).toNat)
   case atStart=>exact⟨0,Nat.zero_le _,rfl,fun a h=>absurd h (Nat.not_lt_zero _),rfl⟩
   case round=>
    obtain⟨q,hq,rfl,hin,hwr⟩:=hrel;subst wr;have IN:=hd_ hin;clear hin
    by_cases hql:q<lb.length
    ·obtain⟨b6,o6,rfl,c6⟩:=vE IB.out hql
     have KI:=hd_ (mF (lb.getD q 0) 0 63 W);have HV:=hd_ (fun (h:in6 (lb.getD q 0) 0 63=false)=>aHz hql h);have IN2:Hid (in6 (lb.getD q 0) 0 63=true->∀a:Nat,a<q+1->in6 (lb.getD a 0) 0 63=true):=hd_ fun h a ha=>by
      by_cases e:a<q
      ·exact IN.out a e
      ·obtain rfl:a=q:=o_
       exact h
     obtain⟨v,hv⟩:=nm_ (lb.getD q 0);rw[<-hv]at c6 KI HV IN2;clear hv;have q0:(0:Int)<=(q:Int):=o_;have q1:(q:Int)<(lb.length:Int):=o_;generalize in6 v 0 63=t at KI HV IN2
     go_wp2_with fail
     refine KI.out.mono ?_;rintro r w' ⟨rfl,hw'⟩;rw[hw'];clear hw' w' KI;cases t with
     |false=>
      have F:Hid (kY n (i:Int)=false):=hd_ (by rw[FB.out];exact lM HLB.out (HV.out rfl));clear HV IN2;exact zAc
     |true=>
      exact zBu
    ·obtain rfl:q=lb.length:=o_
     by_cases hg:100<lb.length
     ·have F:Hid (kY n (i:Int)=false):=hd_ (by rw[FB.out];exact lM HLB.out (aFt hg))
      have gg:decide ((100:Int)<(lb.length:Int))=true:=by simp;omega
      clear hg;exact zAc
     ·have RO:=hd_ (aJ9 IN.out hg)
      have gg:decide ((100:Int)<(lb.length:Int))=false:=by simp;omega
      have NO2:Hid (∀(a:Nat) (x:List Int),a<j+1->rs[a]? =some x->lA x=true):=hd_ fun a x ha hx=>by
       exact zB7
      clear hg;go_wp2;exact zBd
  ·have F:Hid (kY n (i:Int)=true):=hd_ (by rw[FB.out];exact vI.2 fun a x hx=>NO.out a x (by have:=(List.getElem?_eq_some_iff.1 hx).1;omega) hx)
   obtain rfl:j=rs.length:=o_;exact zAc
theorem qP {z lo hi:Int} {b:Bool} (h:b=in6 z lo hi) (w:World):Calls prog 66 #[iv z,iv lo,iv hi] w fun e w'=>e=.returned (.bool b)/\w'=w:=by
 rw[h];exact mF z lo hi w
theorem aFs (w:World) {x1 x4:Option Addr} {k1 c1 k4 c4:Nat} {v2 v3:Value} {n:Nt} (hn:jF w (.slice x1 k1 c1) v2 v3 (.slice x4 k4 c4) n) (hs:oC n) {i:Nat} (i5:i<5) (hbn:1<=(aD n i).born):
  Calls prog 87 #[.agg #[.slice x1 k1 c1,v2,v3,.slice x4 k4 c4],iv (i:Int)] w fun r w'=>r=.returned (.bool (nN n i))/\Below w.heap.size w w':=by
 obtain⟨f1,n1⟩:=hn.nodes;obtain⟨f4,n4⟩:=hn.past;obtain rfl:k1=5:=(aK n1).1.trans hs.nodes;obtain rfl:k4=5:=(aK n4).1.trans hs.past;obtain⟨nd,hnd⟩:∃nd,n.nodes[i]? =some nd:=⟨_,List.getElem?_eq_getElem (by rw[hs.nodes];exact i5)⟩
 obtain⟨r0,hr0⟩:∃nd,n.nodes[0]? =some nd:=⟨_,List.getElem?_eq_getElem (by rw[hs.nodes];decide)⟩
 obtain⟨rs,hrs⟩:∃rs,n.past[i]? =some rs:=⟨_,List.getElem?_eq_getElem (by rw[hs.past];exact i5)⟩
 have eN:aD n (i:Int)=nd:=by unfold aD;rw[List.getD_eq_getElem?_getD,Int.toNat_natCast,hnd];rfl
 have e0:aD n 0=r0:=by unfold aD;rw[List.getD_eq_getElem?_getD,show (0:Int).toNat=0 from rfl,hr0];rfl
 have eR:dF n (i:Int)=rs:=by unfold dF;rw[List.getD_eq_getElem?_getD,Int.toNat_natCast,hrs];rfl
 have eL:=hs.rows i i5;rw[eN,eR]at eL;rw[eN]at hbn;obtain⟨j,hj⟩:∃j:Nat,nd.born=j:=⟨nd.born.toNat,o_⟩
 obtain⟨lp,hlp⟩:∃lp,rs[j]? =some lp:=⟨_,List.getElem?_eq_getElem o_⟩
 have eP:bZ n (i:Int) nd.born=lp:=by unfold bZ;rw[eR,List.getD_eq_getElem?_getD,hj,Int.toNat_natCast,hlp];rfl
 have jr:j<rs.length:=o_
 have NB:Hid (nN n (i:Int)=((match mA nd.known (i:Int)with|some e=>decide (e.born=nd.born)&&decide (e.num=(lp.length:Int))|none=>false)&&(eG n nd.known&&(if (i:Int)=0 then decide (nd.level=0)&&(decide (nd.up= -1)&&decide (0<=nd.beacon))else in6 nd.beacon 0 r0.beacon&&(in6 nd.level 1 5&&(decide (nd.up= -1↔nd.level=5)&&(in6 nd.up (-1) 4&&decide (nd.up≠(i:Int))))))))):=hd_ (by unfold nN vZ aEz;rw[eN,e0,eP];cases mA nd.known (i:Int)<;>rfl)
 have H0:=(M.start w).alloc #[.slice x1 5 c1,v2,v3,.slice x4 5 c4] 30;have HN:=hd_ hn;have HS:=hd_ hs;have hWB:=H0.below;obtain⟨g1,xk,ck,fk,rfl,_,_,rk,_,_,b0,b1,b2,b3,b4⟩:=gM n1 hnd;obtain⟨_,xk0,ck0,fk0,eg,_,_,_,_,_,z0,z1,z2,z3,z4⟩:=gM n1 hr0;cases eg;obtain⟨g4,xr,cr,fr,rfl,_,_,rr,_,_,y0⟩:=mS n4 hrs;obtain⟨g5,xl,cl,fl,rfl,_,_,_,lc,lm,y1⟩:=mL rr hlp;replace b0:=cell_later hWB b0
 replace b1:=cell_later hWB b1;replace b2:=cell_later hWB b2;replace b3:=cell_later hWB b3;replace b4:=cell_later hWB b4;replace z2:=cell_later hWB z2;replace y0:=cell_later hWB y0;replace y1:=cell_later hWB y1;rw[hj]at b0;have EJ:=hd_ hj;have RK:=hd_ rk;clear hn hs hnd hr0 hrs eN e0 eR eL hbn hlp eP hWB rr n1 n4 rk lc lm z0 z1 z3 z4;simp only[Nat.zero_mul,Nat.zero_add]at z2
 have i0:(0:Int)<=(i:Int):=o_;have i5':(i:Int)<5:=o_;have j0:(0:Int)<=(j:Int):=o_;have j1:(j:Int)<(rs.length:Int):=o_;clear jr hj;go_enter func87,ntmps87;obtain⟨p1,hp1⟩:=nm_ w.heap.size;have HP:=hd_ hp1;obtain⟨w1,hw1⟩:=nm_ (w.alloc (.cells #[.slice (some ⟨g1,0,none⟩) 5 c1,v2,v3,.slice (some ⟨g4,0,none⟩) 5 c4] 30));rw[<-hw1]at H0 b0 b1 b2 b3 b4 z2 y0 y1
 have hw01:Below w.heap.size w w1:=H0.below;have H1:=(H0.alloc #[iv (j:Int),.slice xk nd.known.length ck,iv nd.beacon,iv nd.level,iv nd.up] 55)
 have KO:=hd_ (aKn (w1.alloc (.cells #[iv (j:Int),.slice xk nd.known.length ck,iv nd.beacon,iv nd.level,iv nd.up] 55)) ((aN aX _ _).below RK.out (hw01.trans (((M.start w1).alloc #[iv (j:Int),.slice xk nd.known.length ck,iv nd.beacon,iv nd.level,iv nd.up] 55).below.mono hw01.size)) lr_) (i:Int) (j:Int) nd.beacon nd.level nd.up)
 have C1:Hid (bD w1 [(⟨g1,2,none⟩,.int .i64 r0.beacon),(⟨g4,i,none⟩,.slice (some ⟨g5,0,none⟩) rs.length cr),(⟨g5,j,none⟩,.slice xl lp.length cl)]):=hd_ ⟨z2,y0,y1,trivial⟩;have H:=hd_ H1;rw[hw1]at b0 b1 b2 b3 b4;clear H1 z2 y0 y1 hw01
 go_wp2_with fail
 rw[<-hw1];have hs1:w1.heap.size=w.heap.size+1:=by rw[hw1];simp
 obtain⟨p2,hp2⟩:=nm_ (w.heap.size+1);rw[hs1, <-hp2, <-hp1]at H;rw[<-hp2, <-hp1];clear hw1 hp1 hp2 b0 b1 b2 b3 b4 hs1;refine KO.out.mono ?_;rintro r w3 ⟨⟨u,rfl,hu⟩,hb⟩;have H2:=hd_ (H.out.later hb);have hb1:=((M.start w1).alloc #[iv (j:Int),.slice xk nd.known.length ck,iv nd.beacon,iv nd.level,iv nd.up] 55).below;have C2:=hd_ (C1.out.below (hb1.trans (hb.mono hb1.size)));clear hb KO H hb1
 rcases hu with ⟨e,V,he,_,rfl⟩|⟨he,rfl⟩
 case inr=>
  rw[he]at NB;have h3:=H2.out.alloc #[iv 0,iv 0,iv 0,zn,zn,zn,iv 0,iv 0,zn,iv 0] 64;have H9:=hd_ h3.drew;clear H2 h3 he;go_wp2;refine aC 99 (.tk 0 6 (.alt 6 (.tk 7 24 .done) .nomore)) (fun w'=>True) kr_ kr_ (fun _ _ _ _ _ h=>h) trivial ?_
  repeat (first|refine tC_ ?_|refine tB_ ?_)
  refine aB r_ (fun K' hK=>?_);go_simp;refine hK _ _ (.inr trivial) ?_;clear hK K'
  try refine tP_ ?_
  repeat (first|refine tC_ ?_|refine tB_ ?_)
  refine aG ?_;go_wp2;go_ret;exact⟨by rw[NB.out];rfl,by have:=H9.out.below;rwa[HP.out]at this⟩
 rw[he]at NB;have h3:=H2.out.alloc #[iv e.node,iv e.born,iv e.num,.slice V.xr V.nr V.cr,.slice V.xf V.nf V.cf,.slice V.xt V.nt V.ct,.int .i64 (e.s).lo,.int .i64 (e.s).al,.slice V.xk V.nk V.ck,.int .i64 (e.s).ka] 64;obtain⟨p3,hp3⟩:=nm_ w3.heap.size;rw[<-hp3]at h3
 obtain⟨w4,hw4⟩:=nm_ (w3.alloc (.cells #[iv e.node,iv e.born,iv e.num,.slice V.xr V.nr V.cr,.slice V.xf V.nf V.cf,.slice V.xt V.nt V.ct,.int .i64 (e.s).lo,.int .i64 (e.s).al,.slice V.xk V.nk V.ck,.int .i64 (e.s).ka] 64));rw[<-hw4]at h3;have hb4:Below w3.heap.size w3 w4:=by rw[hw4];exact (Below.refl _ _).alloc lr_ _
 have S0:Hid (bD w4 (b4L p1 (.slice (some ⟨g1,0,none⟩) 5 c1) v2 v3 (.slice (some ⟨g4,0,none⟩) 5 c4)++(b5L p2 (iv (j:Int)) (.slice xk nd.known.length ck) (iv nd.beacon) (iv nd.level) (iv nd.up)++(oV p3 e.node e.born e.num V e.s++[(⟨g1,2,none⟩,.int .i64 r0.beacon),(⟨g4,i,none⟩,.slice (some ⟨g5,0,none⟩) rs.length cr),(⟨g5,j,none⟩,.slice xl lp.length cl)])))):=hd_ (by
    obtain⟨y0,y1,y2,y3,y4,y5,y6,y7,y8,y9⟩:=h3.cells10
    obtain⟨z0,z1,z2,z3,z4⟩:=h3.p1.cells5
    obtain⟨x0,x1,x2,x3⟩:=h3.p2.cells4
    obtain⟨t1,t2,t3,_⟩:=C2.out.below hb4
    exact⟨x0,x1,x2,x3,z0,z1,z2,z3,z4,y0,y1,y2,y3,y4,y5,y6,y7,y8,y9,t1,t2,t3,trivial⟩)
 obtain⟨W,hW⟩:=nm_ w4.drew;have h4:=h3.drew;rw[<-hW]at h4;have S1:=hd_ (S0.out.below (Below.drew (Below.refl _ _)));rw[<-hW]at S1;have EW:=hd_ hW;have H4:=hd_ h4;have hWB:=h4.below;rw[HP.out]at hWB;have KN:=hd_ (aBb W (HN.out.below hWB lr_) HS.out ((aN aX _ _).below RK.out hWB lr_));clear h3 h4 H2 hW hWB hb4 C2 he;obtain⟨s1,hs1⟩:=nm_ (eG n nd.known);rw[<-hs1]at KN NB
 clear hs1;go_wp2;rw[<-hp3, <-hw4];clear hp3 hw4;rcases s1 with _|_
 case false=>
  refine aC 99 (.tk 0 6 (.alt 6 (.tk 7 24 .done) .nomore)) (fun w'=>bD w' (b4L p1 (.slice (some ⟨g1,0,none⟩) 5 c1) v2 v3 (.slice (some ⟨g4,0,none⟩) 5 c4)++(b5L p2 (iv (j:Int)) (.slice xk nd.known.length ck) (iv nd.beacon) (iv nd.level) (iv nd.up)++(oV p3 e.node e.born e.num V e.s++[(⟨g1,2,none⟩,.int .i64 r0.beacon),(⟨g4,i,none⟩,.slice (some ⟨g5,0,none⟩) rs.length cr),(⟨g5,j,none⟩,.slice xl lp.length cl)])))) kr_ kr_ (fun _ _ _ _ _ h=>h) (S0.out.below (Below.drew (Below.refl _ _))) ?_
  rw[<-EW.out]
  repeat (first|refine tC_ ?_|refine tB_ ?_)
  refine aB r_ (fun K' hK=>?_);go_simp;refine KN.out.mono ?_;rintro r w5 ⟨rfl,hb⟩;have H9:=hd_ (H4.out.later hb);have S9:=hd_ (S1.out.below hb);refine hK _ _ (.inr S9.out) ?_;clear hK K'
  try refine tP_ ?_
  clear hb KN
  repeat (first|refine tC_ ?_|refine tB_ ?_)
  refine aG ?_;go_wp2;go_ret;exact⟨by rw[NB.out];simp,by have:=H9.out.below;rwa[HP.out]at this⟩
 by_cases eb:e.born=(j:Int)
 case neg=>
  have g1':(e.born != (j:Int))=true:=by simpa using eb
  have F:=hd_ (show decide (e.born=nd.born)=false from decide_eq_false (by rw[EJ.out];exact eb));clear eb
  refine aC 99 (.tk 0 6 (.alt 6 (.tk 7 24 .done) .nomore)) (fun w'=>bD w' (b4L p1 (.slice (some ⟨g1,0,none⟩) 5 c1) v2 v3 (.slice (some ⟨g4,0,none⟩) 5 c4)++(b5L p2 (iv (j:Int)) (.slice xk nd.known.length ck) (iv nd.beacon) (iv nd.level) (iv nd.up)++(oV p3 e.node e.born e.num V e.s++[(⟨g1,2,none⟩,.int .i64 r0.beacon),(⟨g4,i,none⟩,.slice (some ⟨g5,0,none⟩) rs.length cr),(⟨g5,j,none⟩,.slice xl lp.length cl)])))) kr_ kr_ (fun _ _ _ _ _ h=>h) (S0.out.below (Below.drew (Below.refl _ _))) ?_
  rw[<-EW.out]
  repeat (first|refine tC_ ?_|refine tB_ ?_)
  refine aB r_ (fun K' hK=>?_);go_simp;refine KN.out.mono ?_;rintro r w5 ⟨rfl,hb⟩;have H9:=hd_ (H4.out.later hb);have S9:=hd_ (S1.out.below hb);refine hK _ _ (.inr S9.out) ?_;clear hK K'
  try refine tP_ ?_
  clear hb KN
  repeat (first|refine tC_ ?_|refine tB_ ?_)
  refine aG ?_;go_wp2;go_ret;exact⟨by rw[NB.out];rw[F.out];rfl,by have:=H9.out.below;rwa[HP.out]at this⟩
 have g1':(e.born != (j:Int))=false:=by simpa using eb
 have F1:=hd_ (show decide (e.born=nd.born)=true from decide_eq_true (by rw[EJ.out];exact eb));clear eb
 by_cases en:e.num=(lp.length:Int)
 case neg=>
  have g2':(e.num != (lp.length:Int))=true:=by simpa using en
  have F:=hd_ (show decide (e.num=(lp.length:Int))=false from decide_eq_false en);clear en
  refine aC 99 (.tk 0 6 (.alt 6 (.tk 7 24 .done) .nomore)) (fun w'=>bD w' (b4L p1 (.slice (some ⟨g1,0,none⟩) 5 c1) v2 v3 (.slice (some ⟨g4,0,none⟩) 5 c4)++(b5L p2 (iv (j:Int)) (.slice xk nd.known.length ck) (iv nd.beacon) (iv nd.level) (iv nd.up)++(oV p3 e.node e.born e.num V e.s++[(⟨g1,2,none⟩,.int .i64 r0.beacon),(⟨g4,i,none⟩,.slice (some ⟨g5,0,none⟩) rs.length cr),(⟨g5,j,none⟩,.slice xl lp.length cl)])))) kr_ kr_ (fun _ _ _ _ _ h=>h) (S0.out.below (Below.drew (Below.refl _ _))) ?_
  rw[<-EW.out]
  repeat (first|refine tC_ ?_|refine tB_ ?_)
  refine aB r_ (fun K' hK=>?_);go_simp;refine KN.out.mono ?_;rintro r w5 ⟨rfl,hb⟩;have H9:=hd_ (H4.out.later hb);have S9:=hd_ (S1.out.below hb);refine hK _ _ (.inr S9.out) ?_;clear hK K'
  try refine tP_ ?_
  clear hb KN
  repeat (first|refine tC_ ?_|refine tB_ ?_)
  refine aG ?_;go_wp2;go_ret;exact⟨by rw[NB.out];rw[F.out];simp,by have:=H9.out.below;rwa[HP.out]at this⟩
 have g2':(e.num != (lp.length:Int))=false:=by simpa using en
 have F2:=hd_ (show decide (e.num=(lp.length:Int))=true from decide_eq_true en);clear en
 refine aC 99 (.tk 0 6 (.alt 6 (.tk 7 24 .done) .nomore)) (fun w'=>bD w' (b4L p1 (.slice (some ⟨g1,0,none⟩) 5 c1) v2 v3 (.slice (some ⟨g4,0,none⟩) 5 c4)++(b5L p2 (iv (j:Int)) (.slice xk nd.known.length ck) (iv nd.beacon) (iv nd.level) (iv nd.up)++(oV p3 e.node e.born e.num V e.s++[(⟨g1,2,none⟩,.int .i64 r0.beacon),(⟨g4,i,none⟩,.slice (some ⟨g5,0,none⟩) rs.length cr),(⟨g5,j,none⟩,.slice xl lp.length cl)])))) kr_ kr_ (fun _ _ _ _ _ h=>h) (S0.out.below (Below.drew (Below.refl _ _))) ?_
 rw[<-EW.out]
 repeat (first|refine tC_ ?_|refine tB_ ?_)
 refine aB r_ (fun K' hK=>?_);go_simp;refine KN.out.mono ?_;rintro r w5 ⟨rfl,hb⟩;have H9:=hd_ (H4.out.later hb);have S9:=hd_ (S1.out.below hb);refine hK _ _ (.inr S9.out) ?_;clear hK K'
 try refine tP_ ?_
 clear hb KN
 repeat (first|refine tC_ ?_|refine tB_ ?_)
 refine aG ?_;clear S0 S1 H4 EW;rw[F1.out,F2.out]at NB;obtain⟨y0,y1,y2,y3⟩:=H9.out.p2.cells4;obtain⟨z0,z1,z2,z3,z4⟩:=H9.out.p1.cells5
 by_cases hi:i=0
 ·subst hi
  obtain⟨l0,hl0⟩:=nm_ (nd.level==0);obtain⟨u0,hu0⟩:=nm_ (nd.up== -1);obtain⟨b0,hb0⟩:=nm_ (decide (0<=nd.beacon));have NB2:Hid (nN n ((0:Nat):Int)=(l0&&(u0&&b0))):=hd_ (by rw[NB.out,if_pos r_,hl0,hu0,hb0];rfl);have ga:=hl0.symm;have gb:=hu0.symm;have gc:=hb0.symm;clear hl0 hu0 hb0 NB S9;refine aDx (a:=l0) (b:=u0) ?_ ?_ ?_
  all_goals
   first
    |(intro e1 e2;subst e1 e2)
    |(intro e1;subst e1)
   go_wp2;go_ret;exact⟨by rw[NB2.out];rfl,by have:=H9.out.below;rwa[HP.out]at this⟩
 have hi':((i:Int)==0)=false:=by simpa using hi
 obtain⟨s2,hs2⟩:=nm_ (in6 nd.beacon 0 r0.beacon);obtain⟨s3,hs3⟩:=nm_ (in6 nd.level 1 5);obtain⟨t1,ht1⟩:=nm_ (nd.up== -1);obtain⟨t2,ht2⟩:=nm_ (nd.level==5);obtain⟨s5,hs5⟩:=nm_ (in6 nd.up (-1) 4);obtain⟨t3,ht3⟩:=nm_ (nd.up != (i:Int));have NB2:Hid (nN n (i:Int)=(s2&&(s3&&((t1==t2)&&(s5&&t3))))):=hd_ (by
    rw[NB.out,if_neg (by simpa using hi),hs2,hs3,hs5]
    have e1:decide (nd.up= -1↔nd.level=5)=(t1==t2):=by
      rw[ht1,ht2]
      exact aLO _ _
    have e2:decide (nd.up≠(i:Int))=t3:=by
      rw[ht3]
      simp only[ne_eq,decide_not];rfl
    rw[e1,e2];simp)
 have K2:=hd_ (qP hs2);have K3:=hd_ (qP hs3);have K5:=hd_ (qP hs5);have ga:=ht1.symm;have gb:=ht2.symm;have gc:=ht3.symm;clear hs2 hs3 ht1 ht2 hs5 ht3 NB;have S8:=hd_ (S9.out.below (Below.drew (Below.refl _ _)));obtain⟨W8,hW8⟩:=nm_ w5.drew;have H8:=H9.out.drew;rw[<-hW8]at H8 S8;have EW8:=hd_ hW8;replace H9:=hd_ H8;clear H8 S9 hW8;obtain⟨tt,htt⟩:=nm_ (t1==t2);rw[<-htt]at NB2
 have gd:=htt.symm;clear htt;refine aGG (a:=s2) (b:=s3) (c:=tt) (d:=s5) (e:=t3) ?_ ?_ ?_ ?_ ?_ ?_
 all_goals
  first
   |(intro e1 e2 e3 e4 e5;subst e1 e2 e3 e4 e5)
   |(intro e1 e2 e3 e4;subst e1 e2 e3 e4)
   |(intro e1 e2 e3;subst e1 e2 e3)
   |(intro e1 e2;subst e1 e2)
   |(intro e1;subst e1)
  go_wp2
  refine aC 99 (.tk 0 7 (.alt 7 (.tk 8 3 (.alt 11 (.tk 12 17 (.alt 29 (.tk 30 7 (.alt 37 .done .nomore)) .nomore)) .nomore)) .nomore)) (fun w'=>bD w' (b4L p1 (.slice (some ⟨g1,0,none⟩) 5 c1) v2 v3 (.slice (some ⟨g4,0,none⟩) 5 c4)++(b5L p2 (iv (j:Int)) (.slice xk nd.known.length ck) (iv nd.beacon) (iv nd.level) (iv nd.up)++(oV p3 e.node e.born e.num V e.s++[(⟨g1,2,none⟩,.int .i64 r0.beacon),(⟨g4,i,none⟩,.slice (some ⟨g5,0,none⟩) rs.length cr),(⟨g5,j,none⟩,.slice xl lp.length cl)])))) kr_ kr_ (fun _ _ _ _ _ h=>h) (by rw[<-EW8.out];exact S8.out) ?_
  rw[<-EW8.out]
  repeat (first|refine tC_ ?_|refine tB_ ?_)
  refine aB r_ (fun K' hK=>?_);go_simp;refine (K2.out W8).mono ?_;rintro e' w' ⟨rfl,hw'⟩;rw[hw'];clear hw' w';refine hK _ _ (.inr S8.out) ?_;clear hK K'
  try refine tP_ ?_
  repeat (first|refine tC_ ?_|refine tB_ ?_)
  refine aB r_ (fun K' hK=>?_);go_simp
  first
   |(refine (K3.out W8).mono ?_;rintro e' w' ⟨rfl,hw'⟩;rw[hw'];clear hw' w';refine hK _ _ (.inr S8.out) ?_)
   |refine hK _ _ (.inr S8.out) ?_
  clear hK K'
  repeat (first|refine tC_ ?_|refine tB_ ?_)
  refine aB r_ (fun K' hK=>?_);go_simp
  first
   |(refine (K5.out W8).mono ?_;rintro e' w' ⟨rfl,hw'⟩;rw[hw'];clear hw' w';refine hK _ _ (.inr S8.out) ?_)
   |refine hK _ _ (.inr S8.out) ?_
  clear hK K'
  repeat (first|refine tC_ ?_|refine tB_ ?_)
  refine aB r_ (fun K' hK=>?_);go_simp;refine hK _ _ (.inr S8.out) ?_;clear hK K'
  repeat (first|refine tC_ ?_|refine tB_ ?_)
  refine aG ?_;go_wp2;go_ret;exact⟨by rw[NB2.out];rfl,by have:=H9.out.below;rwa[HP.out]at this⟩
theorem aEc (w:World) {x1 x4 xk:Option Addr} {k1 c1 k4 c4 k ck:Nat} {v2 v3:Value} {n:Nt} {x:Wd} {f:List Nat} (hn:jF w (.slice x1 k1 c1) v2 v3 (.slice x4 k4 c4) n) (hs:oC n) (hk:fU TY w [.slice xk k ck] x.known f):
  Calls prog 88 #[.agg #[.slice x1 k1 c1,v2,v3,.slice x4 k4 c4],.agg #[iv x.kind,iv x.src,iv x.dst,iv x.beacon,iv x.level,.slice xk k ck]] w fun r w'=>r=.returned (.bool (iO n x))/\Below w.heap.size w w':=by
 obtain⟨kind,src,dst,beacon,level,es⟩:=x;simp only at hk ⊢;obtain rfl:k=es.length:=(aK hk).1;obtain⟨_,_,e1,q1,q2⟩:=aP hk;have hm:es.length<=maxLen:=Nat.le_trans q1 q2;unfold maxLen at hm;clear e1 q1 q2;obtain⟨f1,n1⟩:=hn.nodes;obtain rfl:k1=5:=(aK n1).1.trans hs.nodes;obtain⟨r0,hr0⟩:∃nd,n.nodes[0]? =some nd:=⟨_,List.getElem?_eq_getElem (by rw[hs.nodes];decide)⟩
 have e0:aD n 0=r0:=by unfold aD;rw[List.getD_eq_getElem?_getD,show (0:Int).toNat=0 from rfl,hr0];rfl
 have WB:Hid (iO n ⟨kind,src,dst,beacon,level,es⟩=if kind=1 then (in6 src 0 4&&(in6 dst 0 4&&decide (src≠dst)))&&(in6 beacon 0 r0.beacon&&(in6 level 0 4&&decide (es.length=0)))else if kind=2 then (in6 src 0 4&&(in6 dst 0 4&&decide (src≠dst)))&&(decide (beacon=0)&&(decide (level=0)&&eG n es))else false):=hd_ (by unfold iO aCv;rw[e0])
 have H0:=((M.start w).alloc #[.slice x1 5 c1,v2,v3,.slice x4 k4 c4] 30).alloc #[iv kind,iv src,iv dst,iv beacon,iv level,.slice xk es.length ck] 123;simp only[World.size_alloc]at H0;have hWB:=H0.below;obtain⟨g1,xk0,ck0,fk0,rfl,_,_,_,_,_,z0,z1,z2,z3,z4⟩:=gM ((aN cP _ _).below n1 hWB lr_) hr0;simp only[Nat.zero_mul,Nat.zero_add]at z2;clear z0 z1 z3 z4 hr0 e0 n1
 obtain⟨W,hW⟩:=nm_ ((w.alloc (.cells #[.slice (some ⟨g1,0,none⟩) 5 c1,v2,v3,.slice x4 k4 c4] 30)).alloc (.cells #[iv kind,iv src,iv dst,iv beacon,iv level,.slice xk es.length ck] 123));rw[<-hW]at H0 hWB z2;obtain⟨p1,hp1⟩:=nm_ w.heap.size;obtain⟨p2,hp2⟩:=nm_ (w.heap.size+1);rw[<-hp2, <-hp1]at H0;have HP:=hd_ hp1;have H:=hd_ H0
 have KN:=hd_ (aBb W (hn.below hWB lr_) hs ((aN aX _ _).below hk hWB lr_));obtain⟨a0,a1,a2,a3,a4,a5⟩:=H0.cells6;obtain⟨d0,d1,d2,d3⟩:=H0.p1.cells4;have C0:Hid (bD W.drew (b4L p1 (.slice (some ⟨g1,0,none⟩) 5 c1) v2 v3 (.slice x4 k4 c4)++(b6L p2 (iv kind) (iv src) (iv dst) (iv beacon) (iv level) (.slice xk es.length ck)++[(⟨g1,2,none⟩,.int .i64 r0.beacon)]))):=hd_ (by
    refine bD.below (W:=W) ?_ (Below.drew (Below.refl _ _))
    exact⟨d0,d1,d2,d3,a0,a1,a2,a3,a4,a5,z2,trivial⟩)
 clear hn hs hk H0 hWB z2;obtain⟨s1,hs1⟩:=nm_ (in6 src 0 4);obtain⟨s2,hs2⟩:=nm_ (in6 dst 0 4);obtain⟨s3,hs3⟩:=nm_ (decide (src≠dst));obtain⟨s4,hs4⟩:=nm_ (in6 beacon 0 r0.beacon);obtain⟨s5,hs5⟩:=nm_ (in6 level 0 4);obtain⟨s6,hs6⟩:=nm_ (eG n es);rw[<-hs1, <-hs2, <-hs3, <-hs4, <-hs5, <-hs6]at WB;rw[<-hs6]at KN;have K1:=hd_ (qP hs1);have K2:=hd_ (qP hs2);have K4:=hd_ (qP hs4)
 have K5:=hd_ (qP hs5);have g3:(src != dst)=s3:=by rw[hs3];by_cases q:src=dst<;>simp[q]
 clear hs1 hs2 hs3 hs4 hs5 hs6;have HB0:=hd_ (show Below w.heap.size w W.drew from by have:=H.out.drew.below;rwa[HP.out]at this);have HB1:=hd_ (show Below w.heap.size w W from by have:=H.out.below;rwa[HP.out]at this);obtain⟨e,he⟩:∃e:Bool,e=(s1&&(s2&&s3)):=⟨_,rfl⟩
 have WB2:Hid (iO n ⟨kind,src,dst,beacon,level,es⟩=if kind=1 then e&&(s4&&(s5&&decide (es.length=0)))else if kind=2 then e&&(decide (beacon=0)&&(decide (level=0)&&s6))else false):=hd_ (by rw[WB.out,he]);have HE:=hd_ he;clear he WB;obtain⟨z1,hz1⟩:=nm_ (decide (es.length=0));obtain⟨z2,hz2⟩:=nm_ (beacon==0);obtain⟨z3,hz3⟩:=nm_ (level==0)
 have gz1:((es.length:Int)==0)=z1:=by rw[hz1];by_cases q:es.length=0<;>simp[q]
 have gz2:=hz2.symm;have gz3:=hz3.symm;rw[<-hz1,show decide (beacon=0)=z2 from hz2.symm,show decide (level=0)=z3 from hz3.symm]at WB2;clear hz1 hz2 hz3;rcases Decidable.em (kind=1)with rfl|k1
 ·rw[if_pos rfl]at WB2
  go_enter func88,ntmps88;have R:∀(P:Prop),(s1=false->e=false->P)->(s1=true->s2=false->e=false->P)->(s1=true->s2=true->s3=false->e=false->P)->(s1=true->s2=true->s3=true->e=true->s4=false->P)->(s1=true->s2=true->s3=true->e=true->s4=true->s5=false->P)->(s1=true->s2=true->s3=true->e=true->s4=true->s5=true->P)->P:=fun P h1 h2 h3 h4 h5 h6=>by
   have he:=HE.out;refine aGG (a:=s1) (b:=s2) (c:=s3) (d:=s4) (e:=s5) (fun a=>h1 a (by rw[he,a];rfl)) (fun a b=>h2 a b (by rw[he,a,b];rfl)) (fun a b c=>h3 a b c (by rw[he,a,b,c];rfl)) (fun a b c d=>h4 a b c (by rw[he,a,b,c];rfl) d) (fun a b c d f=>h5 a b c (by rw[he,a,b,c];rfl) d f) (fun a b c d f=>h6 a b c (by rw[he,a,b,c];rfl) d f)
  clear HE;refine R _ ?_ ?_ ?_ ?_ ?_ ?_<;>clear R
  all_goals
   first
    |(intro e1 e2 e3 e4 e5 e6;subst e1 e2 e3 e4 e5 e6)
    |(intro e1 e2 e3 e4 e5;subst e1 e2 e3 e4 e5)
    |(intro e1 e2 e3 e4;subst e1 e2 e3 e4)
    |(intro e1 e2 e3;subst e1 e2 e3)
    |(intro e1 e2;subst e1 e2)
   go_wp2_with (first|((with_reducible refine (K1.out _).mono ?_);rintro e' w' ⟨rfl,hw'⟩;rw[hw'];clear hw' w')|((with_reducible refine (K2.out _).mono ?_);rintro e' w' ⟨rfl,hw'⟩;rw[hw'];clear hw' w'))
   rw[<-hp2, <-hp1, <-hW];clear hp2 hp1 hW
   refine aC 99 (.tk 0 9 (.alt 9 (.tk 10 4 (.alt 14 (.tk 15 7 (.alt 22 .done .nomore)) .nomore)) .nomore)) (fun w'=>bD w' (b4L p1 (.slice (some ⟨g1,0,none⟩) 5 c1) v2 v3 (.slice x4 k4 c4)++(b6L p2 (iv 1) (iv src) (iv dst) (iv beacon) (iv level) (.slice xk es.length ck)++[(⟨g1,2,none⟩,.int .i64 r0.beacon)]))) kr_ kr_ (fun _ _ _ _ _ h=>h) C0.out ?_
   repeat (first|refine tC_ ?_|refine tB_ ?_)
   refine aB r_ (fun K' hK=>?_);go_simp
   first
    |(refine (K4.out _).mono ?_;rintro e' w' ⟨rfl,hw'⟩;rw[hw'];clear hw' w';refine hK _ _ (.inr C0.out) ?_)
    |refine hK _ _ (.inr C0.out) ?_
   clear hK K'
   repeat (first|refine tC_ ?_|refine tB_ ?_)
   refine aB r_ (fun K' hK=>?_);go_simp
   first
    |(refine (K5.out _).mono ?_;rintro e' w' ⟨rfl,hw'⟩;rw[hw'];clear hw' w';refine hK _ _ (.inr C0.out) ?_)
    |refine hK _ _ (.inr C0.out) ?_
   clear hK K'
   repeat (first|refine tC_ ?_|refine tB_ ?_)
   refine aB r_ (fun K' hK=>?_);go_simp;refine hK _ _ (.inr C0.out) ?_;clear hK K';refine aG ?_;go_wp2;go_ret;exact⟨by rw[WB2.out];rfl,HB0.out⟩
 rcases Decidable.em (kind=2)with rfl|k2
 ·rw[if_neg dc_,if_pos rfl]at WB2
  go_enter func88,ntmps88;have R:∀(P:Prop),(s1=false->e=false->P)->(s1=true->s2=false->e=false->P)->(s1=true->s2=true->s3=false->e=false->P)->(s1=true->s2=true->s3=true->e=true->z2=false->P)->(s1=true->s2=true->s3=true->e=true->z2=true->z3=false->P)->(s1=true->s2=true->s3=true->e=true->z2=true->z3=true->P)->P:=fun P h1 h2 h3 h4 h5 h6=>by
   have he:=HE.out;refine aGG (a:=s1) (b:=s2) (c:=s3) (d:=z2) (e:=z3) (fun a=>h1 a (by rw[he,a];rfl)) (fun a b=>h2 a b (by rw[he,a,b];rfl)) (fun a b c=>h3 a b c (by rw[he,a,b,c];rfl)) (fun a b c d=>h4 a b c (by rw[he,a,b,c];rfl) d) (fun a b c d f=>h5 a b c (by rw[he,a,b,c];rfl) d f) (fun a b c d f=>h6 a b c (by rw[he,a,b,c];rfl) d f)
  clear HE;refine R _ ?_ ?_ ?_ ?_ ?_ ?last<;>clear R
  case last=>
   intro e1 e2 e3 e4 e5 e6;subst e1 e2 e3 e4 e5 e6
   go_wp2_with (first|((with_reducible refine (K1.out _).mono ?_);rintro e' w' ⟨rfl,hw'⟩;rw[hw'];clear hw' w')|((with_reducible refine (K2.out _).mono ?_);rintro e' w' ⟨rfl,hw'⟩;rw[hw'];clear hw' w'))
   rw[<-hp2, <-hp1, <-hW];clear hp2 hp1 hW;refine KN.out.mono ?_;rintro e' w' ⟨rfl,hb⟩;have F:=hd_ (HB1.out.trans (hb.mono HB1.out.size));clear hb KN;go_wp2;go_ret;exact⟨by rw[WB2.out];simp,F.out⟩
  all_goals
   first
    |(intro e1 e2 e3 e4 e5 e6;subst e1 e2 e3 e4 e5 e6)
    |(intro e1 e2 e3 e4 e5;subst e1 e2 e3 e4 e5)
    |(intro e1 e2 e3 e4;subst e1 e2 e3 e4)
    |(intro e1 e2 e3;subst e1 e2 e3)
    |(intro e1 e2;subst e1 e2)
   go_wp2_with (first|((with_reducible refine (K1.out _).mono ?_);rintro e' w' ⟨rfl,hw'⟩;rw[hw'];clear hw' w')|((with_reducible refine (K2.out _).mono ?_);rintro e' w' ⟨rfl,hw'⟩;rw[hw'];clear hw' w'))
   go_ret;rw[<-hW];exact⟨by rw[WB2.out];rfl,HB1.out⟩
 ·rw[if_neg k1,if_neg k2]at WB2
  have g1':(kind==1)=false:=by simpa using k1
  have g2':(kind==2)=false:=by simpa using k2
  clear HE k1 k2;go_enter func88,ntmps88;refine aDx (a:=s1) (b:=s2) ?_ ?_ ?_
  all_goals
   first
    |(intro e1 e2;subst e1 e2)
    |(intro e1;subst e1)
   go_wp2_with (first|((with_reducible refine (K1.out _).mono ?_);rintro e' w' ⟨rfl,hw'⟩;rw[hw'];clear hw' w')|((with_reducible refine (K2.out _).mono ?_);rintro e' w' ⟨rfl,hw'⟩;rw[hw'];clear hw' w'))
   go_ret;rw[<-hW];exact⟨by rw[WB2.out];rfl,HB1.out⟩
theorem vW {n:Nt} {a:Nat} (h5:a<5) (h:oI n a=false):jW n=false:=by
 unfold jW;rw[lM (i:=a) (a:=a) (p:=fun a:Nat=>oI n a) (by rw[List.getElem?_range h5]) h];simp
theorem aJK {n:Nt} {a:Nat} (h5:a<5) (h:nN n a=false):jW n=false:=by
 unfold jW;rw[lM (i:=a) (a:=a) (p:=fun a:Nat=>nN n a) (by rw[List.getElem?_range h5]) h];simp
theorem aKl {n:Nt} {i:Nat} {x:Wd} (hi:n.words[i]? =some x) (h:iO n x=false):jW n=false:=by
 unfold jW;rw[lM hi h];simp
theorem aJj {n:Nt} (h:aCb n=false):jW n=false:=by unfold jW;rw[h];rfl
theorem aLz {n:Nt} (h1:aCb n=true) (h2:∀a:Nat,a<5->oI n a=true) (h3:∀a:Nat,a<5->nN n a=true) (h4:∀(i:Nat) (x:Wd),n.words[i]? =some x->iO n x=true):jW n=in6 (aD n 0).beacon 0 1000:=by
 unfold jW;rw[h1,List.all_eq_true.2 (fun a ha=>h2 a (List.mem_range.1 ha)),List.all_eq_true.2 (fun a ha=>h3 a (List.mem_range.1 ha)),vI.2 h4]
 rfl
theorem aEx {n:Nt} (h1:n.nodes.length=5) (h2:n.past.length=5) (h:∀a:Nat,a<5->oI n a=true):oC n:=by
 refine⟨h1,h2,fun i hi=>?_⟩;have:=h i hi;unfold oI kY at this;simp only[Bool.and_eq_true,decide_eq_true_eq]at this;exact this.2.1.1
theorem xK {n:Nt} {a b:Nat} {u:Bool} (h:n.links[a * 5+b]? =some u):fD n (a:Int) (b:Int)=u:=by
 unfold fD;rw[List.getD_eq_getElem?_getD,show ((a:Int) * 5+(b:Int)).toNat=a * 5+b by omega,h];rfl
theorem aFC (w:World) {x1 x2 x3 x4:Option Addr} {k1 c1 k2 c2 k3 c3 k4 c4:Nat} {n:Nt} (hn:jF w (.slice x1 k1 c1) (.slice x2 k2 c2) (.slice x3 k3 c3) (.slice x4 k4 c4) n):
  Calls prog 25 #[.agg #[.slice x1 k1 c1,.slice x2 k2 c2,.slice x3 k3 c3,.slice x4 k4 c4]] w fun r w'=>r=.returned (.bool (jW n))/\Below w.heap.size w w':=by
 obtain⟨f1,n1⟩:=hn.nodes;obtain⟨f2,n2⟩:=hn.links;obtain⟨f3,n3⟩:=hn.words;obtain⟨f4,n4⟩:=hn.past;have e1:k1=n.nodes.length:=(aK n1).1;have e2:k2=n.links.length:=(aK n2).1;have e3:k3=n.words.length:=(aK n3).1;have e4:k4=n.past.length:=(aK n4).1;have m3:k3<=maxLen:=by obtain⟨_,_,q,q1,q2⟩:=aP n3;rw[e3];exact Nat.le_trans q1 q2
 unfold maxLen at m3;have h0:=(M.start w).alloc #[.slice x1 k1 c1,.slice x2 k2 c2,.slice x3 k3 c3,.slice x4 k4 c4] 30;obtain⟨w1,hw1⟩:=nm_ (w.alloc (.cells #[.slice x1 k1 c1,.slice x2 k2 c2,.slice x3 k3 c3,.slice x4 k4 c4] 30));obtain⟨p1,hp1⟩:=nm_ w.heap.size;have HP:=hd_ hp1;rw[<-hw1, <-hp1]at h0;have H:=hd_ h0;obtain⟨a0,a1,a2,a3⟩:=h0.cells4;have HN:=hd_ hn;have N1:=hd_ n1;have N2:=hd_ n2
 have N3:=hd_ n3;have N4:=hd_ n4;have SB:Hid (aCb n=(decide (k1=5)&&(decide (k4=5)&&(decide (k2=25)&&decide (k3<=24))))):=hd_ (by rw[e1,e2,e3,e4];rfl);have E1:=hd_ e1;have E2:=hd_ e2;have E3:=hd_ e3;have E4:=hd_ e4;clear hn n1 n2 n3 n4 e1 e2 e3 e4 h0;obtain⟨q1,hq1⟩:=nm_ (decide (k1=5));obtain⟨q4,hq4⟩:=nm_ (decide (k4=5));obtain⟨q2,hq2⟩:=nm_ (decide (k2=25));obtain⟨q3,hq3⟩:=nm_ (decide (k3<=24))
 rw[<-hq1, <-hq4, <-hq2, <-hq3]at SB;have z1:((k1:Int) != 5)= !q1:=by rw[hq1];by_cases q:k1=5<;>simp[q];omega
 have z4:((k4:Int) != 5)= !q4:=by rw[hq4];by_cases q:k4=5<;>simp[q];omega
 have z2:((k2:Int) != 25)= !q2:=by rw[hq2];by_cases q:k2=25<;>simp[q];omega
 have z3:decide ((24:Int)<(k3:Int))= !q3:=by rw[hq3];by_cases q:k3<=24<;>simp[q]<;>omega
 go_enter func25,ntmps25;have QS:=hd_ (And.intro (And.intro hq1 hq4) (And.intro hq2 hq3));clear hq1 hq2 hq3 hq4;refine aJx (a:=q1) (b:=q4) (c:=q2) (d:=q3) ?_ ?_ ?_ ?_ ?last
 case last=>
  intro e1 e2 e3 e4;subst e1 e2 e3 e4;obtain⟨⟨y1,y4⟩,y2,y3⟩:=QS.out;obtain rfl:=of_decide_eq_true y1.symm;obtain rfl:=of_decide_eq_true y4.symm;obtain rfl:=of_decide_eq_true y2.symm;have k24:=of_decide_eq_true y3.symm;clear y1 y2 y3 y4 QS z1 z2 z4 z3;have z3:decide ((24:Int)<(k3:Int))=false:=by simp;omega
  go_wp2;rw[<-hp1, <-hw1];clear hp1 hw1 a0 a1 a2 a3 z3;go_loopw [3] (fun z wr=>∃a:Nat,a<=5/\z=.int .i64 (a:Int)/\(∀b:Nat,b<a->oI n b=true)/\M p1 w wr [bO p1 30 #[.slice x1 5 c1,.slice x2 25 c2,.slice x3 k3 c3,.slice x4 5 c4]]) (fun z _=>5 - (intOf z).toNat)
  case atStart=>exact⟨0,Nat.zero_le _,rfl,fun b h=>absurd h (Nat.not_lt_zero _),H.out⟩
  case round=>
   clear H;obtain⟨a,ha5,rfl,hall,hm⟩:=hrel;have ALL:=hd_ hall;have H:=hd_ hm;clear hall hm;have hWB:Below w.heap.size w wr:=by have:=H.out.below;rwa[HP.out]at this
   by_cases hlt:a<5
   ·obtain⟨nd,hnd⟩:∃nd,n.nodes[a]? =some nd:=⟨_,List.getElem?_eq_getElem (by rw[<-E1.out];exact hlt)⟩
    obtain⟨u,hu⟩:∃u,n.links[a * 5+a]? =some u:=⟨_,List.getElem?_eq_getElem (by rw[<-E2.out];omega)⟩
    have eN:aD n (a:Int)=nd:=by unfold aD;rw[List.getD_eq_getElem?_getD,Int.toNat_natCast,hnd];rfl
    have eW:=xK hu;obtain⟨g1,xk,ck,fk,rfl,_,_,_,_,_,b0,_⟩:=gM N1.out hnd;obtain⟨g2,rfl,_,l0⟩:=oK N2.out hu;replace b0:=cell_later hWB b0;replace l0:=cell_later hWB l0;obtain⟨q,hq⟩:=nm_ (a * 5+a);rw[<-hq]at l0;obtain⟨W,hW⟩:=nm_ wr.drew;have h2:=H.out.drew;rw[<-hW]at h2;have EW:=hd_ hW;have H2:=hd_ h2;have hWB2:Below w.heap.size w W:=by have:=h2.below;rwa[HP.out]at this
    have C0:Hid (bD W (b4L p1 (.slice (some ⟨g1,0,none⟩) 5 c1) (.slice (some ⟨g2,0,none⟩) 25 c2) (.slice x3 k3 c3) (.slice x4 5 c4)++[(⟨g1,a * 5,none⟩,.int .i64 nd.born),(⟨g2,q,none⟩,.bool u)])):=hd_ (by
          obtain⟨a0,a1,a2,a3⟩:=h2.cells4
          rw[hW]
          exact⟨by rw[<-hW];exact a0,by rw[<-hW];exact a1,by rw[<-hW];exact a2,by rw[<-hW];exact a3,b0,l0,trivial⟩)
    obtain⟨s1,hs1⟩:=nm_ (in6 nd.born 1 20);obtain⟨s2,hs2⟩:=nm_ (kY n (a:Int));have SE:Hid (oI n (a:Int)=(s1&&(s2&&((u==false)&&(List.range a).all fun b=>fD n (a:Int) (b:Int)==fD n (b:Int) (a:Int))))):=hd_ (by unfold oI;rw[eN,eW,hs1,hs2,Int.toNat_natCast]);have K1:=hd_ (qP hs1)
    have K2:=hd_ (fun (q:s1=true)=>show Calls prog 86 #[.agg #[.slice (some ⟨g1,0,none⟩) 5 c1,.slice (some ⟨g2,0,none⟩) 25 c2,.slice x3 k3 c3,.slice x4 5 c4],iv (a:Int)] W fun r w'=>r=.returned (.bool s2)/\Below W.heap.size W w' by
          have:=cO.1 (hs1.symm.trans q)
          rw[hs2]
          exact aEi W (HN.out.below hWB2 lr_) E1.out.symm E4.out.symm hlt (by rw[eN];exact this))
    have K3:=hd_ (fun W=>tY W (a:=(a:Int)) (b:=(a:Int)) o_ (q:=q) o_);have k0:(0:Int)<=(a:Int):=o_;have k1':(a:Int)<5:=o_;have kl0:(0:Int)<=(q:Int):=o_;have kl1:(q:Int)<25:=o_;clear hnd hu eN eW hWB b0 l0 hW hWB2 hs1 hs2 h2 hq;refine aK7 (a:=s1) (b:=s2) (c:= !u) ?l1 ?l2 ?l3 ?ok
    case ok=>
     intro e1 e2 e3;subst e1 e2;obtain rfl:u=false:=by simpa using e3
     have K2a:=hd_ (K2.out rfl);clear e3 K2;go_wp2
     refine aC 99 (.tk 0 6 (.alt 6 (.tk 7 4 (.alt 11 (.tk 12 7 (.alt 19 (.tk 20 3 .done) .nomore)) .nomore)) .nomore)) (fun w'=>bD w' (b4L p1 (.slice (some ⟨g1,0,none⟩) 5 c1) (.slice (some ⟨g2,0,none⟩) 25 c2) (.slice x3 k3 c3) (.slice x4 5 c4)++[(⟨g1,a * 5,none⟩,.int .i64 nd.born),(⟨g2,q,none⟩,.bool false)])) kr_ kr_ (fun _ _ _ _ _ h=>h) (by rw[<-EW.out];exact C0.out) ?_
     rw[<-EW.out]
     repeat (first|refine tC_ ?_|refine tB_ ?_)
     refine aB r_ (fun K' hK=>?_);go_simp;refine (K1.out W).mono ?_;rintro e' w' ⟨rfl,hw'⟩;rw[hw'];clear hw' w';refine hK _ _ (.inr C0.out) ?_;clear hK K'
     try refine tP_ ?_
     repeat (first|refine tC_ ?_|refine tB_ ?_)
     refine aB r_ (fun K' hK=>?_);go_simp;refine K2a.out.mono ?_;rintro e' w3 ⟨rfl,hb⟩;have C1:=hd_ (C0.out.below hb);have H3:=hd_ (H2.out.later hb);clear hb K2a;refine hK _ _ (.inr C1.out) ?_;clear hK K'
     try refine tP_ ?_
     repeat (first|refine tC_ ?_|refine tB_ ?_)
     refine aB r_ (fun K' hK=>?_);go_simp;refine (K3.out w3).mono ?_;rintro e' w' ⟨rfl,hw'⟩;rw[<-hw'];clear hw' w';refine hK _ _ (.inr C1.out) ?_;clear hK K'
     try refine tP_ ?_
     repeat (first|refine tC_ ?_|refine tB_ ?_)
     refine aG ?_;go_wp2;clear C0 C1 H H2 EW K1 K3;go_loopw [4] (fun z wr=>∃b:Nat,b<=a/\z=.int .i64 (b:Int)/\(∀c:Nat,c<b->fD n (a:Int) (c:Int)=fD n (c:Int) (a:Int))/\M p1 w wr [bO p1 30 #[.slice (some ⟨g1,0,none⟩) 5 c1,.slice (some ⟨g2,0,none⟩) 25 c2,.slice x3 k3 c3,.slice x4 5 c4]]) (fun z _=>a - (intOf z).toNat)
     case atStart=>exact⟨0,Nat.zero_le _,rfl,fun b h=>absurd h (Nat.not_lt_zero _),H3.out⟩
     case round=>
      clear H3;obtain⟨b,hba,rfl,hsym,hm⟩:=hrel;have SY:=hd_ hsym;have H:=hd_ hm;clear hsym hm;have hWB:Below w.heap.size w wr:=by have:=H.out.below;rwa[HP.out]at this
      by_cases hblt:b<a
      ·obtain⟨ua,hua⟩:∃u,n.links[a * 5+b]? =some u:=⟨_,List.getElem?_eq_getElem (by rw[<-E2.out];omega)⟩
       obtain⟨ub,hub⟩:∃u,n.links[b * 5+a]? =some u:=⟨_,List.getElem?_eq_getElem (by rw[<-E2.out];omega)⟩
       have eW1:=hd_ (xK hua);have eW2:=hd_ (xK hub);obtain⟨_,eg,_,l1⟩:=oK N2.out hua;cases eg;obtain⟨_,eg,_,l2⟩:=oK N2.out hub;cases eg;replace l1:=cell_later hWB l1;replace l2:=cell_later hWB l2;obtain⟨r1,hr1⟩:=nm_ (a * 5+b);obtain⟨r2,hr2⟩:=nm_ (b * 5+a);rw[<-hr1]at l1;rw[<-hr2]at l2;obtain⟨W,hW⟩:=nm_ wr.drew;have h2:=H.out.drew;rw[<-hW]at h2;have EW:=hd_ hW
       have H2:=hd_ h2;have C0:Hid (bD W (b4L p1 (.slice (some ⟨g1,0,none⟩) 5 c1) (.slice (some ⟨g2,0,none⟩) 25 c2) (.slice x3 k3 c3) (.slice x4 5 c4)++[(⟨g2,r1,none⟩,.bool ua),(⟨g2,r2,none⟩,.bool ub)])):=hd_ (by
                obtain⟨a0,a1,a2,a3⟩:=h2.cells4
                rw[hW]
                exact⟨by rw[<-hW];exact a0,by rw[<-hW];exact a1,by rw[<-hW];exact a2,by rw[<-hW];exact a3,l1,l2,trivial⟩)
       have K3:=hd_ (fun W=>tY W (a:=(a:Int)) (b:=(b:Int)) o_ (q:=r1) o_);have K4:=hd_ (fun W=>tY W (a:=(b:Int)) (b:=(a:Int)) o_ (q:=r2) o_);have kb0:(0:Int)<=(r1:Int):=o_;have kb1:(r1:Int)<25:=o_;have kc0:(0:Int)<=(r2:Int):=o_;have kc1:(r2:Int)<25:=o_;have ib:(b:Int)<(a:Int):=o_;clear hua hub hWB l1 l2 hW h2 hr1 hr2;go_wp2
       refine aC 99 (.tk 0 4 (.tk 7 4 (.alt 4 (.tk 5 2 (.alt 11 (.tk 12 3 .done) .nomore)) .nomore))) (fun w'=>bD w' (b4L p1 (.slice (some ⟨g1,0,none⟩) 5 c1) (.slice (some ⟨g2,0,none⟩) 25 c2) (.slice x3 k3 c3) (.slice x4 5 c4)++[(⟨g2,r1,none⟩,.bool ua),(⟨g2,r2,none⟩,.bool ub)])) kr_ kr_ (fun _ _ _ _ _ h=>h) (by rw[<-EW.out];exact C0.out) ?_;rw[<-EW.out]
       repeat (first|refine tC_ ?_|refine tB_ ?_)
       refine aB r_ (fun K' hK=>?_);go_simp;refine (K3.out W).mono ?_;rintro e' w' ⟨rfl,hw'⟩;rw[<-hw'];clear hw' w';refine hK _ _ (.inr C0.out) ?_;clear hK K'
       try refine tP_ ?_
       repeat (first|refine tC_ ?_|refine tB_ ?_)
       refine aB r_ (fun K' hK=>?_);go_simp;refine (K4.out W).mono ?_;rintro e' w' ⟨rfl,hw'⟩;rw[<-hw'];clear hw' w';refine hK _ _ (.inr C0.out) ?_;clear hK K'
       try refine tP_ ?_
       repeat (first|refine tC_ ?_|refine tB_ ?_)
       refine aG ?_;clear K3 K4 EW H;have SY2:Hid (ua=ub->∀c:Nat,c<b+1->fD n (a:Int) (c:Int)=fD n (c:Int) (a:Int)):=hd_ fun hq c hc=>by
        by_cases q:c<b
        ·exact SY.out c q
        ·obtain rfl:c=b:=o_
         rw[eW1.out,eW2.out,hq]
       have F:Hid (ua≠ub->jW n=false):=hd_ fun hq=>vW hlt (by
                rw[SE.out]
                simp only[Bool.true_and,beq_self_eq_true]
                rw[lM (i:=b) (a:=b) (p:=fun b:Nat=>fD n (a:Int) (b:Int)==fD n (b:Int) (a:Int)) (by rw[List.getElem?_range hblt]) (by rw[eW1.out,eW2.out];simpa using hq)])
       clear C0 eW1 eW2 SY;rcases ua with _|_<;>rcases ub with _|_
       case false.false=>
        exact zBA
       case true.true=>
        exact zBA
       all_goals
        have F:=hd_ (F.out (by simp));clear SY2;go_wp2;go_ret;exact⟨by rw[F.out];rfl,by rw[<-HP.out];exact H2.out.below⟩
      ·obtain rfl:a=b:=o_
       have ALL2:Hid (∀c:Nat,c<a+1->oI n c=true):=hd_ fun c hc=>by
        by_cases q:c<a
        ·exact ALL.out c q
        ·obtain rfl:c=a:=o_
         rw[SE.out,List.all_eq_true.2 fun d hd=>by rw[SY.out d (List.mem_range.1 hd)];simp]
         rfl
       go_wp2;go_roundw
       case rel=>exact⟨a+1,o_,gn_,ALL2.out,H.out⟩
       case measure=>simp[intOf];omega
    case l1=>
     intro e1;subst e1;clear K2;have F:=hd_ (vW hlt (by rw[SE.out];rfl));go_wp2
     refine aC 99 (.tk 0 6 (.alt 6 (.tk 7 4 (.alt 11 (.tk 12 7 (.alt 19 (.tk 20 3 .done) .nomore)) .nomore)) .nomore)) (fun w'=>bD w' (b4L p1 (.slice (some ⟨g1,0,none⟩) 5 c1) (.slice (some ⟨g2,0,none⟩) 25 c2) (.slice x3 k3 c3) (.slice x4 5 c4)++[(⟨g1,a * 5,none⟩,.int .i64 nd.born),(⟨g2,q,none⟩,.bool u)])) kr_ kr_ (fun _ _ _ _ _ h=>h) (by rw[<-EW.out];exact C0.out) ?_
     rw[<-EW.out]
     repeat (first|refine tC_ ?_|refine tB_ ?_)
     refine aB r_ (fun K' hK=>?_);go_simp;refine (K1.out W).mono ?_;rintro e' w' ⟨rfl,hw'⟩;rw[hw'];clear hw' w';refine hK _ _ (.inr C0.out) ?_;clear hK K'
     try refine tP_ ?_
     repeat (first|refine tC_ ?_|refine tB_ ?_)
     refine aB r_ (fun K' hK=>?_);go_simp;refine hK _ _ (.inr C0.out) ?_;clear hK K'
     try refine tP_ ?_
     repeat (first|refine tC_ ?_|refine tB_ ?_)
     refine aB r_ (fun K' hK=>?_);go_simp;refine hK _ _ (.inr C0.out) ?_;clear hK K'
     try refine tP_ ?_
     repeat (first|refine tC_ ?_|refine tB_ ?_)
     refine aG ?_;go_wp2;go_ret;exact⟨by rw[F.out];rfl,by rw[<-HP.out];exact H2.out.below⟩
    case l2=>
     intro e1 e2;subst e1 e2;have K2a:=hd_ (K2.out rfl);clear K2;have F:=hd_ (vW hlt (by rw[SE.out];rfl));go_wp2
     refine aC 99 (.tk 0 6 (.alt 6 (.tk 7 4 (.alt 11 (.tk 12 7 (.alt 19 (.tk 20 3 .done) .nomore)) .nomore)) .nomore)) (fun w'=>bD w' (b4L p1 (.slice (some ⟨g1,0,none⟩) 5 c1) (.slice (some ⟨g2,0,none⟩) 25 c2) (.slice x3 k3 c3) (.slice x4 5 c4)++[(⟨g1,a * 5,none⟩,.int .i64 nd.born),(⟨g2,q,none⟩,.bool u)])) kr_ kr_ (fun _ _ _ _ _ h=>h) (by rw[<-EW.out];exact C0.out) ?_
     rw[<-EW.out]
     repeat (first|refine tC_ ?_|refine tB_ ?_)
     refine aB r_ (fun K' hK=>?_);go_simp;refine (K1.out W).mono ?_;rintro e' w' ⟨rfl,hw'⟩;rw[hw'];clear hw' w';refine hK _ _ (.inr C0.out) ?_;clear hK K'
     try refine tP_ ?_
     repeat (first|refine tC_ ?_|refine tB_ ?_)
     refine aB r_ (fun K' hK=>?_);go_simp;refine K2a.out.mono ?_;rintro e' w3 ⟨rfl,hb⟩;have C1:=hd_ (C0.out.below hb);have H3:=hd_ (H2.out.later hb);clear hb K2a;refine hK _ _ (.inr C1.out) ?_;clear hK K'
     try refine tP_ ?_
     repeat (first|refine tC_ ?_|refine tB_ ?_)
     refine aB r_ (fun K' hK=>?_);go_simp;exact zBH
    case l3=>
     intro e1 e2 e3;subst e1 e2;obtain rfl:u=true:=by simpa using e3
     clear e3;have K2a:=hd_ (K2.out rfl);clear K2;have F:=hd_ (vW hlt (by rw[SE.out];rfl));go_wp2
     refine aC 99 (.tk 0 6 (.alt 6 (.tk 7 4 (.alt 11 (.tk 12 7 (.alt 19 (.tk 20 3 .done) .nomore)) .nomore)) .nomore)) (fun w'=>bD w' (b4L p1 (.slice (some ⟨g1,0,none⟩) 5 c1) (.slice (some ⟨g2,0,none⟩) 25 c2) (.slice x3 k3 c3) (.slice x4 5 c4)++[(⟨g1,a * 5,none⟩,.int .i64 nd.born),(⟨g2,q,none⟩,.bool true)])) kr_ kr_ (fun _ _ _ _ _ h=>h) (by rw[<-EW.out];exact C0.out) ?_
     rw[<-EW.out]
     repeat (first|refine tC_ ?_|refine tB_ ?_)
     refine aB r_ (fun K' hK=>?_);go_simp;refine (K1.out W).mono ?_;rintro e' w' ⟨rfl,hw'⟩;rw[hw'];clear hw' w';refine hK _ _ (.inr C0.out) ?_;clear hK K'
     try refine tP_ ?_
     repeat (first|refine tC_ ?_|refine tB_ ?_)
     refine aB r_ (fun K' hK=>?_);go_simp;refine K2a.out.mono ?_;rintro e' w3 ⟨rfl,hb⟩;have C1:=hd_ (C0.out.below hb);have H3:=hd_ (H2.out.later hb);clear hb K2a;refine hK _ _ (.inr C1.out) ?_;clear hK K'
     try refine tP_ ?_
     repeat (first|refine tC_ ?_|refine tB_ ?_)
     refine aB r_ (fun K' hK=>?_);go_simp;refine (K3.out w3).mono ?_;rintro e' w' ⟨rfl,hw'⟩;rw[<-hw'];clear hw' w';exact zBH
   ·obtain rfl:a=5:=o_
    simp only[Int.cast_ofNat_Int];have SHP:=hd_ (aEx E1.out.symm E4.out.symm ALL.out);clear hWB;go_wp2;go_loopw [5] (fun z wr=>∃a:Nat,a<=5/\z=.int .i64 (a:Int)/\(∀b:Nat,b<a->nN n b=true)/\M p1 w wr [bO p1 30 #[.slice x1 5 c1,.slice x2 25 c2,.slice x3 k3 c3,.slice x4 5 c4]]) (fun z _=>5 - (intOf z).toNat)
    case atStart=>exact⟨0,Nat.zero_le _,rfl,fun b h=>absurd h (Nat.not_lt_zero _),H.out⟩
    case round=>
     clear H;obtain⟨a,ha5,rfl,hnod,hm⟩:=hrel;have NOD:=hd_ hnod;have H:=hd_ hm;clear hnod hm;have hWB:Below w.heap.size w wr:=by have:=H.out.below;rwa[HP.out]at this
     by_cases hlt:a<5
     ·obtain⟨s1,hs1⟩:=nm_ (nN n (a:Int))
      have hborn:1<=(aD n (a:Int)).born:=by
       have:=ALL.out a hlt;unfold oI at this;simp only[Bool.and_eq_true,cO]at this;exact this.1.1
      have K1:=aFs wr (HN.out.below hWB lr_) SHP.out hlt hborn;rw[<-hs1]at K1;have KN:=hd_ K1;have k0:(0:Int)<=(a:Int):=o_;have k1':(a:Int)<5:=o_;obtain⟨a0,a1,a2,a3⟩:=H.out.cells4;have S1:=hd_ hs1;clear hs1 hborn K1 hWB
      go_wp2_with fail
      refine KN.out.mono ?_;rintro e' w3 ⟨rfl,hb⟩;have H3:=hd_ (H.out.later hb);clear hb KN a0 a1 a2 a3 H;cases s1 with
      |false=>
       have F:=hd_ (aJK hlt S1.out.symm);exact zA5
      |true=>
       have NOD2:Hid (∀c:Nat,c<a+1->nN n c=true):=hd_ fun c hc=>by
        by_cases q:c<a
        ·exact NOD.out c q
        ·obtain rfl:c=a:=o_
         exact S1.out.symm
       go_wp2;go_roundw
       case rel=>exact⟨a+1,o_,gn_,NOD2.out,H3.out⟩
       case measure=>simp[intOf];omega
     ·obtain rfl:a=5:=o_
      simp only[Int.cast_ofNat_Int];clear hWB;go_wp2;go_loopw [6] (fun z wr=>∃i:Nat,i<=k3/\z=.int .i64 (i:Int)/\(∀(b:Nat) (x:Wd),b<i->n.words[b]? =some x->iO n x=true)/\M p1 w wr [bO p1 30 #[.slice x1 5 c1,.slice x2 25 c2,.slice x3 k3 c3,.slice x4 5 c4]]) (fun z _=>k3 - (intOf z).toNat)
      case atStart=>exact⟨0,Nat.zero_le _,rfl,fun b x h=>absurd h (Nat.not_lt_zero _),H.out⟩
      case round=>
       clear H;obtain⟨i,hi3,rfl,hwd,hm⟩:=hrel;have WDS:=hd_ hwd;have H:=hd_ hm;clear hwd hm;have hWB:Below w.heap.size w wr:=by have:=H.out.below;rwa[HP.out]at this
       obtain⟨a0,a1,a2,a3⟩:=H.out.cells4
       by_cases hlt:i<k3
       ·obtain⟨x,hx⟩:∃x,n.words[i]? =some x:=⟨_,List.getElem?_eq_getElem (by rw[<-E3.out];exact hlt)⟩
        obtain⟨g3,xk,ck,fk,rfl,_,_,rk,_,_,y0,y1,y2,y3,y4,y5⟩:=uP N3.out hx;replace y0:=cell_later hWB y0;replace y1:=cell_later hWB y1;replace y2:=cell_later hWB y2;replace y3:=cell_later hWB y3;replace y4:=cell_later hWB y4;replace y5:=cell_later hWB y5;obtain⟨W,hW⟩:=nm_ wr.drew;have h2:=H.out.drew;rw[<-hW]at h2;have EW:=hd_ hW;have H2:=hd_ h2
        have hWB2:Below w.heap.size w W:=by have:=h2.below;rwa[HP.out]at this
        have C0:Hid (bD W (b4L p1 (.slice x1 5 c1) (.slice x2 25 c2) (.slice (some ⟨g3,0,none⟩) k3 c3) (.slice x4 5 c4)++[(⟨g3,i * 6,none⟩,.int .i64 x.kind),(⟨g3,i * 6+1,none⟩,.int .i64 x.src),(⟨g3,i * 6+2,none⟩,.int .i64 x.dst),(⟨g3,i * 6+3,none⟩,.int .i64 x.beacon),(⟨g3,i * 6+4,none⟩,.int .i64 x.level),(⟨g3,i * 6+5,none⟩,.slice xk x.known.length ck)])):=hd_ (by
                  rw[hW]
                  exact⟨a0,a1,a2,a3,y0,y1,y2,y3,y4,y5,trivial⟩)
        obtain⟨s1,hs1⟩:=nm_ (iO n x);have K1:=aEc W (x:=x) (HN.out.below hWB2 lr_) SHP.out ((aN aX _ _).below rk hWB2 lr_);rw[<-hs1]at K1;have KN:=hd_ K1;have k0:(0:Int)<=(i:Int):=o_;have k1':(i:Int)<(k3:Int):=o_;have S1:=hd_ hs1;have HX:=hd_ hx;clear hs1 K1 hWB hWB2 hx y0 y1 y2 y3 y4 y5 h2 hW rk;go_wp2;clear a0 a1 a2 a3
        refine aC 99 (.tk 0 6 (.alt 6 (.take 7 .done) .nomore)) (fun w'=>bD w' (b4L p1 (.slice x1 5 c1) (.slice x2 25 c2) (.slice (some ⟨g3,0,none⟩) k3 c3) (.slice x4 5 c4)++[(⟨g3,i * 6,none⟩,.int .i64 x.kind),(⟨g3,i * 6+1,none⟩,.int .i64 x.src),(⟨g3,i * 6+2,none⟩,.int .i64 x.dst),(⟨g3,i * 6+3,none⟩,.int .i64 x.beacon),(⟨g3,i * 6+4,none⟩,.int .i64 x.level),(⟨g3,i * 6+5,none⟩,.slice xk x.known.length ck)])) kr_ kr_ (fun _ _ _ _ _ h=>h) (by rw[<-EW.out];exact C0.out) ?_
        rw[<-EW.out]
        repeat (first|refine tC_ ?_|refine tB_ ?_)
        refine aB r_ (fun K' hK=>?_);go_simp;refine KN.out.mono ?_;rintro e' w3 ⟨rfl,hb⟩;have C1:=hd_ (C0.out.below hb);have H3:=hd_ (H2.out.later hb);clear hb KN;refine hK _ _ (.inr C1.out) ?_;clear hK K'
        try refine tP_ ?_
        repeat (first|refine tC_ ?_|refine tB_ ?_)
        refine aG ?_;clear C0 C1 EW H H2;cases s1 with
        |false=>
         have F:=hd_ (aKl HX.out S1.out.symm);exact zA5
        |true=>
         have WDS2:Hid (∀(b:Nat) (y:Wd),b<i+1->n.words[b]? =some y->iO n y=true):=hd_ fun c y hc hy=>by
          by_cases q:c<i
          ·exact WDS.out c y q hy
          ·obtain rfl:c=i:=o_
           rw[HX.out]at hy;cases hy;exact S1.out.symm
         go_wp2;go_roundw
         case rel=>exact⟨i+1,o_,gn_,WDS2.out,H3.out⟩
         case measure=>simp[intOf];omega
       ·obtain rfl:i=k3:=o_
        have EQ:=hd_ (aLz (n:=n) (by rw[SB.out];rfl) ALL.out NOD.out (fun b x hx=>WDS.out b x (by rw[E3.out];exact (List.getElem?_eq_some_iff.1 hx).1) hx));obtain⟨r0,hr0⟩:∃nd,n.nodes[0]? =some nd:=⟨_,List.getElem?_eq_getElem (by rw[<-E1.out];decide)⟩
        have e0:aD n 0=r0:=by unfold aD;rw[List.getD_eq_getElem?_getD,show (0:Int).toNat=0 from rfl,hr0];rfl
        rw[e0]at EQ;obtain⟨g1,xk,ck,fk,rfl,_,_,_,_,_,z0,z1,z2,z3,z4⟩:=gM N1.out hr0;replace z2:=cell_later hWB z2;simp only[Nat.zero_mul,Nat.zero_add]at z2;obtain⟨s1,hs1⟩:=nm_ (in6 r0.beacon 0 1000);rw[<-hs1]at EQ;have K1:=hd_ (qP hs1);clear hs1 hr0 e0 z0 z1 z3 z4 hWB
        go_wp2_with fail
        refine (K1.out wr).mono ?_;rintro e' w' ⟨rfl,hw'⟩;rw[hw'];clear hw' w';go_wp2;go_ret;exact⟨by rw[EQ.out];rfl,by rw[<-HP.out];exact H.out.below⟩
 all_goals
  first
   |(intro e1 e2 e3 e4;subst e1 e2 e3 e4)
   |(intro e1 e2 e3;subst e1 e2 e3)
   |(intro e1 e2;subst e1 e2)
   |(intro e1;subst e1)
  have F:=hd_ (aJj (n:=n) (by rw[SB.out];simp));go_wp2;go_ret;rw[<-hw1];exact⟨by rw[F.out];rfl,by rw[<-HP.out];exact H.out.below⟩
def aBG (k:Int × Int):Value:=.agg #[iv k.1,iv k.2]
def vX (k:Int × Int):Prop:=(-9223372036854775808<=k.1/\k.1<9223372036854775808)/\(-9223372036854775808<=k.2/\k.2<9223372036854775808)
theorem aM4:aEn prog 130 vX aBG:=by
 refine⟨Go.Maps.Keyed.of_law (deep_law_gate kr_ (by decide+kernel) (by decide+kernel) kr_ kr_),fun k hk=>?_,fun x y h=>?_⟩
 ·obtain⟨⟨a0,a1⟩,b0,b1⟩:=hk
  have c2:prog.cellsOf 130=2:=by kernel_rfl
  have c1:prog.cellsOf 3=1:=by kernel_rfl
  have ht:prog.keyType 130=true:=by kernel_rfl
  have hn:1<=prog.types.size:=by decide+kernel
  obtain⟨d,hd⟩:∃d,prog.types.size+1=d+2:=⟨prog.types.size - 1,by omega⟩
  have w1:(Lit.int .i64 k.1).wf=true:=by simp[Lit.wf,IntKind.min,IntKind.max,IntKind.bits,IntKind.signed];omega
  have w2:(Lit.int .i64 k.2).wf=true:=by simp[Lit.wf,IntKind.min,IntKind.max,IntKind.bits,IntKind.signed];omega
  refine⟨.string (keyBytes [.int .i64 k.1,.int .i64 k.2]),?_⟩;have hl:prog.keyLits (d+2) 130 [.int .i64 k.1,.int .i64 k.2]=some [.int .i64 k.1,.int .i64 k.2]:=by
   simp only[Program.keyLits,underlying130,c2];simp[Program.keyLits,c1,underlying3,w1,w2]
  have hf:(aBG k).formed prog 130=true:=by unfold aBG Value.formed;simp only[underlying130,c2];rfl
  have hc:(aBG k).cells.toList=[.int .i64 k.1,.int .i64 k.2]:=rfl;simp only[keyOf,underlying130,ht,hf,hd,hc,hl,Bool.and_self,if_true,Option.map_some]
 ·unfold aBG at h
  injection h with h
  have h':=congrArg Array.toList h;simp at h';exact Prod.ext h'.1 h'.2
def rG (g:Int × Int->Option Value) (lk:Int->Int->Bool):Prop:=∀k,(g k).getD (.bool false)=.bool (lk k.1 k.2)
theorem aNc (w:World):(zeroValue 4).run prog w=.ok (.bool false) w:=by
 obtain⟨i,hi,hz,_⟩:=info_parts aMl.info;simp[zeroValue,typeInfo,hi,hz]
theorem aIC {B m:Nat} {w0 w:World} {l:List Ch} {g:Int × Int->Option Value} {lk:Int->Int->Bool} (h:M B w0 w (yO vX aBG m g::l)) (hlk:rG g lk) (a b:Int) (hk:vX (a,b)):
  (Instr.lookup 100 (.map (some m)) (.agg #[iv a,iv b]) false).run prog w=.ok (.bool (lk a b)) w:=by
 have:=h.look aM4 underlying100 (aNc w) hk false;rw[hlk (a,b)]at this;exact this
theorem nE (w:World) (a:Int) (h:in6 a 0 4=true):Calls prog 95 #[iv a] w fun e w'=>e=.returned (.bool true)/\w=w':=by
 obtain⟨h0,h1⟩:0<=a/\a<=4:=by simpa[in6]using h
 have h2:a<5:=o_;clear h h1;go_enter func95,ntmps95;exact zt
theorem tC (w:World) (a:Int) (h:in6 a 0 4=false):Calls prog 95 #[iv a] w fun e w'=>e=.returned (.bool false)/\w=w':=by
 have h':¬(0<=a/\a<=4):=by simpa[in6]using h
 clear h
 by_cases h0:0<=a
 ·have h1:decide (a<5)=false:=by simp;omega
  clear h';go_enter func95,ntmps95;exact zt
 ·have h1:decide (0<=a)=false:=by simp;omega
  clear h' h0;go_enter func95,ntmps95;exact zt
def two (a b:Int):Bool:=(in6 a 0 4&&in6 b 0 4)&&decide (a≠b)
theorem aCy (w:World) (a b:Int):Calls prog 70 #[iv a,iv b] w fun e w'=>e=.returned (.bool (two a b))/\w=w':=by
 cases ga:in6 a 0 4 with
 |false=>
  have e1:two a b=false:=by unfold two;rw[ga];rfl
  rw[e1];have G:=hd_ ga;clear ga e1;go_enter func70,ntmps70
  go_wp2_with (go_at_call 95;(with_reducible refine (tC _ a G.out).mono ?_);rintro e w' ⟨rfl,rfl⟩)
  go_ret;exact⟨rfl,rfl⟩
 |true=>
  have GA:=hd_ ga;cases gb:in6 b 0 4 with
  |false=>
   have e1:two a b=false:=by unfold two;rw[ga,gb];rfl
   rw[e1];have GB:=hd_ gb;clear ga gb e1;go_enter func70,ntmps70
   go_wp2_with (first|(go_at_call 95;(with_reducible refine (nE _ a GA.out).mono ?_);rintro e w' ⟨rfl,rfl⟩)|(go_at_call 95;(with_reducible refine (tC _ b GB.out).mono ?_);rintro e w' ⟨rfl,rfl⟩))
   go_ret;exact⟨rfl,rfl⟩
  |true=>
   have GB:=hd_ gb;have e1:two a b=decide (a≠b):=by unfold two;rw[ga,gb];rfl
   rw[e1];clear ga gb e1;go_enter func70,ntmps70
   go_wp2_with (first|(go_at_call 95;(with_reducible refine (nE _ a GA.out).mono ?_);rintro e w' ⟨rfl,rfl⟩)|(go_at_call 95;(with_reducible refine (nE _ b GB.out).mono ?_);rintro e w' ⟨rfl,rfl⟩))
   go_ret;exact⟨aH (by by_cases q:a=b<;>simp[q]),rfl⟩
theorem aCu (w:World) (p:Nat) (h:p<25):Calls prog 149 #[iv p] w fun e w'=>e=.returned (.agg #[iv ((p / 5:Nat):Int),iv ((p % 5:Nat):Int)])/\Below w.heap.size w w':=by
 have h0:(0:Int)<=(p:Int):=o_;have h1:(p:Int)<25:=o_;have H:=hd_ ((M.start w).alloc #[iv ((p:Int) / 5),iv ((p:Int) % 5)] 130);clear h;go_enter func149,ntmps149;go_wp2;obtain⟨c0,c1⟩:=H.out.cells2;exact bodyPost_ret (v:=.agg #[iv ((p:Int) / 5),iv ((p:Int) % 5)]) (by simp[results,results149,go_sem,c0,c1]) rfl ⟨by simp,H.out.below⟩
def upto {α:Type} (xs:List α):List (Option α):=xs.map some++List.replicate (5 - xs.length) none
def lkP (ls:List Bool) (k:Nat) (a b:Int):Bool:=decide ((0<=a/\a<=4)/\(0<=b/\b<=4)/\a * 5+b<k)&&ls.getD (a * 5+b).toNat false
theorem aKx (ls:List Bool) (a b:Int):lkP ls 0 a b=false:=by
 unfold lkP;rw[decide_eq_false o_];rfl
theorem aKD {ls:List Bool} {k:Nat} (hk:k<25) {u:Bool} (hu:ls.getD k false=u) (a b:Int):lkP ls (k+1) a b=if (a,b)=(((k:Int) / 5),((k:Int) % 5))then u else lkP ls k a b:=by
 by_cases h:(a,b)=(((k:Int) / 5),((k:Int) % 5))
 ·rw[if_pos h]
  simp only[Prod.mk.injEq]at h;obtain⟨rfl,rfl⟩:=h;unfold lkP;rw[decide_eq_true o_,Bool.true_and, <-hu]
  congr 1
  omega
 ·rw[if_neg h]
  simp only[Prod.mk.injEq]at h;unfold lkP
  congr 1
  exact decide_eq_decide.2 o_
theorem aGX {g:Int × Int->Option Value} {ls:List Bool} {k:Nat} (hk:k<25) {u:Bool} (hu:ls.getD k false=u) (h:rG g (lkP ls k)):rG (fun y=>if y=(((k:Int) / 5),((k:Int) % 5))then some (.bool u)else g y) (lkP ls (k+1)):=fun y=>by
 rw[aKD hk hu];simp only
 by_cases q:y=(((k:Int) / 5),((k:Int) % 5))
 ·rw[if_pos q,if_pos (by rw[<-q])];rfl
 ·rw[if_neg q,if_neg (show ¬(y.1,y.2)=_ from q)]
  exact h y
theorem aDs (w:World) {x:Option Addr} {c:Nat} {ls:List Bool} {f:List Nat} (h:qM TY w [.slice x 25 c] ls f):
  Calls prog 89 #[.slice x 25 c] w fun r w'=>∃m g,r=.returned (.map (some m))/\M w.heap.size w w' [yO vX aBG m g]/\rG g (lkP ls 25):=by
 have hl:25=ls.length:=(aK h).1;have H1:=hd_ h;have HL:=hd_ hl;clear h hl;have h0:=(M.start w).map vX aBG;have H0:=hd_ h0;clear h0;have hmm:=@run_makeMap prog;go_enter func89,ntmps89;go_wp2;clear hmm;obtain⟨m,hm⟩:=nm_ w.heap.size;have HM:=hd_ hm;rw[<-hm]at H0 ⊢;clear hm;generalize w.alloc (.map #[] 0)=w1 at H0 ⊢;have l0:(0:Int)<=25:=by decide
 go_loopw [9] (fun z wr=>∃(k:Nat) (g:Int × Int->Option Value),k<=25/\z=.int .i64 (k:Int)/\M m w wr [yO vX aBG m g]/\rG g (lkP ls k)) (fun z _=>25 - (intOf z).toNat)
 case atStart=>exact⟨0,fun _=>none,Nat.zero_le _,rfl,H0.out,fun y=>by rw[aKx];rfl⟩
 case round=>
  clear H0;obtain⟨k,g,hk,rfl,hm,hg⟩:=hrel;have H:=hd_ hm;have HG:=hd_ hg;clear hm hg
  by_cases hlt:k<25
  ·obtain⟨u,hu⟩:∃u,ls[k]? =some u:=⟨_,List.getElem?_eq_getElem (by rw[<-HL.out];exact hlt)⟩
   obtain⟨g1,rfl,_,c0⟩:=oK H1.out hu;have HU:Hid (ls.getD k false=u):=hd_ (by rw[List.getD_eq_getElem?_getD,hu];rfl);replace c0:=cell_later (by have:=H.out.below;rwa[HM.out]at this) c0;have KE:=hd_ (fun W=>aCu W k hlt);have EO:=hd_ (show vX ((k:Int) / 5,(k:Int) % 5)from⟨⟨by simp;omega,by simp;omega⟩,⟨by simp;omega,by simp;omega⟩⟩);have k0:(0:Int)<=(k:Int):=o_;have k1:(k:Int)<25:=o_
   clear hu
   go_wp2_with fail
   refine (KE.out _).mono ?_;rintro e w4 ⟨rfl,hb⟩;have H2:=hd_ (H.out.later hb);clear hb H KE c0
   go_wp2_with (at_mapUpdate;go_loud (refine aEy aM4 underlying100 H2.out EO.out rfl rfl rfl rfl rfl ?_))
   intro w5 h5 hs5;have H5:=hd_ h5;have G5:=hd_ (aGX hlt HU.out HG.out);clear h5 hs5 H2;go_wp2;go_roundw
   case rel=>exact⟨k+1,_,o_,gn_,H5.out,G5.out⟩
   case measure=>simp[intOf];omega
  ·obtain rfl:k=25:=o_
   go_wp2;go_ret;exact⟨m,g,rfl,by rw[HM.out]at *;exact H.out,HG.out⟩
end N
end Go.Proofs.YtcblbdpdbggkbaaGreat
namespace Go.Proofs.YtcblbdpdbggkbaaGreat.N
open _root_.Go.Proofs.Tryz
open Go.RowKit Go.Sort
theorem aHv:∀{a:List Int} {lo:Int},a.Pairwise (· <·)->(∀x ∈ a,lo<=x/\x<=4)->lo<=5->(a.length:Int)<=5 - lo
 | [],lo,_,_,h=>by simp;omega
 |x::a,lo,ha,h,_=>by
  have hx:=List.pairwise_cons.1 ha;have h1:=h x List.mem_cons_self;have:=aHv (a:=a) (lo:=x+1) hx.2 (fun y hy=>⟨by have:=hx.1 y hy;omega,(h y (List.mem_cons_of_mem _ hy)).2⟩) (by omega);simp only[List.length_cons];omega
end Go.Proofs.YtcblbdpdbggkbaaGreat.N
