/-
  What the law FnExactNetKnown needs of the texts before it, part 5.
-/
import Derived.Carry
import Derived.Deep.DeepCutAuto
import Derived.Handy
import Derived.KernelRfl
import Derived.Maps.Own
import Derived.Test.YtcblbdpdbggkbaaGreatSFnExactNetKnown4
set_option maxRecDepth 100000
set_option maxHeartbeats 16000000
set_option linter.unusedVariables false
set_option linter.unusedSectionVars false
set_option linter.unusedSimpArgs false
set_option linter.unusedVariables false
set_option linter.unusedSectionVars false
set_option linter.unusedSimpArgs false
namespace Go.Proofs.YtcblbdpdbggkbaaGreat
open Go.RowKit Go.Sort
section
variable {α:Type} {A:Rep α} {e:TypeId} {size:Nat} {w w0:World} {B:Nat} {l:List Ch}
theorem aGT {z:Value} (hz:z.cells.size=size) (n:Nat):(madeCells z.cells (n * size)).toList=((List.range n).map fun _=>z.cells.toList).flatten:=by
 apply List.ext_getElem?;intro j
 by_cases hj:j<n * size
 ·have s0:0<size:=Nat.pos_of_ne_zero fun q=>by rw[q,Nat.mul_zero]at hj;omega
  obtain⟨q,r,rfl,hr,hq⟩:∃q r,j=q * size+r/\r<size/\q<n:=⟨j / size,j % size,by rw[Nat.mul_comm];exact (Nat.div_add_mod j size).symm,Nat.mod_lt _ s0,(Nat.div_lt_iff_lt_mul s0).2 hj⟩
  rw[pR (size:=size) (c:=fun _=>z.cells.toList) (fun i _=>by rw[Array.length_toList];exact hz) hq hr];have e1:(q * size+r) % size=r:=by rw[Nat.add_comm,Nat.add_mul_mod_self_right,Nat.mod_eq_of_lt hr]
  simp[madeCells,hj,hz,e1,hr]
 ·rw[List.getElem?_eq_none (by simp[madeCells];omega),List.getElem?_eq_none (by rw[qT (size:=size) (c:=fun _=>z.cells.toList) (fun i _=>by rw[Array.length_toList];exact hz)];omega)]
theorem aLl (n:Nat):((List.range n).map fun _=>([]:List Nat)).flatten=[]:=by
 induction n with
 |zero=>rfl
 |succ n ih=>rw[List.range_succ,List.map_append,List.flatten_append,ih];rfl
theorem pV {P:Program} {t:TypeId} {z:Value} {bytes:Nat} (T:SlT P t e z size bytes) (FA:A.Frame) {z0:α} (hz:∀w,A w z.cells.toList z0 []) (h:M B w0 w l)
  {ops:Array Oper} {rest:List Oper} {o:Oper} {a:Act} {Q:Exit->Act->World->Prop} (hgd:o.guard=none) {lo co:Operand} (hop:o.op=Op.makeSlice t lo co) {kl kc:IntKind} {L C:Int} (n:Nat) (hlo:a.eval lo=.int kl L) (hco:a.eval co=.int kc C) (hL:L=(n:Int)) (hC:C=(n:Int))
  (b2:bytes * n<=281474976710656) (b3:n<=maxLen) (k:∀w',M B w0 w' (iJ FA e size (.slice (some ⟨w.heap.size,0,none⟩) n n) (List.replicate n z0)::l)->Below w.heap.size w w'->wpList P ops Q rest (a.put o.dst (.slice (some ⟨w.heap.size,0,none⟩) n n)) w'):wpList P ops Q (o::rest) a w:=by
 obtain⟨i,hi,hiz,hs,hb⟩:=info_parts T.info;refine wpList_make_full w hgd lo co t hop w.heap.size e i z size T.und hi hiz hs kl kc L C n hlo hco hL hC (by rw[hb];exact b2) b3 lr_ fun w' ho hg=>?_
 have bl:Below w.heap.size w w':=⟨hg.os,hg.tape,hg.output,hg.size,fun q hq=>hg.block q hq (by simp)⟩
 rw[aGT T.zs]at ho;have lr:(List.replicate n z0).length=n:=List.length_replicate;refine k w' (h.add (f:=[w.heap.size]) bl ⟨_,fun _=>z.cells.toList,fun _=>[],rfl,by rw[lr];exact aR ho (Nat.zero_le _),fun i _=>by rw[Array.length_toList];exact T.zs,fun i x hi=>?_,?_⟩ (oF _) fun b hb=>by rw[List.mem_singleton.1 hb];exact Nat.le_refl _) bl
 ·have hx:=List.mem_of_getElem? hi
  rw[List.eq_of_mem_replicate hx];exact hz w'
 ·rw[aLl];rfl
theorem xM {xs:List α} {j n:Nat} {z:α} (hn:n=xs.length) (hj:j<n):(xs.take j++List.replicate (n - j) z)[j]? =some z:=by
 rw[List.getElem?_append_right (by rw[List.length_take];omega),List.length_take,List.getElem?_replicate,if_pos (by omega)]
theorem oA {xs:List α} {j n:Nat} {y z:α} (hn:n=xs.length) (hy:xs[j]? =some y):(xs.take j++List.replicate (n - j) z).set j y=xs.take (j+1)++List.replicate (n - (j+1)) z:=by
 have hj:j<xs.length:=(List.getElem?_eq_some_iff.1 hy).1;rw[List.set_append_right _ _ (by rw[List.length_take];omega),List.length_take,Nat.min_eq_left (by omega),Nat.sub_self,show n - j=(n - (j+1))+1 by omega,List.replicate_succ,List.set_cons_zero,List.take_add_one,hy];simp
end
theorem M.front {c:Ch} {w w0:World} {B:Nat} {l:List Ch} (h:M B w0 w (c::l)):M B w0 w [c]:=by
 obtain⟨f,hf,nd,lo⟩:=h.first;exact⟨h.below,h.low,f++[],⟨f,[],rfl,hf,rfl⟩,by rw[List.append_nil];exact nd,fun b hb=>lo b (by rw[List.append_nil]at hb;exact hb)⟩
namespace N
def vT:En:=⟨0,0,0,nT⟩
def wB:Wd:=⟨0,0,0,0,0,[]⟩
theorem mR {α:Type} {A:Rep α} {e:TypeId} {size:Nat} (w:World):mU e size A w [.slice none 0 0] [] []:=(Els.nil w 0 (fun _=>[]) fun _=>[]).rep
theorem aIv (w:World):pC w [.slice none 0 0,.slice none 0 0,.slice none 0 0,.int .i64 0,.int .i64 0,.slice none 0 0,.int .i64 0] nT []:=
 ⟨⟨none,0,0,none,0,0,none,0,0,none,0,0⟩,[],[],[],[],rfl,rfl,mR w,.inl (mR w),.inl (mR w),.inl (mR w)⟩
theorem aJq (w:World):zK w (Value.agg #[.int .i64 0,.int .i64 0,.int .i64 0,.slice none 0 0,.slice none 0 0,.slice none 0 0,.int .i64 0,.int .i64 0,.slice none 0 0,.int .i64 0]).cells.toList vT []:=kL.2 ⟨_,rfl,aIv w⟩
theorem aFi (w:World):aFT TY w (Value.agg #[.int .i64 0,.slice none 0 0,.int .i64 0,.int .i64 0,.int .i64 0]).cells.toList aFP []:=lX.2 ⟨_,rfl,mR w⟩
theorem aHC (w:World):aGi TY w (Value.agg #[.int .i64 0,.int .i64 0,.int .i64 0,.int .i64 0,.int .i64 0,.slice none 0 0]).cells.toList wB []:=lU.2 ⟨_,rfl,mR w⟩
structure aAC (es:List En):Prop where
 len:es.length<=1048576
 sums:∀e ∈ es,qD e.s
structure aGM (n:Nt):Prop where
 nodes:n.nodes.length<=1048576
 links:n.links.length<=1048576
 words:n.words.length<=1048576
 past:n.past.length<=1048576
 node:∀x ∈ n.nodes,aAC x.known
 word:∀x ∈ n.words,aAC x.known
 rows:∀rs ∈ n.past,xQ rs
theorem xD {α:Type} {f:α->Nat} {l:List α} {a:α} (h:a ∈ l):f a<=szS f l:=by
 obtain⟨i,hi⟩:=List.getElem?_of_mem h;have:=qK f l (i+1);rw[yW hi]at this;omega
theorem aAC.arg {es:List En} (h:szK es<=1048576):aAC es:=by
 unfold szK at h;exact⟨by omega,fun e he=>qD.arg (by have:=xD (f:=fun e:En=>rM e.s) he;omega)⟩
theorem aGM.arg {n:Nt} (h:aE3 n<=1048576):aGM n:=by
 unfold aE3 aAy aAG szP at h;exact⟨by omega,by omega,by omega,by omega,fun x hx=>aAC.arg (by have:=xD (f:=fun x:Nd=>szK x.known) hx;omega),fun x hx=>aAC.arg (by have:=xD (f:=fun x:Wd=>szK x.known) hx;omega),fun rs hr=>xQ.arg (by have:=xD (f:=fun rs:List (List Int)=>rs.length+dO rs rs.length) hr;omega)⟩
theorem aKV (w:World) (V:SV) (s:Sm) (h:aB2 w V s) (hl:qD s):Calls Tryz.prog 194 #[.agg #[.slice V.xr V.nr V.cr,.slice V.xf V.nf V.cf,.slice V.xt V.nt V.ct,.int .i64 s.lo,.int .i64 s.al,.slice V.xk V.nk V.ck,.int .i64 s.ka]] w fun r w'=>∃U:SV,r=.returned (.agg #[.slice U.xr U.nr U.cr,.slice U.xf U.nf U.cf,.slice U.xt U.nt U.ct,.int .i64 s.lo,.int .i64 s.al,.slice U.xk U.nk U.ck,.int .i64 s.ka])/\M w.heap.size w w' [bC.ch [.slice U.xr U.nr U.cr,.slice U.xf U.nf U.cf,.slice U.xt U.nt U.ct,.int .i64 s.lo,.int .i64 s.al,.slice U.xk U.nk U.ck,.int .i64 s.ka] s]:=
 (aJL w V s h hl).mono fun _ _ ⟨U,a,b,c⟩=>⟨U,a,(M.start w).sum c b⟩
theorem aEZ (w:World) (V:SV) (e:En) (h:aB2 w V e.s) (hl:qD e.s):
  Calls Tryz.prog 148 #[.agg #[.int .i64 e.node,.int .i64 e.born,.int .i64 e.num,.slice V.xr V.nr V.cr,.slice V.xf V.nf V.cf,.slice V.xt V.nt V.ct,.int .i64 (e.s).lo,.int .i64 (e.s).al,.slice V.xk V.nk V.ck,.int .i64 (e.s).ka]] w fun r w'=>∃U:SV,r=.returned (aAH U e)/\M w.heap.size w w' [aLI U e]:=by
 have X:=(((M.start w).alloc #[.int .i64 e.node,.int .i64 e.born,.int .i64 e.num,.slice V.xr V.nr V.cr,.slice V.xf V.nf V.cf,.slice V.xt V.nt V.ct,.int .i64 (e.s).lo,.int .i64 (e.s).al,.slice V.xk V.nk V.ck,.int .i64 (e.s).ka] 183).alloc #[.int .i64 0,.int .i64 0,.int .i64 0,.slice none 0 0,.slice none 0 0,.slice none 0 0,.int .i64 0,.int .i64 0,.slice none 0 0,.int .i64 0] 64).alloc #[.int .i64 e.node,.int .i64 e.born,.int .i64 e.num,.slice none 0 0,.slice none 0 0,.slice none 0 0,.int .i64 0,.int .i64 0,.slice none 0 0,.int .i64 0] 64
 simp only[World.size_alloc]at X;obtain⟨p2,hp2⟩:∃p,p=w.heap.size+1:=⟨_,rfl⟩
 obtain⟨p3,hp3⟩:∃p,p=w.heap.size+1+1:=⟨_,rfl⟩
 have L23:p2<p3:=by omega
 have L13:w.heap.size<p3:=by omega
 have L12:w.heap.size<p2:=by omega
 have N23:¬p2=p3:=by omega
 have N32:¬p3=p2:=by omega
 have N13:¬w.heap.size=p3:=by omega
 have N31:¬p3=w.heap.size:=by omega
 rw[<-hp3, <-hp2]at X
 obtain⟨W0,hW⟩:∃W,W=((w.alloc (.cells #[.int .i64 e.node,.int .i64 e.born,.int .i64 e.num,.slice V.xr V.nr V.cr,.slice V.xf V.nf V.cf,.slice V.xt V.nt V.ct,.int .i64 (e.s).lo,.int .i64 (e.s).al,.slice V.xk V.nk V.ck,.int .i64 (e.s).ka] 183)).alloc (.cells #[.int .i64 0,.int .i64 0,.int .i64 0,.slice none 0 0,.slice none 0 0,.slice none 0 0,.int .i64 0,.int .i64 0,.slice none 0 0,.int .i64 0] 64)).alloc (.cells #[.int .i64 e.node,.int .i64 e.born,.int .i64 e.num,.slice none 0 0,.slice none 0 0,.slice none 0 0,.int .i64 0,.int .i64 0,.slice none 0 0,.int .i64 0] 64):=⟨_,rfl⟩
 rw[<-hW]at X;have H:=hd_ X;obtain⟨a0,a1,a2,a3,a4,a5,a6,a7,a8,a9⟩:=X.p2.cells10;obtain⟨d0,d1,d2,d3,d4,d5,d6,d7,d8,d9⟩:=X.cells10;have ff:=X.free;clear X;rw[hp3]at d0 d1 d2 d3 d4 d5 d6 d7 d8 d9 ff;rw[hW]at a0 a1 a2 a3 a4 a5 a6 a7 a8 a9 d0 d1 d2 d3 d4 d5 d6 d7 d8 d9 ff;go_enter Tryz.func148,Tryz.ntmps148
 go_wp2_with fail
 rw[<-hp3, <-hp2, <-hW];clear hW a0 a1 a2 a3 a4 a5 a6 a7 a8 a9 d0 d1 d2 d3 d4 d5 d6 d7 d8 d9 ff hp3 hp2;have H1:=H;clear H;obtain⟨W1,hW1⟩:∃W,W=W0:=⟨_,rfl⟩
 rw[<-hW1]at H1 ⊢;clear hW1;refine (aKV W1 V e.s (h.below H1.out.below lr_) hl).mono ?_;rintro r w1 ⟨U,rfl,hU⟩;have H2:=hd_ (H1.out.plus hU).p1;clear hU H1
 go_wp2_with (first|(refine cF H2.out (vs:=[.slice U.xr U.nr U.cr,.slice U.xf U.nf U.cf,.slice U.xt U.nt U.ct,.int .i64 e.s.lo,.int .i64 e.s.al,.slice U.xk U.nk U.ck,.int .i64 e.s.ka]) (ys:=#[.int .i64 e.node,.int .i64 e.born,.int .i64 e.num,.slice U.xr U.nr U.cr,.slice U.xf U.nf U.cf,.slice U.xt U.nt U.ct,.int .i64 e.s.lo,.int .i64 e.s.al,.slice U.xk U.nk U.ck,.int .i64 e.s.ka]) rfl rfl rfl rfl aB0 rfl (by simp) (by simp[qF]) ?_;intro w2 h3;have H4:=hd_ h3;obtain⟨x0,x1,x2,x3,x4,x5,x6,x7,x8,x9⟩:=h3.cells10;clear h3 H2)|(refine cF H4.out.p2 (vs:=[.int .i64 e.node,.int .i64 e.born,.int .i64 e.num,.slice U.xr U.nr U.cr,.slice U.xf U.nf U.cf,.slice U.xt U.nt U.ct,.int .i64 e.s.lo,.int .i64 e.s.al,.slice U.xk U.nk U.ck,.int .i64 e.s.ka]) (ys:=#[.int .i64 e.node,.int .i64 e.born,.int .i64 e.num,.slice U.xr U.nr U.cr,.slice U.xf U.nf U.cf,.slice U.xt U.nt U.ct,.int .i64 e.s.lo,.int .i64 e.s.al,.slice U.xk U.nk U.ck,.int .i64 e.s.ka]) rfl rfl rfl rfl aLi rfl (by simp) (by simp[qF]) ?_;intro w3 h6;have H6:=hd_ h6;clear h6))
 obtain⟨e0,e1,e2,e3,e4,e5,e6,e7,e8,e9⟩:=H6.out.cells10
 exact bodyPost_ret (v:=.agg #[.int .i64 e.node,.int .i64 e.born,.int .i64 e.num,.slice U.xr U.nr U.cr,.slice U.xf U.nf U.cf,.slice U.xt U.nt U.ct,.int .i64 e.s.lo,.int .i64 e.s.al,.slice U.xk U.nk U.ck,.int .i64 e.s.ka]) (by simp[results,Tryz.results148,go_sem,e0,e1,e2,e3,e4,e5,e6,e7,e8,e9]) rfl ⟨U,rfl,(H6.out.p2.entry e.node e.born e.num).front⟩
theorem yF (w:World) (v:Value) (xs:List (En)) (h:lG w [v] xs) (hn:xs.length<=1048576) (hl:∀e ∈ xs,qD e.s):
  Calls Tryz.prog 62 #[v] w fun r w'=>∃y c,r=.returned (.slice y xs.length c)/\M w.heap.size w w' [gH (.slice y xs.length c) xs]:=by
 obtain⟨x,c,ev,_⟩:=aZ h;cases ev;obtain⟨n,hn'⟩:∃n,n=xs.length:=⟨_,rfl⟩
 rw[<-hn']at h ⊢ hn;have HN:=hd_ hn';have H1:=hd_ h;have HL:=hd_ hl;clear hl;have H0:=hd_ (M.start w);clear h hn';go_enter Tryz.func62,Tryz.ntmps62
 go_wp2_with (at_make;refine pV aLB aU (z0:=vT) aJq H0.out rfl rfl n rfl rfl rfl rfl (by omega) (by unfold maxLen;omega) ?_;intro w1 h1 hb1;have H:=hd_ h1;clear H0 h1 hb1)
 go_loopw [4] (fun i wr=>∃j:Nat,j<=n/\i=.int .i64 (j:Int)/\M w.heap.size w wr [gH (.slice (some ⟨w.heap.size,0,none⟩) n n) (xs.take j++List.replicate (n - j) (vT))]) (fun i _=>n - (intOf i).toNat)
 case atStart=>exact⟨0,Nat.zero_le _,rfl,H.out⟩
 case round=>
  clear H;obtain⟨j,hj,rfl,hm⟩:=hrel;have H:=hd_ hm;clear hm
  by_cases hlt:j<n
  ·obtain⟨y,hy⟩:∃y,xs[j]? =some y:=⟨_,List.getElem?_eq_getElem (by rw[<-HN.out];exact hlt)⟩
   obtain⟨b,o,ci,rfl,_,lc,hr,hA⟩:=lR (fZ.keep H1.out H.out.below lr_) hy;obtain⟨cs,ec,V,ec2,hs⟩:=zX.1 hA;subst ec2;subst ec;have a0:=hr 0 _ rfl;have a1:=hr 1 _ rfl;have a2:=hr 2 _ rfl;have a3:=hr 3 _ rfl;have a4:=hr 4 _ rfl;have a5:=hr 5 _ rfl;have a6:=hr 6 _ rfl;have a7:=hr 7 _ rfl;have a8:=hr 8 _ rfl;have a9:=hr 9 _ rfl;simp only[Nat.add_zero]at a0
   have KS:=hd_ (aEZ wr V y hs (HL.out y (List.mem_of_getElem? hy)));have HF:=hd_ (oA (z:=vT) HN.out hy);have FA0:=hd_ (xM (z:=vT) HN.out hlt);have k0:(0:Int)<=(j:Int):=by omega
   have kn:(j:Int)<(n:Int):=by omega
   have HJ:Hid (j<(xs.take j++List.replicate (n - j) (vT)).length):=hd_ (by rw[List.length_append,List.length_take,List.length_replicate];have:=HN.out;omega);clear hy lc hr hA
   go_wp2_with fail
   refine KS.out.mono ?_;rintro r w2 ⟨U,rfl,hU⟩;have h1:=H.out.plus hU;obtain⟨g,cap,ci,e,_,h2⟩:=M.open aU h1.p1 FA0.out;simp only[Value.slice.injEq,Option.some.injEq,Addr.mk.injEq,and_true]at e;obtain⟨rfl,en,rfl⟩:=e;clear en
   obtain⟨Z,rfl⟩:∃Z:SV,ci=[.int .i64 0,.int .i64 0,.int .i64 0,.slice Z.xr Z.nr Z.cr,.slice Z.xf Z.nf Z.cf,.slice Z.xt Z.nt Z.ct,.int .i64 0,.int .i64 0,.slice Z.xk Z.nk Z.ck,.int .i64 0]:=by
    obtain⟨f,hf,_⟩:=h2.first;obtain⟨cs,rfl,Z,_,_,_,_,rfl,_⟩:=kL.1 hf;exact⟨Z,rfl⟩
   have H2:=hd_ h2.drop;clear h1 h2 hU KS H
   go_wp2_with (go_loud (refine nR H2.out HJ.out rfl (j:=0) (vs:=[.int .i64 y.node,.int .i64 y.born,.int .i64 y.num,.slice U.xr U.nr U.cr,.slice U.xf U.nf U.cf,.slice U.xt U.nt U.ct,.int .i64 y.s.lo,.int .i64 y.s.al,.slice U.xk U.nk U.ck,.int .i64 y.s.ka]) (ci':=[.int .i64 y.node,.int .i64 y.born,.int .i64 y.num,.slice U.xr U.nr U.cr,.slice U.xf U.nf U.cf,.slice U.xt U.nt U.ct,.int .i64 y.s.lo,.int .i64 y.s.al,.slice U.xk U.nk U.ck,.int .i64 y.s.ka]) rfl rfl rfl rfl rfl aLi rfl (by simp) (by simp[aFd]) ?_);intro w4 h3;have h4:=M.close (FA:=aU) (x:=y) h3.p1 HJ.out;rw[HF.out]at h4;have F:=hd_ h4;clear h3 h4 H2)
   go_roundw
   case rel=>exact⟨j+1,by omega,by go_num,F.out⟩
   case measure=>simp[intOf];omega
  ·obtain rfl:j=n:=by omega
   have e1:xs.take j=xs:=List.take_of_length_le (by rw[HN.out];exact Nat.le_refl _);have hF:=H.out;rw[e1,Nat.sub_self,List.replicate_zero,List.append_nil]at hF;have F:=hd_ hF;clear H hF e1;go_wp2;go_ret;exact⟨_,_,rfl,F.out⟩
theorem aHt (w:World) {y:Option Addr} {m0 cy:Nat} (x:Nd) (h:lG w [.slice y m0 cy] x.known) (hl:aAC x.known):
  Calls Tryz.prog 185 #[.agg #[.int .i64 x.born,.slice y m0 cy,.int .i64 x.beacon,.int .i64 x.level,.int .i64 x.up]] w fun r w'=>∃y2 c2,r=.returned (.agg #[.int .i64 x.born,.slice y2 x.known.length c2,.int .i64 x.beacon,.int .i64 x.level,.int .i64 x.up])/\M w.heap.size w w' [aK5 [.int .i64 x.born,.slice y2 x.known.length c2,.int .i64 x.beacon,.int .i64 x.level,.int .i64 x.up] x]:=by
 have X:=(((M.start w).alloc #[.int .i64 x.born,.slice y m0 cy,.int .i64 x.beacon,.int .i64 x.level,.int .i64 x.up] 220).alloc #[.int .i64 0,.slice none 0 0,.int .i64 0,.int .i64 0,.int .i64 0] 55).alloc #[.int .i64 x.born,.slice none 0 0,.int .i64 0,.int .i64 0,.int .i64 0] 55;simp only[World.size_alloc]at X;obtain⟨p2,hp2⟩:∃p,p=w.heap.size+1:=⟨_,rfl⟩
 obtain⟨p3,hp3⟩:∃p,p=w.heap.size+1+1:=⟨_,rfl⟩
 have L23:p2<p3:=by omega
 have L13:w.heap.size<p3:=by omega
 have L12:w.heap.size<p2:=by omega
 have N23:¬p2=p3:=by omega
 have N32:¬p3=p2:=by omega
 have N13:¬w.heap.size=p3:=by omega
 have N31:¬p3=w.heap.size:=by omega
 rw[<-hp3, <-hp2]at X;obtain⟨W0,hW⟩:∃W,W=((w.alloc (.cells #[.int .i64 x.born,.slice y m0 cy,.int .i64 x.beacon,.int .i64 x.level,.int .i64 x.up] 220)).alloc (.cells #[.int .i64 0,.slice none 0 0,.int .i64 0,.int .i64 0,.int .i64 0] 55)).alloc (.cells #[.int .i64 x.born,.slice none 0 0,.int .i64 0,.int .i64 0,.int .i64 0] 55):=⟨_,rfl⟩
 rw[<-hW]at X;have H:=hd_ X;obtain⟨a0,a1,a2,a3,a4⟩:=X.p2.cells5;obtain⟨d0,d1,d2,d3,d4⟩:=X.cells5;have ff:=X.free;clear X;rw[hp3]at d0 d1 d2 d3 d4 ff;rw[hW]at a0 a1 a2 a3 a4 d0 d1 d2 d3 d4 ff;go_enter Tryz.func185,Tryz.ntmps185
 go_wp2_with fail
 rw[<-hp3, <-hp2, <-hW];clear hW a0 a1 a2 a3 a4 d0 d1 d2 d3 d4 ff hp3 hp2;have H1:=H;clear H;obtain⟨W1,hW1⟩:∃W,W=W0:=⟨_,rfl⟩
 rw[<-hW1]at H1 ⊢;clear hW1;refine (yF W1 _ x.known (fZ.keep h H1.out.below lr_) hl.len hl.sums).mono ?_;rintro r w1 ⟨y2,c2,rfl,hU⟩;have H2:=hd_ (H1.out.plus hU).p1;clear hU H1;obtain⟨d0,d1,d2,d3,d4⟩:=H2.out.cells5;have ff:=H2.out.free;obtain⟨a0,a1,a2,a3,a4⟩:=H2.out.p3.cells5;have g0:=H2.out.set (i:=1) (.slice y2 x.known.length c2)
 simp only[List.setIfInBounds_toArray,List.set_cons_zero,List.set_cons_succ]at g0;have g1:=g0.set (i:=2) (.int .i64 x.beacon);simp only[List.setIfInBounds_toArray,List.set_cons_zero,List.set_cons_succ]at g1;have g2:=g1.set (i:=3) (.int .i64 x.level);simp only[List.setIfInBounds_toArray,List.set_cons_zero,List.set_cons_succ]at g2;have g3:=g2.set (i:=4) (.int .i64 x.up)
 simp only[List.setIfInBounds_toArray,List.set_cons_zero,List.set_cons_succ]at g3;have H4:=hd_ g3;clear g0 g1 g2 g3 H2;obtain⟨x0,x1,x2,x3,x4⟩:=H4.out.cells5
 go_wp2_with (refine cF H4.out.p2 (vs:=[.int .i64 x.born,.slice y2 x.known.length c2,.int .i64 x.beacon,.int .i64 x.level,.int .i64 x.up]) (ys:=#[.int .i64 x.born,.slice y2 x.known.length c2,.int .i64 x.beacon,.int .i64 x.level,.int .i64 x.up]) rfl rfl rfl rfl aK1 rfl (by simp) (by simp[qF]) ?_;intro w3 h6;have H6:=hd_ h6;clear h6)
 obtain⟨e0,e1,e2,e3,e4⟩:=H6.out.cells5;exact bodyPost_ret (v:=.agg #[.int .i64 x.born,.slice y2 x.known.length c2,.int .i64 x.beacon,.int .i64 x.level,.int .i64 x.up]) (by simp[results,Tryz.results185,go_sem,e0,e1,e2,e3,e4]) rfl ⟨y2,c2,rfl,(H6.out.p2.node x.born x.beacon x.level x.up).front⟩
theorem aFt (w:World) (v:Value) (xs:List (Nd)) (h:rI 5 aAh w [v] xs) (hn:xs.length<=1048576) (hl:∀x ∈ xs,aAC x.known):
  Calls Tryz.prog 116 #[v] w fun r w'=>∃y c,r=.returned (.slice y xs.length c)/\M w.heap.size w w' [lJ (.slice y xs.length c) xs]:=by
 obtain⟨x,c,ev,_⟩:=aZ h;cases ev;obtain⟨n,hn'⟩:∃n,n=xs.length:=⟨_,rfl⟩
 rw[<-hn']at h ⊢ hn;have HN:=hd_ hn';have H1:=hd_ h;have HL:=hd_ hl;clear hl;have H0:=hd_ (M.start w);clear h hn';go_enter Tryz.func116,Tryz.ntmps116
 go_wp2_with (at_make;refine pV aL0 (cC (T:=TY)) (z0:=aFP) aFi H0.out rfl rfl n rfl rfl rfl rfl (by omega) (by unfold maxLen;omega) ?_;intro w1 h1 hb1;have H:=hd_ h1;clear H0 h1 hb1)
 go_loopw [4] (fun i wr=>∃j:Nat,j<=n/\i=.int .i64 (j:Int)/\M w.heap.size w wr [lJ (.slice (some ⟨w.heap.size,0,none⟩) n n) (xs.take j++List.replicate (n - j) (aFP))]) (fun i _=>n - (intOf i).toNat)
 case atStart=>exact⟨0,Nat.zero_le _,rfl,H.out⟩
 case round=>
  clear H;obtain⟨j,hj,rfl,hm⟩:=hrel;have H:=hd_ hm;clear hm
  by_cases hlt:j<n
  ·obtain⟨y,hy⟩:∃y,xs[j]? =some y:=⟨_,List.getElem?_eq_getElem (by rw[<-HN.out];exact hlt)⟩
   obtain⟨b,o,ci,rfl,_,lc,hr,hA⟩:=lR ((dH mL 5).keep H1.out H.out.below lr_) hy;obtain⟨v,ec,hs⟩:=aBz.1 hA;subst ec;obtain⟨z,cz,ez,_⟩:=aZ hs;cases ez;have a0:=hr 0 _ rfl;have a1:=hr 1 _ rfl;have a2:=hr 2 _ rfl;have a3:=hr 3 _ rfl;have a4:=hr 4 _ rfl;simp only[Nat.add_zero]at a0;have KS:=hd_ (aHt wr y hs (HL.out y (List.mem_of_getElem? hy)))
   have HF:=hd_ (oA (z:=aFP) HN.out hy);have FA0:=hd_ (xM (z:=aFP) HN.out hlt);have k0:(0:Int)<=(j:Int):=by omega
   have kn:(j:Int)<(n:Int):=by omega
   have HJ:Hid (j<(xs.take j++List.replicate (n - j) (aFP)).length):=hd_ (by rw[List.length_append,List.length_take,List.length_replicate];have:=HN.out;omega);clear hy lc hr hA
   go_wp2_with fail
   refine KS.out.mono ?_;rintro r w2 ⟨y2,c2,rfl,hU⟩;have h1:=H.out.plus hU;obtain⟨g,cap,ci,e,_,h2⟩:=M.open (cC (T:=TY)) h1.p1 FA0.out;simp only[Value.slice.injEq,Option.some.injEq,Addr.mk.injEq,and_true]at e;obtain⟨rfl,en,rfl⟩:=e;clear en;obtain⟨u,rfl⟩:∃u:Value,ci=[.int .i64 0,u,.int .i64 0,.int .i64 0,.int .i64 0]:=by
    obtain⟨f,hf,_⟩:=h2.first;obtain⟨u,rfl,_⟩:=lX.1 hf;exact⟨u,rfl⟩
   have H2:=hd_ h2.drop;clear h1 h2 hU KS H
   go_wp2_with (go_loud (refine nR H2.out HJ.out rfl (j:=0) (vs:=[.int .i64 y.born,.slice y2 y.known.length c2,.int .i64 y.beacon,.int .i64 y.level,.int .i64 y.up]) (ci':=[.int .i64 y.born,.slice y2 y.known.length c2,.int .i64 y.beacon,.int .i64 y.level,.int .i64 y.up]) rfl rfl rfl rfl rfl aK1 rfl (by simp) (by simp[aFd]) ?_);intro w4 h3;have h4:=M.close (FA:=(cC (T:=TY))) (x:=y) h3.p1 HJ.out;rw[HF.out]at h4;have F:=hd_ h4;clear h3 h4 H2)
   go_roundw
   case rel=>exact⟨j+1,by omega,by go_num,F.out⟩
   case measure=>simp[intOf];omega
  ·obtain rfl:j=n:=by omega
   have e1:xs.take j=xs:=List.take_of_length_le (by rw[HN.out];exact Nat.le_refl _);have hF:=H.out;rw[e1,Nat.sub_self,List.replicate_zero,List.append_nil]at hF;have F:=hd_ hF;clear H hF e1;go_wp2;go_ret;exact⟨_,_,rfl,F.out⟩
theorem aGm (w:World) {y:Option Addr} {m0 cy:Nat} (x:Wd) (h:lG w [.slice y m0 cy] x.known) (hl:aAC x.known):
  Calls Tryz.prog 186 #[.agg #[.int .i64 x.kind,.int .i64 x.src,.int .i64 x.dst,.int .i64 x.beacon,.int .i64 x.level,.slice y m0 cy]] w fun r w'=>∃y2 c2,r=.returned (.agg #[.int .i64 x.kind,.int .i64 x.src,.int .i64 x.dst,.int .i64 x.beacon,.int .i64 x.level,.slice y2 x.known.length c2])/\M w.heap.size w w' [aLa [.int .i64 x.kind,.int .i64 x.src,.int .i64 x.dst,.int .i64 x.beacon,.int .i64 x.level,.slice y2 x.known.length c2] x]:=by
 have X:=(((M.start w).alloc #[.int .i64 x.kind,.int .i64 x.src,.int .i64 x.dst,.int .i64 x.beacon,.int .i64 x.level,.slice y m0 cy] 223).alloc #[.int .i64 0,.int .i64 0,.int .i64 0,.int .i64 0,.int .i64 0,.slice none 0 0] 123).alloc #[.int .i64 x.kind,.int .i64 x.src,.int .i64 x.dst,.int .i64 x.beacon,.int .i64 x.level,.slice none 0 0] 123;simp only[World.size_alloc]at X
 obtain⟨p2,hp2⟩:∃p,p=w.heap.size+1:=⟨_,rfl⟩
 obtain⟨p3,hp3⟩:∃p,p=w.heap.size+1+1:=⟨_,rfl⟩
 have L23:p2<p3:=by omega
 have L13:w.heap.size<p3:=by omega
 have L12:w.heap.size<p2:=by omega
 have N23:¬p2=p3:=by omega
 have N32:¬p3=p2:=by omega
 have N13:¬w.heap.size=p3:=by omega
 have N31:¬p3=w.heap.size:=by omega
 rw[<-hp3, <-hp2]at X;obtain⟨W0,hW⟩:∃W,W=((w.alloc (.cells #[.int .i64 x.kind,.int .i64 x.src,.int .i64 x.dst,.int .i64 x.beacon,.int .i64 x.level,.slice y m0 cy] 223)).alloc (.cells #[.int .i64 0,.int .i64 0,.int .i64 0,.int .i64 0,.int .i64 0,.slice none 0 0] 123)).alloc (.cells #[.int .i64 x.kind,.int .i64 x.src,.int .i64 x.dst,.int .i64 x.beacon,.int .i64 x.level,.slice none 0 0] 123):=⟨_,rfl⟩
 rw[<-hW]at X;have H:=hd_ X;obtain⟨a0,a1,a2,a3,a4,a5⟩:=X.p2.cells6;obtain⟨d0,d1,d2,d3,d4,d5⟩:=X.cells6;have ff:=X.free;clear X;rw[hp3]at d0 d1 d2 d3 d4 d5 ff;rw[hW]at a0 a1 a2 a3 a4 a5 d0 d1 d2 d3 d4 d5 ff;go_enter Tryz.func186,Tryz.ntmps186
 go_wp2_with fail
 rw[<-hp3, <-hp2, <-hW];clear hW a0 a1 a2 a3 a4 a5 d0 d1 d2 d3 d4 d5 ff hp3 hp2;have H1:=H;clear H;obtain⟨W1,hW1⟩:∃W,W=W0:=⟨_,rfl⟩
 rw[<-hW1]at H1 ⊢;clear hW1;refine (yF W1 _ x.known (fZ.keep h H1.out.below lr_) hl.len hl.sums).mono ?_;rintro r w1 ⟨y2,c2,rfl,hU⟩;have H2:=hd_ (H1.out.plus hU).p1;clear hU H1;obtain⟨d0,d1,d2,d3,d4,d5⟩:=H2.out.cells6;have ff:=H2.out.free;obtain⟨a0,a1,a2,a3,a4,a5⟩:=H2.out.p3.cells6;have g0:=H2.out.set (i:=5) (.slice y2 x.known.length c2)
 simp only[List.setIfInBounds_toArray,List.set_cons_zero,List.set_cons_succ]at g0;have H4:=hd_ g0;clear g0 H2;obtain⟨x0,x1,x2,x3,x4,x5⟩:=H4.out.cells6
 go_wp2_with (refine cF H4.out.p2 (vs:=[.int .i64 x.kind,.int .i64 x.src,.int .i64 x.dst,.int .i64 x.beacon,.int .i64 x.level,.slice y2 x.known.length c2]) (ys:=#[.int .i64 x.kind,.int .i64 x.src,.int .i64 x.dst,.int .i64 x.beacon,.int .i64 x.level,.slice y2 x.known.length c2]) rfl rfl rfl rfl aK0 rfl (by simp) (by simp[qF]) ?_;intro w3 h6;have H6:=hd_ h6;clear h6)
 obtain⟨e0,e1,e2,e3,e4,e5⟩:=H6.out.cells6;exact bodyPost_ret (v:=.agg #[.int .i64 x.kind,.int .i64 x.src,.int .i64 x.dst,.int .i64 x.beacon,.int .i64 x.level,.slice y2 x.known.length c2]) (by simp[results,Tryz.results186,go_sem,e0,e1,e2,e3,e4,e5]) rfl ⟨y2,c2,rfl,(H6.out.p2.word x.kind x.src x.dst x.beacon x.level).front⟩
theorem aFK (w:World) (v:Value) (xs:List (Wd)) (h:rI 6 zS w [v] xs) (hn:xs.length<=1048576) (hl:∀x ∈ xs,aAC x.known):
  Calls Tryz.prog 118 #[v] w fun r w'=>∃y c,r=.returned (.slice y xs.length c)/\M w.heap.size w w' [lF (.slice y xs.length c) xs]:=by
 obtain⟨x,c,ev,_⟩:=aZ h;cases ev;obtain⟨n,hn'⟩:∃n,n=xs.length:=⟨_,rfl⟩
 rw[<-hn']at h ⊢ hn;have HN:=hd_ hn';have H1:=hd_ h;have HL:=hd_ hl;clear hl;have H0:=hd_ (M.start w);clear h hn';go_enter Tryz.func118,Tryz.ntmps118
 go_wp2_with (at_make;refine pV aLO (fE (T:=TY)) (z0:=wB) aHC H0.out rfl rfl n rfl rfl rfl rfl (by omega) (by unfold maxLen;omega) ?_;intro w1 h1 hb1;have H:=hd_ h1;clear H0 h1 hb1)
 go_loopw [4] (fun i wr=>∃j:Nat,j<=n/\i=.int .i64 (j:Int)/\M w.heap.size w wr [lF (.slice (some ⟨w.heap.size,0,none⟩) n n) (xs.take j++List.replicate (n - j) (wB))]) (fun i _=>n - (intOf i).toNat)
 case atStart=>exact⟨0,Nat.zero_le _,rfl,H.out⟩
 case round=>
  clear H;obtain⟨j,hj,rfl,hm⟩:=hrel;have H:=hd_ hm;clear hm
  by_cases hlt:j<n
  ·obtain⟨y,hy⟩:∃y,xs[j]? =some y:=⟨_,List.getElem?_eq_getElem (by rw[<-HN.out];exact hlt)⟩
   obtain⟨b,o,ci,rfl,_,lc,hr,hA⟩:=lR ((dH mF 6).keep H1.out H.out.below lr_) hy;obtain⟨v,ec,hs⟩:=aBr.1 hA;subst ec;obtain⟨z,cz,ez,_⟩:=aZ hs;cases ez;have a0:=hr 0 _ rfl;have a1:=hr 1 _ rfl;have a2:=hr 2 _ rfl;have a3:=hr 3 _ rfl;have a4:=hr 4 _ rfl;have a5:=hr 5 _ rfl;simp only[Nat.add_zero]at a0
   have KS:=hd_ (aGm wr y hs (HL.out y (List.mem_of_getElem? hy)));have HF:=hd_ (oA (z:=wB) HN.out hy);have FA0:=hd_ (xM (z:=wB) HN.out hlt);have k0:(0:Int)<=(j:Int):=by omega
   have kn:(j:Int)<(n:Int):=by omega
   have HJ:Hid (j<(xs.take j++List.replicate (n - j) (wB)).length):=hd_ (by rw[List.length_append,List.length_take,List.length_replicate];have:=HN.out;omega);clear hy lc hr hA
   go_wp2_with fail
   refine KS.out.mono ?_;rintro r w2 ⟨y2,c2,rfl,hU⟩;have h1:=H.out.plus hU;obtain⟨g,cap,ci,e,_,h2⟩:=M.open (fE (T:=TY)) h1.p1 FA0.out;simp only[Value.slice.injEq,Option.some.injEq,Addr.mk.injEq,and_true]at e;obtain⟨rfl,en,rfl⟩:=e;clear en;obtain⟨u,rfl⟩:∃u:Value,ci=[.int .i64 0,.int .i64 0,.int .i64 0,.int .i64 0,.int .i64 0,u]:=by
    obtain⟨f,hf,_⟩:=h2.first;obtain⟨u,rfl,_⟩:=lU.1 hf;exact⟨u,rfl⟩
   have H2:=hd_ h2.drop;clear h1 h2 hU KS H
   go_wp2_with (go_loud (refine nR H2.out HJ.out rfl (j:=0) (vs:=[.int .i64 y.kind,.int .i64 y.src,.int .i64 y.dst,.int .i64 y.beacon,.int .i64 y.level,.slice y2 y.known.length c2]) (ci':=[.int .i64 y.kind,.int .i64 y.src,.int .i64 y.dst,.int .i64 y.beacon,.int .i64 y.level,.slice y2 y.known.length c2]) rfl rfl rfl rfl rfl aK0 rfl (by simp) (by simp[aFd]) ?_);intro w4 h3;have h4:=M.close (FA:=(fE (T:=TY))) (x:=y) h3.p1 HJ.out;rw[HF.out]at h4;have F:=hd_ h4;clear h3 h4 H2)
   go_roundw
   case rel=>exact⟨j+1,by omega,by go_num,F.out⟩
   case measure=>simp[intOf];omega
  ·obtain rfl:j=n:=by omega
   have e1:xs.take j=xs:=List.take_of_length_le (by rw[HN.out];exact Nat.le_refl _);have hF:=H.out;rw[e1,Nat.sub_self,List.replicate_zero,List.append_nil]at hF;have F:=hd_ hF;clear H hF e1;go_wp2;go_ret;exact⟨_,_,rfl,F.out⟩
theorem aEN (w:World) (v:Value) (xs:List Bool) (h:xP w [v] xs) (hn:xs.length<=1048576):
  Calls Tryz.prog 117 #[v] w fun r w'=>∃y c,r=.returned (.slice y xs.length c)/\M w.heap.size w w' [kA (.slice y xs.length c) xs]:=by
 obtain⟨x,c,ev,_⟩:=aZ h;cases ev;obtain⟨n,hn'⟩:∃n,n=xs.length:=⟨_,rfl⟩
 rw[<-hn']at h ⊢ hn;have HN:=hd_ hn';have H1:=hd_ h;have H0:=hd_ (M.start w);clear h hn';go_enter Tryz.func117,Tryz.ntmps117
 go_wp2_with (at_make;refine aGv aK9 (enc:=aLt) (z0:=false) rfl rfl (fun _=>rfl) H0.out rfl rfl n rfl rfl rfl rfl (by omega) (by unfold maxLen;omega) ?_;intro w1 h1 hb1;have H:=hd_ h1;clear H0 h1 hb1)
 go_loopw [4] (fun i wr=>∃j:Nat,j<=n/\i=.int .i64 (j:Int)/\M w.heap.size w wr [kA (.slice (some ⟨w.heap.size,0,none⟩) n n) (xs.take j++List.replicate (n - j) false)]) (fun i _=>n - (intOf i).toNat)
 case atStart=>exact⟨0,Nat.zero_le _,rfl,H.out⟩
 case round=>
  clear H;obtain⟨j,hj,rfl,hm⟩:=hrel;have H:=hd_ hm;clear hm
  by_cases hlt:j<n
  ·obtain⟨y,hy⟩:∃y,xs[j]? =some y:=⟨_,List.getElem?_eq_getElem (by rw[<-HN.out];exact hlt)⟩
   obtain⟨b,o,ci,rfl,_,lc,hr,hA⟩:=lR (nJ.keep H1.out H.out.below lr_) hy;have a0:=hr 0 (.bool y) (by rw[hA];rfl);simp only[Nat.mul_one,Nat.add_zero]at a0;have HF:=hd_ (oA (z:=false) HN.out hy);have k0:(0:Int)<=(j:Int):=by omega
   have kn:(j:Int)<(n:Int):=by omega
   have HJ:Hid (j<(xs.take j++List.replicate (n - j) false).length):=hd_ (by rw[List.length_append,List.length_take,List.length_replicate];have:=HN.out;omega);clear hy lc hr hA;obtain⟨⟨z,cz⟩,fz,h1⟩:=H.out.setEl (i:=j) HJ.out y (u:=.bool y) rfl;rw[HF.out]at h1;have F:=hd_ (show M w.heap.size w _ [kA _ _]from h1);clear h1 H;go_wp2;go_roundw
   case rel=>exact⟨j+1,by omega,by go_num,F.out⟩
   case measure=>simp[intOf];omega
  ·obtain rfl:j=n:=by omega
   have e1:xs.take j=xs:=List.take_of_length_le (by rw[HN.out];exact Nat.le_refl _);have hF:=H.out;rw[e1,Nat.sub_self,List.replicate_zero,List.append_nil]at hF;have F:=hd_ hF;clear H hF e1;go_wp2;go_ret;exact⟨_,_,rfl,F.out⟩
theorem aEO {w:World} {B:Nat} {v:Value} {rs:List (List Int)} {G C:Nat->Nat} (o:cY w B v rs G C):(v.ownBlock.toList++(List.range rs.length).map G).Nodup:=by
 refine List.nodup_append.2 ⟨fK _,List.pairwise_map.2 (List.Pairwise.imp_of_mem (fun {i j} hi hj q e=>o.apart i j (List.mem_range.1 hi) (List.mem_range.1 hj) q e) List.nodup_range),fun a ha b hb e=>?_⟩;obtain⟨i,hi,rfl⟩:=List.mem_map.1 hb;exact o.off i (List.mem_range.1 hi) (by rw[bE ha,e])
theorem aJH {w:World} {B:Nat} {v:Value} {rs:List (List Int)} {G C:Nat->Nat} (o:cY w B v rs G C):∀b ∈ v.ownBlock.toList++(List.range rs.length).map G,B<=b:=fun b hb=>by
 rcases List.mem_append.1 hb with hb|hb
 ·exact (World.ownsRow.lt o.hdr b (bE hb)).1
 ·obtain⟨i,hi,rfl⟩:=List.mem_map.1 hb
  exact ((o.row i (List.mem_range.1 hi)).lt (G i) rfl).1
theorem aJY (w:World) (v:Value) (rs:List (List Int)) (h:oN w v rs) (hl:xQ rs):
  Calls Tryz.prog 187 #[v] w fun r w'=>∃y c,r=.returned (.slice y rs.length c)/\M w.heap.size w w' [nD (.slice y rs.length c) rs]:=
 (wT w v rs h hl.len hl.row).mono fun _ w' ⟨a,⟨G,b⟩,c⟩=>⟨_,_,a,(M.start w).add c (zR b) (aEO b) (aJH b)⟩
theorem aGO (w:World) (v:Value) (xs:List (List (List Int))) (h:aA1 w [v] xs) (hn:xs.length<=1048576) (hl:∀rs ∈ xs,xQ rs):
  Calls Tryz.prog 119 #[v] w fun r w'=>∃y c,r=.returned (.slice y xs.length c)/\M w.heap.size w w' [nX (.slice y xs.length c) xs]:=by
 obtain⟨x,c,ev,_⟩:=aZ h;cases ev;obtain⟨n,hn'⟩:∃n,n=xs.length:=⟨_,rfl⟩
 rw[<-hn']at h ⊢ hn;have HN:=hd_ hn';have H1:=hd_ h;have HL:=hd_ hl;clear hl;have H0:=hd_ (M.start w);clear h hn';go_enter Tryz.func119,Tryz.ntmps119
 go_wp2_with (at_make;refine pV aLK cB (z0:=([]:List (List Int))) (fun w=>mR w) H0.out rfl rfl n rfl rfl rfl rfl (by omega) (by unfold maxLen;omega) ?_;intro w1 h1 hb1;have H:=hd_ h1;clear H0 h1 hb1)
 go_loopw [4] (fun i wr=>∃j:Nat,j<=n/\i=.int .i64 (j:Int)/\M w.heap.size w wr [nX (.slice (some ⟨w.heap.size,0,none⟩) n n) (xs.take j++List.replicate (n - j) (([]:List (List Int))))]) (fun i _=>n - (intOf i).toNat)
 case atStart=>exact⟨0,Nat.zero_le _,rfl,H.out⟩
 case round=>
  clear H;obtain⟨j,hj,rfl,hm⟩:=hrel;have H:=hd_ hm;clear hm
  by_cases hlt:j<n
  ·obtain⟨y,hy⟩:∃y,xs[j]? =some y:=⟨_,List.getElem?_eq_getElem (by rw[<-HN.out];exact hlt)⟩
   obtain⟨b,o,ci,rfl,_,lc,hr,hA⟩:=lR (mG.keep H1.out H.out.below lr_) hy;obtain⟨z,cz,ez,_⟩:=aZ hA;subst ez;have a0:=hr 0 _ rfl;simp only[Nat.mul_one,Nat.add_zero]at a0;have KS:=hd_ (aJY wr _ y (aBg hA) (HL.out y (List.mem_of_getElem? hy)));have HF:=hd_ (oA (z:=([]:List (List Int))) HN.out hy);have FA0:=hd_ (xM (z:=([]:List (List Int))) HN.out hlt)
   have k0:(0:Int)<=(j:Int):=by omega
   have kn:(j:Int)<(n:Int):=by omega
   have HJ:Hid (j<(xs.take j++List.replicate (n - j) (([]:List (List Int)))).length):=hd_ (by rw[List.length_append,List.length_take,List.length_replicate];have:=HN.out;omega);clear hy lc hr hA
   go_wp2_with fail
   refine KS.out.mono ?_;rintro r w2 ⟨y2,c2,rfl,hU⟩;have h1:=H.out.plus hU;obtain⟨g,cap,ci,e,_,h2⟩:=M.open cB h1.p1 FA0.out;simp only[Value.slice.injEq,Option.some.injEq,Addr.mk.injEq,and_true]at e;obtain⟨rfl,en,rfl⟩:=e;clear en;obtain⟨u,rfl⟩:∃u:Value,ci=[u]:=by
    obtain⟨f,hf,_⟩:=h2.first;obtain⟨u,_,_,rfl,_⟩:=hf;exact⟨u,rfl⟩
   have H2:=hd_ h2.drop;clear h1 h2 hU KS H;have z0:=H2.out.hcell1 HJ.out;have fz:=H2.out.hfree;have h3:=H2.out.hset1 HJ.out (.slice y2 y.length c2);have h4:=M.close (FA:=cB) (x:=y) h3.p1 HJ.out;rw[HF.out]at h4;have F:=hd_ (show M w.heap.size w _ [nX _ _]from h4);clear h3 h4;go_wp2;go_roundw
   case rel=>exact⟨j+1,by omega,by go_num,F.out⟩
   case measure=>simp[intOf];omega
  ·obtain rfl:j=n:=by omega
   have e1:xs.take j=xs:=List.take_of_length_le (by rw[HN.out];exact Nat.le_refl _);have hF:=H.out;rw[e1,Nat.sub_self,List.replicate_zero,List.append_nil]at hF;have F:=hd_ hF;clear H hF e1;go_wp2;go_ret;exact⟨_,_,rfl,F.out⟩
theorem aJd (w:World) {x1 x2 x3 x4:Option Addr} {k1 k2 k3 k4 c1 c2 c3 c4:Nat} (n:Nt) (h:aEH w [.slice x1 k1 c1,.slice x2 k2 c2,.slice x3 k3 c3,.slice x4 k4 c4] n) (hl:aGM n):
  Calls Tryz.prog 49 #[.agg #[.slice x1 k1 c1,.slice x2 k2 c2,.slice x3 k3 c3,.slice x4 k4 c4]] w fun r w'=>∃y1 d1 y2 d2 y3 d3 y4 d4,r=.returned (.agg #[.slice y1 n.nodes.length d1,.slice y2 n.links.length d2,.slice y3 n.words.length d3,.slice y4 n.past.length d4])/\M w.heap.size w w' [lJ (.slice y1 n.nodes.length d1) n.nodes,kA (.slice y2 n.links.length d2) n.links,lF (.slice y3 n.words.length d3) n.words,nX (.slice y4 n.past.length d4) n.past]:=by
 obtain⟨_,_,_,_,ev,h1,h2,h3,h4⟩:=zB.1 h;cases ev;have HL:=hd_ hl;have H1:=hd_ h1;have H2:=hd_ h2;have H3:=hd_ h3;have H4:=hd_ h4;clear h hl h1 h2 h3 h4
 have X:=(((M.start w).alloc #[.slice x1 k1 c1,.slice x2 k2 c2,.slice x3 k3 c3,.slice x4 k4 c4] 80).alloc #[.slice none 0 0,.slice none 0 0,.slice none 0 0,.slice none 0 0] 30).alloc #[.slice none 0 0,.slice none 0 0,.slice none 0 0,.slice none 0 0] 30;simp only[World.size_alloc]at X;obtain⟨p2,hp2⟩:∃p,p=w.heap.size+1:=⟨_,rfl⟩
 obtain⟨p3,hp3⟩:∃p,p=w.heap.size+1+1:=⟨_,rfl⟩
 rw[<-hp3, <-hp2]at X;obtain⟨W0,hW⟩:∃W,W=((w.alloc (.cells #[.slice x1 k1 c1,.slice x2 k2 c2,.slice x3 k3 c3,.slice x4 k4 c4] 80)).alloc (.cells #[.slice none 0 0,.slice none 0 0,.slice none 0 0,.slice none 0 0] 30)).alloc (.cells #[.slice none 0 0,.slice none 0 0,.slice none 0 0,.slice none 0 0] 30):=⟨_,rfl⟩
 rw[<-hW]at X;have H:=hd_ X;obtain⟨a0,a1,a2,a3⟩:=X.p2.cells4;clear X;rw[hW]at a0 a1 a2 a3;go_enter Tryz.func49,Tryz.ntmps49
 go_wp2_with fail
 rw[<-hW];have HP:=hd_ hp3;have HP2:=hd_ hp2;clear hW a0 a1 a2 a3 hp3 hp2;have K:=aFt W0 _ n.nodes ((dH mL 5).keep H1.out H.out.below lr_) HL.out.nodes HL.out.node;refine K.mono ?_;rintro r w1 ⟨y1,d1,rfl,hU⟩;have h:=H.out.plus hU;clear K hU H1;have g:=h.p1;obtain⟨d0',d1',d2',d3'⟩:=g.cells4;have ff:=g.free;obtain⟨a0,a1,a2,a3⟩:=g.p3.cells4
 have g2:=g.set (i:=0) (.slice y1 n.nodes.length d1);simp only[List.setIfInBounds_toArray,List.set_cons_zero,List.set_cons_succ]at g2;have h':=g2.p3.p3.p2;clear h g g2 H;obtain⟨V1,hV⟩:∃W,W=w1.setCell ⟨p3,0,none⟩ (.slice y1 n.nodes.length d1):=⟨_,rfl⟩
 rw[<-hV]at h';have H:=hd_ h';clear h';rw[HP.out]at hV ff d0' d1' d2' d3';obtain⟨b0,b1,b2,b3⟩:=H.out.p2.cells4;rw[hV]at b0 b1 b2 b3
 go_wp2_with fail
 rw[<-hV];clear hV ff d0' d1' d2' d3' a0 a1 a2 a3 b0 b1 b2 b3;have K:=aEN V1 _ n.links (nJ.keep H2.out H.out.below lr_) HL.out.links;refine K.mono ?_;rintro r w2 ⟨y2,d2,rfl,hU⟩;have h:=H.out.plus hU;clear K hU H2;have g:=h.p1;obtain⟨d0',d1',d2',d3'⟩:=g.cells4;have ff:=g.free;obtain⟨a0,a1,a2,a3⟩:=g.p3.cells4;have g2:=g.set (i:=1) (.slice y2 n.links.length d2)
 simp only[List.setIfInBounds_toArray,List.set_cons_zero,List.set_cons_succ]at g2;have h':=g2.p3.p3.p2;clear h g g2 H;obtain⟨V2,hV⟩:∃W,W=w2.setCell ⟨p3,1,none⟩ (.slice y2 n.links.length d2):=⟨_,rfl⟩
 rw[<-hV]at h';have H:=hd_ h';clear h';rw[HP.out]at hV ff d0' d1' d2' d3';obtain⟨b0,b1,b2,b3⟩:=H.out.p2.cells4;rw[hV]at b0 b1 b2 b3
 go_wp2_with fail
 rw[<-hV];clear hV ff d0' d1' d2' d3' a0 a1 a2 a3 b0 b1 b2 b3;have K:=aFK V2 _ n.words ((dH mF 6).keep H3.out H.out.below lr_) HL.out.words HL.out.word;refine K.mono ?_;rintro r w3 ⟨y3,d3,rfl,hU⟩;have h:=H.out.plus hU;clear K hU H3;have g:=h.p1;obtain⟨d0',d1',d2',d3'⟩:=g.cells4;have ff:=g.free;obtain⟨a0,a1,a2,a3⟩:=g.p3.cells4
 have g2:=g.set (i:=2) (.slice y3 n.words.length d3);simp only[List.setIfInBounds_toArray,List.set_cons_zero,List.set_cons_succ]at g2;have h':=g2.p3.p3.p2;clear h g g2 H;obtain⟨V3,hV⟩:∃W,W=w3.setCell ⟨p3,2,none⟩ (.slice y3 n.words.length d3):=⟨_,rfl⟩
 rw[<-hV]at h';have H:=hd_ h';clear h';rw[HP.out]at hV ff d0' d1' d2' d3';obtain⟨b0,b1,b2,b3⟩:=H.out.p2.cells4;rw[hV]at b0 b1 b2 b3
 go_wp2_with fail
 rw[<-hV];clear hV ff d0' d1' d2' d3' a0 a1 a2 a3 b0 b1 b2 b3;have K:=aGO V3 _ n.past (mG.keep H4.out H.out.below lr_) HL.out.past HL.out.rows;refine K.mono ?_;rintro r w4 ⟨y4,d4,rfl,hU⟩;have h:=H.out.plus hU;clear K hU H4;have g:=h.p1;obtain⟨d0',d1',d2',d3'⟩:=g.cells4;have ff:=g.free;obtain⟨a0,a1,a2,a3⟩:=g.p3.cells4;have g2:=g.set (i:=3) (.slice y4 n.past.length d4)
 simp only[List.setIfInBounds_toArray,List.set_cons_zero,List.set_cons_succ]at g2;obtain⟨r0,r1,r2,r3⟩:=g.p2.cells4;have fr:=g.p2.free;have g4:=g2.p2.set4 (.slice y1 n.nodes.length d1) (.slice y2 n.links.length d2) (.slice y3 n.words.length d3) (.slice y4 n.past.length d4);have F:=hd_ g4;clear h g g2 g4 H;rw[HP2.out]at fr r0 r1 r2 r3;rw[HP.out]at d0' d1' d2' d3' ff;rw[HP.out,HP2.out]at F;go_wp2
 obtain⟨e0,e1,e2,e3⟩:=F.out.cells4;exact bodyPost_ret (v:=.agg #[.slice y1 n.nodes.length d1,.slice y2 n.links.length d2,.slice y3 n.words.length d3,.slice y4 n.past.length d4]) (by simp[results,Tryz.results49,go_sem,e0,e1,e2,e3]) rfl ⟨_,_,_,_,_,_,_,_,rfl,F.out.drop.drop.p1.drop.p1.p2.p3⟩
end N
end Go.Proofs.YtcblbdpdbggkbaaGreat
set_option linter.unusedVariables false
set_option linter.unusedSectionVars false
set_option linter.unusedSimpArgs false
namespace Go.Proofs.YtcblbdpdbggkbaaGreat
open Go.RowKit Go.ChangeShapes Go.WideShapes Go.ChangeAt Go.Deep Go.Joins
namespace N
section
variable {H:Type} {enc:TypeId × Value->H} {w:World}
theorem aDZ:eZ enc Tryz.prog w 183 aCs:=
 rP (yB Tryz.underlying183 rfl rfl rfl rfl (s0:=1) (s1:=1) (s2:=1) (s3:=7) (by kernel_rfl) (by kernel_rfl) (by kernel_rfl) (by kernel_rfl) (by kernel_rfl) (eS Tryz.underlying3) (eS Tryz.underlying3) (eS Tryz.underlying3) aHi) _ (fun p=>⟨p.1,p.2.1,p.2.2.1,p.2.2.2⟩) fun _=>rfl
theorem wO:eZ enc Tryz.prog w 88 lG:=gT Tryz.underlying88 (by kernel_rfl) (by decide) aDZ
theorem aEM:eZ enc Tryz.prog w 220 aAh:=
 rP (aEP Tryz.underlying220 rfl rfl rfl rfl rfl (s0:=1) (s1:=1) (s2:=1) (s3:=1) (s4:=1) (by kernel_rfl) (by kernel_rfl) (by kernel_rfl) (by kernel_rfl) (by kernel_rfl) (by kernel_rfl) (eS Tryz.underlying3) wO (eS Tryz.underlying3) (eS Tryz.underlying3) (eS Tryz.underlying3)) _ (fun p=>⟨p.1,p.2.1,p.2.2.1,p.2.2.2.1,p.2.2.2.2⟩) fun _=>rfl
theorem aFo:eZ enc Tryz.prog w 223 zS:=
 rP (aHw Tryz.underlying223 rfl rfl rfl rfl rfl rfl (s0:=1) (s1:=1) (s2:=1) (s3:=1) (s4:=1) (s5:=1) (by kernel_rfl) (by kernel_rfl) (by kernel_rfl) (by kernel_rfl) (by kernel_rfl) (by kernel_rfl) (by kernel_rfl) (eS Tryz.underlying3) (eS Tryz.underlying3) (eS Tryz.underlying3) (eS Tryz.underlying3) (eS Tryz.underlying3) wO) _ (fun p=>⟨p.1,p.2.1,p.2.2.1,p.2.2.2.1,p.2.2.2.2.1,p.2.2.2.2.2⟩) fun _=>rfl
theorem aFJ:eZ enc Tryz.prog w 28 aA1:=gT Tryz.underlying28 (by kernel_rfl) (by decide) (gT Tryz.underlying34 (by kernel_rfl) (by decide) (gT Tryz.underlying23 (by kernel_rfl) (by decide) (eS Tryz.underlying3)))
theorem aGH:eZ enc Tryz.prog w 80 aEH:=
 rP (yB Tryz.underlying80 rfl rfl rfl rfl (s0:=1) (s1:=1) (s2:=1) (s3:=1) (by kernel_rfl) (by kernel_rfl) (by kernel_rfl) (by kernel_rfl) (by kernel_rfl) (gT Tryz.underlying77 (by kernel_rfl) (by decide) aEM) (gT Tryz.underlying26 (by kernel_rfl) (by decide) (aE5 Tryz.underlying4)) (gT Tryz.underlying78 (by kernel_rfl) (by decide) aFo) aFJ) _ (fun p=>⟨p.1,p.2.1,p.2.2.1,p.2.2.2⟩) fun _=>rfl
end
structure NV where
 x1:Option Addr
 k1:Nat
 c1:Nat
 x2:Option Addr
 k2:Nat
 c2:Nat
 x3:Option Addr
 k3:Nat
 c3:Nat
 x4:Option Addr
 k4:Nat
 c4:Nat
def aLT (w:World) (V:NV) (n:Nt):Prop:=aEH w [.slice V.x1 V.k1 V.c1,.slice V.x2 V.k2 V.c2,.slice V.x3 V.k3 V.c3,.slice V.x4 V.k4 V.c4] n
theorem aIp {H:Type} {enc:TypeId × Value->H} {w:World} {r:Reach} {b0:Nat} {v:Value} {d:DataW H} {p:List MemPlace} (hv:Value.okWide Tryz.prog w r b0 80 v)
  (h:DataW.Trod enc Tryz.prog w 0 (fun _=>true) true 80 v d p):∃V n,v=.agg #[.slice V.x1 V.k1 V.c1,.slice V.x2 V.k2 V.c2,.slice V.x3 V.k3 V.c3,.slice V.x4 V.k4 V.c4]/\aLT w V n:=by
 obtain⟨cs,rfl,_⟩:=okWide_struct Tryz.underlying80 hv;obtain⟨fuel,hf⟩:=h;obtain⟨n,hn⟩:=aGH fuel _ _ hf;obtain⟨v1,v2,v3,v4,ec,h1,h2,h3,h4⟩:=zB.1 hn;obtain⟨x1,c1,e1,_⟩:=aZ h1;obtain⟨x2,c2,e2,_⟩:=aZ h2;obtain⟨x3,c3,e3,_⟩:=aZ h3;obtain⟨x4,c4,e4,_⟩:=aZ h4;cases e1;cases e2;cases e3;cases e4;have ec':cs.toList=_:=ec;obtain⟨cs⟩:=cs;simp only at ec';subst ec'
 exact⟨⟨x1,_,c1,x2,_,c2,x3,_,c3,x4,_,c4⟩,n,rfl,hn⟩
end N
end Go.Proofs.YtcblbdpdbggkbaaGreat
set_option linter.unusedVariables false
set_option linter.unusedSectionVars false
set_option linter.unusedSimpArgs false
namespace Go.Proofs.YtcblbdpdbggkbaaGreat
open Go.RowKit Go.Sort
namespace N
def aBe (es:List En):Prop:=∀e ∈ es,qD e.s
def aK8 (ns:List Nd):Prop:=∀x ∈ ns,aBe x.known
def aK2 (ws:List Wd):Prop:=∀x ∈ ws,aBe x.known
theorem aB5 (w:World) (V1 V2:SV) (e:En) {f1 f2:List Nat} (h1:pC w [.slice V1.xr V1.nr V1.cr,.slice V1.xf V1.nf V1.cf,.slice V1.xt V1.nt V1.ct,.int .i64 (e.s).lo,.int .i64 (e.s).al,.slice V1.xk V1.nk V1.ck,.int .i64 (e.s).ka] e.s f1) (h2:pC w [.slice V2.xr V2.nr V2.cr,.slice V2.xf V2.nf V2.cf,.slice V2.xt V2.nt V2.ct,.int .i64 (e.s).lo,.int .i64 (e.s).al,.slice V2.xk V2.nk V2.ck,.int .i64 (e.s).ka] e.s f2) (hl:qD e.s):
  Calls Tryz.prog 128 #[.agg #[.int .i64 e.node,.int .i64 e.born,.int .i64 e.num,.slice V1.xr V1.nr V1.cr,.slice V1.xf V1.nf V1.cf,.slice V1.xt V1.nt V1.ct,.int .i64 (e.s).lo,.int .i64 (e.s).al,.slice V1.xk V1.nk V1.ck,.int .i64 (e.s).ka],.agg #[.int .i64 e.node,.int .i64 e.born,.int .i64 e.num,.slice V2.xr V2.nr V2.cr,.slice V2.xf V2.nf V2.cf,.slice V2.xt V2.nt V2.ct,.int .i64 (e.s).lo,.int .i64 (e.s).al,.slice V2.xk V2.nk V2.ck,.int .i64 (e.s).ka]] w fun r w'=>r=.returned (.bool true)/\Below w.heap.size w w':=by
 obtain⟨i,bo,nu,s⟩:=e;simp only at h1 h2 hl ⊢
 have H:=hd_ (((M.start w).alloc #[.int .i64 i,.int .i64 bo,.int .i64 nu,.slice V1.xr V1.nr V1.cr,.slice V1.xf V1.nf V1.cf,.slice V1.xt V1.nt V1.ct,.int .i64 s.lo,.int .i64 s.al,.slice V1.xk V1.nk V1.ck,.int .i64 s.ka] 64).alloc #[.int .i64 i,.int .i64 bo,.int .i64 nu,.slice V2.xr V2.nr V2.cr,.slice V2.xf V2.nf V2.cf,.slice V2.xt V2.nt V2.ct,.int .i64 s.lo,.int .i64 s.al,.slice V2.xk V2.nk V2.ck,.int .i64 s.ka] 64)
 obtain⟨U1,e1,r1⟩:=uQ (bC.below h1 H.out.below lr_);obtain⟨U2,e2,r2⟩:=uQ (bC.below h2 H.out.below lr_);have K:=hd_ (aJx _ U1 U2 s r1 r2 hl);simp only[List.cons.injEq,Value.slice.injEq,true_and,and_true]at e1 e2;obtain⟨⟨a1,a2,a3⟩,⟨a4,a5,a6⟩,⟨a7,a8,a9⟩,a10,a11,a12⟩:=e1;obtain⟨⟨b1,b2,b3⟩,⟨b4,b5,b6⟩,⟨b7,b8,b9⟩,b10,b11,b12⟩:=e2
 rw[<-a1, <-a2, <-a3, <-a4, <-a5, <-a6, <-a7, <-a8, <-a9, <-a10, <-a11, <-a12, <-b1, <-b2, <-b3, <-b4, <-b5, <-b6, <-b7, <-b8, <-b9, <-b10, <-b11, <-b12]at K;clear a1 a2 a3 a4 a5 a6 a7 a8 a9 a10 a11 a12 b1 b2 b3 b4 b5 b6 b7 b8 b9 b10 b11 b12 r1 r2 h1 h2 hl;obtain⟨c0,c1,c2,c3,c4,c5,c6,c7,c8,c9⟩:=H.out.p1.cells10;obtain⟨d0,d1,d2,d3,d4,d5,d6,d7,d8,d9⟩:=H.out.cells10
 simp only[World.size_alloc]at d0 d1 d2 d3 d4 d5 d6 d7 d8 d9;go_enter Tryz.func128,Tryz.ntmps128
 go_wp2_with fail
 refine K.out.mono ?_;rintro r w1 ⟨rfl,hb⟩;have H1:=hd_ (H.out.later hb);clear K hb c0 c1 c2 c3 c4 c5 c6 c7 c8 c9 d0 d1 d2 d3 d4 d5 d6 d7 d8 d9 H;go_wp2;go_ret;exact⟨rfl,H1.out.below⟩
theorem iN (w:World) {x1 x2:Option Addr} {n m c1 c2:Nat} {xs:List En} {f1 f2:List Nat} (h1:eF TY w [.slice x1 n c1] xs f1) (h2:eF TY w [.slice x2 m c2] xs f2) (hl:aBe xs):
  Calls Tryz.prog 55 #[.slice x1 n c1,.slice x2 m c2] w fun r w'=>r=.returned (.bool true)/\Below w.heap.size w w':=by
 obtain rfl:n=xs.length:=(aO h1).1;obtain rfl:m=xs.length:=(aO h2).1;obtain⟨_,_,e1,q1,q2⟩:=aS h1;have hm:xs.length<=maxLen:=Nat.le_trans q1 q2;unfold maxLen at hm;clear e1 q1 q2;have H1:=hd_ h1;have H2:=hd_ h2;have HL:=hd_ hl;have n0:((xs.length:Int) != (xs.length:Int))=false:=by simp
 clear h1 h2 hl;go_enter Tryz.func55,Tryz.ntmps55;go_wp2;go_loopw [5] (fun i wr=>∃k:Nat,k<=xs.length/\i=.int .i64 k/\Below w.heap.size w wr) (fun i _=>xs.length - (intOf i).toNat)
 case atStart=>exact⟨0,Nat.zero_le _,rfl,Below.refl _ _⟩
 case round=>
  obtain⟨k,hk,rfl,hb⟩:=hrel;have HB:=hd_ hb;clear hb
  by_cases hlt:k<xs.length
  ·obtain⟨a,ha⟩:∃a,xs[k]? =some a:=⟨_,List.getElem?_eq_getElem hlt⟩
   have k0:(0:Int)<=(k:Int):=by omega
   have k1:(k:Int)<(xs.length:Int):=by omega
   obtain⟨g1,V1,p1,rfl,q1,_,r1,ca0,ca1,ca2,cas⟩:=iO H1.out ha;obtain⟨g2,V2,p2,rfl,q2,_,r2,cb0,cb1,cb2,cbs⟩:=iO H2.out ha;have ca3:=cas 0 _ rfl;have ca4:=cas 1 _ rfl;have ca5:=cas 2 _ rfl;have ca6:=cas 3 _ rfl;have ca7:=cas 4 _ rfl;have ca8:=cas 5 _ rfl;have ca9:=cas 6 _ rfl;have cb3:=cbs 0 _ rfl;have cb4:=cbs 1 _ rfl;have cb5:=cbs 2 _ rfl;have cb6:=cbs 3 _ rfl;have cb7:=cbs 4 _ rfl
   have cb8:=cbs 5 _ rfl;have cb9:=cbs 6 _ rfl;have R1:=hd_ r1;have R2:=hd_ r2;clear cas cbs r1 r2 q1 q2;have LA:=hd_ (HL.out a (List.mem_of_getElem? ha));clear ha
   have SS:=hd_ (fun w' (hb:Below w.heap.size w w')=>show w'.cell? ⟨g1,k * 10,none⟩=some (.int .i64 a.node)/\w'.cell? ⟨g1,k * 10+1,none⟩=some (.int .i64 a.born)/\w'.cell? ⟨g1,k * 10+2,none⟩=some (.int .i64 a.num)/\w'.cell? ⟨g1,k * 10+3,none⟩=some (.slice V1.xr V1.nr V1.cr)/\w'.cell? ⟨g1,k * 10+4,none⟩=some (.slice V1.xf V1.nf V1.cf)/\w'.cell? ⟨g1,k * 10+5,none⟩=some (.slice V1.xt V1.nt V1.ct)/\w'.cell? ⟨g1,k * 10+6,none⟩=some (.int .i64 a.s.lo)/\w'.cell? ⟨g1,k * 10+7,none⟩=some (.int .i64 a.s.al)/\w'.cell? ⟨g1,k * 10+8,none⟩=some (.slice V1.xk V1.nk V1.ck)/\w'.cell? ⟨g1,k * 10+9,none⟩=some (.int .i64 a.s.ka)/\w'.cell? ⟨g2,k * 10,none⟩=some (.int .i64 a.node)/\w'.cell? ⟨g2,k * 10+1,none⟩=some (.int .i64 a.born)/\w'.cell? ⟨g2,k * 10+2,none⟩=some (.int .i64 a.num)/\w'.cell? ⟨g2,k * 10+3,none⟩=some (.slice V2.xr V2.nr V2.cr)/\w'.cell? ⟨g2,k * 10+4,none⟩=some (.slice V2.xf V2.nf V2.cf)/\w'.cell? ⟨g2,k * 10+5,none⟩=some (.slice V2.xt V2.nt V2.ct)/\w'.cell? ⟨g2,k * 10+6,none⟩=some (.int .i64 a.s.lo)/\w'.cell? ⟨g2,k * 10+7,none⟩=some (.int .i64 a.s.al)/\w'.cell? ⟨g2,k * 10+8,none⟩=some (.slice V2.xk V2.nk V2.ck)/\w'.cell? ⟨g2,k * 10+9,none⟩=some (.int .i64 a.s.ka)from⟨cell_later hb ca0,cell_later hb ca1,cell_later hb ca2,cell_later hb ca3,cell_later hb ca4,cell_later hb ca5,cell_later hb ca6,cell_later hb ca7,cell_later hb ca8,cell_later hb ca9,cell_later hb cb0,cell_later hb cb1,cell_later hb cb2,cell_later hb cb3,cell_later hb cb4,cell_later hb cb5,cell_later hb cb6,cell_later hb cb7,cell_later hb cb8,cell_later hb cb9⟩)
   clear ca0 ca1 ca2 ca3 ca4 ca5 ca6 ca7 ca8 ca9 cb0 cb1 cb2 cb3 cb4 cb5 cb6 cb7 cb8 cb9;go_wp2
   refine aE 99 (.tk 0 8 (.alt 8 (.take 9 .done) .nomore)) (fun w'=>w'.cell? ⟨g1,k * 10,none⟩=some (.int .i64 a.node)/\w'.cell? ⟨g1,k * 10+1,none⟩=some (.int .i64 a.born)/\w'.cell? ⟨g1,k * 10+2,none⟩=some (.int .i64 a.num)/\w'.cell? ⟨g1,k * 10+3,none⟩=some (.slice V1.xr V1.nr V1.cr)/\w'.cell? ⟨g1,k * 10+4,none⟩=some (.slice V1.xf V1.nf V1.cf)/\w'.cell? ⟨g1,k * 10+5,none⟩=some (.slice V1.xt V1.nt V1.ct)/\w'.cell? ⟨g1,k * 10+6,none⟩=some (.int .i64 a.s.lo)/\w'.cell? ⟨g1,k * 10+7,none⟩=some (.int .i64 a.s.al)/\w'.cell? ⟨g1,k * 10+8,none⟩=some (.slice V1.xk V1.nk V1.ck)/\w'.cell? ⟨g1,k * 10+9,none⟩=some (.int .i64 a.s.ka)/\w'.cell? ⟨g2,k * 10,none⟩=some (.int .i64 a.node)/\w'.cell? ⟨g2,k * 10+1,none⟩=some (.int .i64 a.born)/\w'.cell? ⟨g2,k * 10+2,none⟩=some (.int .i64 a.num)/\w'.cell? ⟨g2,k * 10+3,none⟩=some (.slice V2.xr V2.nr V2.cr)/\w'.cell? ⟨g2,k * 10+4,none⟩=some (.slice V2.xf V2.nf V2.cf)/\w'.cell? ⟨g2,k * 10+5,none⟩=some (.slice V2.xt V2.nt V2.ct)/\w'.cell? ⟨g2,k * 10+6,none⟩=some (.int .i64 a.s.lo)/\w'.cell? ⟨g2,k * 10+7,none⟩=some (.int .i64 a.s.al)/\w'.cell? ⟨g2,k * 10+8,none⟩=some (.slice V2.xk V2.nk V2.ck)/\w'.cell? ⟨g2,k * 10+9,none⟩=some (.int .i64 a.s.ka)) (by kernel_rfl) (by kernel_rfl) (fun _ _ _ _ _ h=>h) (SS.out _ HB.out.drew) ?_
   have HD:=hd_ HB.out.drew;clear HB;generalize wr.drew=w3 at HD ⊢
   repeat ((first|(refine aC (by rfl) (by rfl) ?_;apply Exists.intro;refine⟨fun w' hw'=>?_,?_⟩;(· ((try dsimp only at hw');go_simp;(try with_reducible rfl))))|(refine aB (by rfl) (by rfl) ?_));simp only[Act.put,List.getElem_toArray,List.getElem_cons_succ,pg3,pg4,pg5,pg6])
   refine aD (by rfl) (fun K hK=>?_);go_simp;refine (aB5 _ V1 V2 a (bC.below R1.out HD.out lr_) (bC.below R2.out HD.out lr_) LA.out).mono ?_;rintro r w4 ⟨rfl,hb⟩;have HE:=hd_ (HD.out.trans (hb.mono HD.out.size));clear hb;refine hK _ _ (.inr (SS.out _ HE.out)) ?_;clear hK K
   try simp only[Act.put,List.getElem_toArray,List.getElem_cons_succ,pg3,pg4,pg5,pg6]
   repeat ((first|(refine aC (by rfl) (by rfl) ?_;apply Exists.intro;refine⟨fun w' hw'=>?_,?_⟩;(· ((try dsimp only at hw');go_simp;(try with_reducible rfl))))|(refine aB (by rfl) (by rfl) ?_));simp only[Act.put,List.getElem_toArray,List.getElem_cons_succ,pg3,pg4,pg5,pg6])
   refine aI ?_;clear SS HD;go_wp2;go_roundw
   case rel=>exact⟨k+1,hlt,by go_num,HE.out⟩
   case measure=>simp[intOf];omega
  ·go_wp2
   go_ret;exact⟨rfl,HB.out⟩
theorem aCS (w:World) {a:Nd} {x1 x2:Option Addr} {n1 n2 c1 c2:Nat} {f1 f2:List Nat} (h1:eF TY w [.slice x1 n1 c1] a.known f1) (h2:eF TY w [.slice x2 n2 c2] a.known f2) (hl:aBe a.known):
  Calls Tryz.prog 188 #[.agg #[.int .i64 a.born,.slice x1 n1 c1,.int .i64 a.beacon,.int .i64 a.level,.int .i64 a.up],.agg #[.int .i64 a.born,.slice x2 n2 c2,.int .i64 a.beacon,.int .i64 a.level,.int .i64 a.up]] w fun r w'=>r=.returned (.bool true)/\Below w.heap.size w w':=by
 have H:=hd_ (((M.start w).alloc #[.int .i64 a.born,.slice x1 n1 c1,.int .i64 a.beacon,.int .i64 a.level,.int .i64 a.up] 55).alloc #[.int .i64 a.born,.slice x2 n2 c2,.int .i64 a.beacon,.int .i64 a.level,.int .i64 a.up] 55);have R1:=hd_ h1;have R2:=hd_ h2;have HL:=hd_ hl;clear h1 h2 hl;obtain⟨c0,c1,c2,c3,c4⟩:=H.out.p1.cells5;obtain⟨d0,d1,d2,d3,d4⟩:=H.out.cells5
 simp only[World.size_alloc]at d0 d1 d2 d3 d4;go_enter Tryz.func188,Tryz.ntmps188
 go_wp2_with fail
 refine (iN _ (dL.below R1.out H.out.below lr_) (dL.below R2.out H.out.below lr_) HL.out).mono ?_;rintro r w1 ⟨rfl,hb⟩;have H1:=hd_ (H.out.later hb);clear hb c0 c1 c2 c3 c4 d0 d1 d2 d3 d4;obtain⟨c0,c1,c2,c3,c4⟩:=H1.out.p1.cells5;obtain⟨d0,d1,d2,d3,d4⟩:=H1.out.cells5;simp only[World.size_alloc]at d0 d1 d2 d3 d4;go_wp2;go_ret;exact⟨rfl,H1.out.below⟩
theorem aBD (w:World) {x1 x2:Option Addr} {n m c1 c2:Nat} {xs:List Nd} {f1 f2:List Nat} (h1:oS TY w [.slice x1 n c1] xs f1) (h2:oS TY w [.slice x2 m c2] xs f2) (hl:aK8 xs):
  Calls Tryz.prog 120 #[.slice x1 n c1,.slice x2 m c2] w fun r w'=>r=.returned (.bool true)/\Below w.heap.size w w':=by
 obtain rfl:n=xs.length:=(aO h1).1;obtain rfl:m=xs.length:=(aO h2).1;obtain⟨_,_,e1,q1,q2⟩:=aS h1;have hm:xs.length<=maxLen:=Nat.le_trans q1 q2;unfold maxLen at hm;clear e1 q1 q2;have H1:=hd_ h1;have H2:=hd_ h2;have HL:=hd_ hl;have n0:((xs.length:Int) != (xs.length:Int))=false:=by simp
 clear h1 h2 hl;go_enter Tryz.func120,Tryz.ntmps120;go_wp2;go_loopw [5] (fun i wr=>∃k:Nat,k<=xs.length/\i=.int .i64 k/\Below w.heap.size w wr) (fun i _=>xs.length - (intOf i).toNat)
 case atStart=>exact⟨0,Nat.zero_le _,rfl,Below.refl _ _⟩
 case round=>
  obtain⟨k,hk,rfl,hb⟩:=hrel;have HB:=hd_ hb;clear hb
  by_cases hlt:k<xs.length
  ·obtain⟨a,ha⟩:∃a,xs[k]? =some a:=⟨_,List.getElem?_eq_getElem hlt⟩
   have k0:(0:Int)<=(k:Int):=by omega
   have k1:(k:Int)<(xs.length:Int):=by omega
   obtain⟨g1,y1,d1,p1,rfl,q1,_,r1,_,_,ca0,ca1,ca2,ca3,ca4⟩:=fQ H1.out ha;obtain⟨g2,y2,d2,p2,rfl,q2,_,r2,_,_,cb0,cb1,cb2,cb3,cb4⟩:=fQ H2.out ha;have R1:=hd_ r1;have R2:=hd_ r2;clear r1 r2 q1 q2;have LA:=hd_ (HL.out a (List.mem_of_getElem? ha));clear ha
   have SS:=hd_ (fun w' (hb:Below w.heap.size w w')=>show w'.cell? ⟨g1,k * 5,none⟩=some (.int .i64 a.born)/\w'.cell? ⟨g1,k * 5+1,none⟩=some (.slice y1 a.known.length d1)/\w'.cell? ⟨g1,k * 5+2,none⟩=some (.int .i64 a.beacon)/\w'.cell? ⟨g1,k * 5+3,none⟩=some (.int .i64 a.level)/\w'.cell? ⟨g1,k * 5+4,none⟩=some (.int .i64 a.up)/\w'.cell? ⟨g2,k * 5,none⟩=some (.int .i64 a.born)/\w'.cell? ⟨g2,k * 5+1,none⟩=some (.slice y2 a.known.length d2)/\w'.cell? ⟨g2,k * 5+2,none⟩=some (.int .i64 a.beacon)/\w'.cell? ⟨g2,k * 5+3,none⟩=some (.int .i64 a.level)/\w'.cell? ⟨g2,k * 5+4,none⟩=some (.int .i64 a.up)from⟨cell_later hb ca0,cell_later hb ca1,cell_later hb ca2,cell_later hb ca3,cell_later hb ca4,cell_later hb cb0,cell_later hb cb1,cell_later hb cb2,cell_later hb cb3,cell_later hb cb4⟩)
   clear ca0 ca1 ca2 ca3 ca4 cb0 cb1 cb2 cb3 cb4;go_wp2
   refine aE 99 (.tk 0 8 (.alt 8 (.take 9 .done) .nomore)) (fun w'=>w'.cell? ⟨g1,k * 5,none⟩=some (.int .i64 a.born)/\w'.cell? ⟨g1,k * 5+1,none⟩=some (.slice y1 a.known.length d1)/\w'.cell? ⟨g1,k * 5+2,none⟩=some (.int .i64 a.beacon)/\w'.cell? ⟨g1,k * 5+3,none⟩=some (.int .i64 a.level)/\w'.cell? ⟨g1,k * 5+4,none⟩=some (.int .i64 a.up)/\w'.cell? ⟨g2,k * 5,none⟩=some (.int .i64 a.born)/\w'.cell? ⟨g2,k * 5+1,none⟩=some (.slice y2 a.known.length d2)/\w'.cell? ⟨g2,k * 5+2,none⟩=some (.int .i64 a.beacon)/\w'.cell? ⟨g2,k * 5+3,none⟩=some (.int .i64 a.level)/\w'.cell? ⟨g2,k * 5+4,none⟩=some (.int .i64 a.up)) (by kernel_rfl) (by kernel_rfl) (fun _ _ _ _ _ h=>h) (SS.out _ HB.out.drew) ?_
   have HD:=hd_ HB.out.drew;clear HB;generalize wr.drew=w3 at HD ⊢
   repeat ((first|(refine aC (by rfl) (by rfl) ?_;apply Exists.intro;refine⟨fun w' hw'=>?_,?_⟩;(· ((try dsimp only at hw');go_simp;(try with_reducible rfl))))|(refine aB (by rfl) (by rfl) ?_));simp only[Act.put,List.getElem_toArray,List.getElem_cons_succ,pg3,pg4,pg5,pg6])
   refine aD (by rfl) (fun K hK=>?_);go_simp;refine (aCS _ (dL.below R1.out HD.out lr_) (dL.below R2.out HD.out lr_) LA.out).mono ?_;rintro r w4 ⟨rfl,hb⟩;have HE:=hd_ (HD.out.trans (hb.mono HD.out.size));clear hb;refine hK _ _ (.inr (SS.out _ HE.out)) ?_;clear hK K
   try simp only[Act.put,List.getElem_toArray,List.getElem_cons_succ,pg3,pg4,pg5,pg6]
   repeat ((first|(refine aC (by rfl) (by rfl) ?_;apply Exists.intro;refine⟨fun w' hw'=>?_,?_⟩;(· ((try dsimp only at hw');go_simp;(try with_reducible rfl))))|(refine aB (by rfl) (by rfl) ?_));simp only[Act.put,List.getElem_toArray,List.getElem_cons_succ,pg3,pg4,pg5,pg6])
   refine aI ?_;clear SS HD;go_wp2;go_roundw
   case rel=>exact⟨k+1,hlt,by go_num,HE.out⟩
   case measure=>simp[intOf];omega
  ·go_wp2
   go_ret;exact⟨rfl,HB.out⟩
theorem aEg (w:World) {a:Wd} {x1 x2:Option Addr} {n1 n2 c1 c2:Nat} {f1 f2:List Nat} (h1:eF TY w [.slice x1 n1 c1] a.known f1) (h2:eF TY w [.slice x2 n2 c2] a.known f2) (hl:aBe a.known):
  Calls Tryz.prog 189 #[.agg #[.int .i64 a.kind,.int .i64 a.src,.int .i64 a.dst,.int .i64 a.beacon,.int .i64 a.level,.slice x1 n1 c1],.agg #[.int .i64 a.kind,.int .i64 a.src,.int .i64 a.dst,.int .i64 a.beacon,.int .i64 a.level,.slice x2 n2 c2]] w fun r w'=>r=.returned (.bool true)/\Below w.heap.size w w':=by
 have H:=hd_ (((M.start w).alloc #[.int .i64 a.kind,.int .i64 a.src,.int .i64 a.dst,.int .i64 a.beacon,.int .i64 a.level,.slice x1 n1 c1] 123).alloc #[.int .i64 a.kind,.int .i64 a.src,.int .i64 a.dst,.int .i64 a.beacon,.int .i64 a.level,.slice x2 n2 c2] 123);have R1:=hd_ h1;have R2:=hd_ h2;have HL:=hd_ hl;clear h1 h2 hl;obtain⟨c0,c1,c2,c3,c4,c5⟩:=H.out.p1.cells6
 obtain⟨d0,d1,d2,d3,d4,d5⟩:=H.out.cells6;simp only[World.size_alloc]at d0 d1 d2 d3 d4 d5;go_enter Tryz.func189,Tryz.ntmps189
 go_wp2_with fail
 refine (iN _ (dL.below R1.out H.out.below lr_) (dL.below R2.out H.out.below lr_) HL.out).mono ?_;rintro r w1 ⟨rfl,hb⟩;have H1:=hd_ (H.out.later hb);clear hb c0 c1 c2 c3 c4 c5 d0 d1 d2 d3 d4 d5;obtain⟨c0,c1,c2,c3,c4,c5⟩:=H1.out.p1.cells6;obtain⟨d0,d1,d2,d3,d4,d5⟩:=H1.out.cells6;simp only[World.size_alloc]at d0 d1 d2 d3 d4 d5;go_wp2;go_ret;exact⟨rfl,H1.out.below⟩
theorem aB1 (w:World) {x1 x2:Option Addr} {n m c1 c2:Nat} {xs:List Wd} {f1 f2:List Nat} (h1:tC TY w [.slice x1 n c1] xs f1) (h2:tC TY w [.slice x2 m c2] xs f2) (hl:aK2 xs):
  Calls Tryz.prog 122 #[.slice x1 n c1,.slice x2 m c2] w fun r w'=>r=.returned (.bool true)/\Below w.heap.size w w':=by
 obtain rfl:n=xs.length:=(aO h1).1;obtain rfl:m=xs.length:=(aO h2).1;obtain⟨_,_,e1,q1,q2⟩:=aS h1;have hm:xs.length<=maxLen:=Nat.le_trans q1 q2;unfold maxLen at hm;clear e1 q1 q2;have H1:=hd_ h1;have H2:=hd_ h2;have HL:=hd_ hl;have n0:((xs.length:Int) != (xs.length:Int))=false:=by simp
 clear h1 h2 hl;go_enter Tryz.func122,Tryz.ntmps122;go_wp2;go_loopw [5] (fun i wr=>∃k:Nat,k<=xs.length/\i=.int .i64 k/\Below w.heap.size w wr) (fun i _=>xs.length - (intOf i).toNat)
 case atStart=>exact⟨0,Nat.zero_le _,rfl,Below.refl _ _⟩
 case round=>
  obtain⟨k,hk,rfl,hb⟩:=hrel;have HB:=hd_ hb;clear hb
  by_cases hlt:k<xs.length
  ·obtain⟨a,ha⟩:∃a,xs[k]? =some a:=⟨_,List.getElem?_eq_getElem hlt⟩
   have k0:(0:Int)<=(k:Int):=by omega
   have k1:(k:Int)<(xs.length:Int):=by omega
   obtain⟨g1,y1,d1,p1,rfl,q1,_,r1,_,_,ca0,ca1,ca2,ca3,ca4,ca5⟩:=tI H1.out ha;obtain⟨g2,y2,d2,p2,rfl,q2,_,r2,_,_,cb0,cb1,cb2,cb3,cb4,cb5⟩:=tI H2.out ha;have R1:=hd_ r1;have R2:=hd_ r2;clear r1 r2 q1 q2;have LA:=hd_ (HL.out a (List.mem_of_getElem? ha));clear ha
   have SS:=hd_ (fun w' (hb:Below w.heap.size w w')=>show w'.cell? ⟨g1,k * 6,none⟩=some (.int .i64 a.kind)/\w'.cell? ⟨g1,k * 6+1,none⟩=some (.int .i64 a.src)/\w'.cell? ⟨g1,k * 6+2,none⟩=some (.int .i64 a.dst)/\w'.cell? ⟨g1,k * 6+3,none⟩=some (.int .i64 a.beacon)/\w'.cell? ⟨g1,k * 6+4,none⟩=some (.int .i64 a.level)/\w'.cell? ⟨g1,k * 6+5,none⟩=some (.slice y1 a.known.length d1)/\w'.cell? ⟨g2,k * 6,none⟩=some (.int .i64 a.kind)/\w'.cell? ⟨g2,k * 6+1,none⟩=some (.int .i64 a.src)/\w'.cell? ⟨g2,k * 6+2,none⟩=some (.int .i64 a.dst)/\w'.cell? ⟨g2,k * 6+3,none⟩=some (.int .i64 a.beacon)/\w'.cell? ⟨g2,k * 6+4,none⟩=some (.int .i64 a.level)/\w'.cell? ⟨g2,k * 6+5,none⟩=some (.slice y2 a.known.length d2)from⟨cell_later hb ca0,cell_later hb ca1,cell_later hb ca2,cell_later hb ca3,cell_later hb ca4,cell_later hb ca5,cell_later hb cb0,cell_later hb cb1,cell_later hb cb2,cell_later hb cb3,cell_later hb cb4,cell_later hb cb5⟩)
   clear ca0 ca1 ca2 ca3 ca4 ca5 cb0 cb1 cb2 cb3 cb4 cb5;go_wp2
   refine aE 99 (.tk 0 8 (.alt 8 (.take 9 .done) .nomore)) (fun w'=>w'.cell? ⟨g1,k * 6,none⟩=some (.int .i64 a.kind)/\w'.cell? ⟨g1,k * 6+1,none⟩=some (.int .i64 a.src)/\w'.cell? ⟨g1,k * 6+2,none⟩=some (.int .i64 a.dst)/\w'.cell? ⟨g1,k * 6+3,none⟩=some (.int .i64 a.beacon)/\w'.cell? ⟨g1,k * 6+4,none⟩=some (.int .i64 a.level)/\w'.cell? ⟨g1,k * 6+5,none⟩=some (.slice y1 a.known.length d1)/\w'.cell? ⟨g2,k * 6,none⟩=some (.int .i64 a.kind)/\w'.cell? ⟨g2,k * 6+1,none⟩=some (.int .i64 a.src)/\w'.cell? ⟨g2,k * 6+2,none⟩=some (.int .i64 a.dst)/\w'.cell? ⟨g2,k * 6+3,none⟩=some (.int .i64 a.beacon)/\w'.cell? ⟨g2,k * 6+4,none⟩=some (.int .i64 a.level)/\w'.cell? ⟨g2,k * 6+5,none⟩=some (.slice y2 a.known.length d2)) (by kernel_rfl) (by kernel_rfl) (fun _ _ _ _ _ h=>h) (SS.out _ HB.out.drew) ?_
   have HD:=hd_ HB.out.drew;clear HB;generalize wr.drew=w3 at HD ⊢
   repeat ((first|(refine aC (by rfl) (by rfl) ?_;apply Exists.intro;refine⟨fun w' hw'=>?_,?_⟩;(· ((try dsimp only at hw');go_simp;(try with_reducible rfl))))|(refine aB (by rfl) (by rfl) ?_));simp only[Act.put,List.getElem_toArray,List.getElem_cons_succ,pg3,pg4,pg5,pg6])
   refine aD (by rfl) (fun K hK=>?_);go_simp;refine (aEg _ (dL.below R1.out HD.out lr_) (dL.below R2.out HD.out lr_) LA.out).mono ?_;rintro r w4 ⟨rfl,hb⟩;have HE:=hd_ (HD.out.trans (hb.mono HD.out.size));clear hb;refine hK _ _ (.inr (SS.out _ HE.out)) ?_;clear hK K
   try simp only[Act.put,List.getElem_toArray,List.getElem_cons_succ,pg3,pg4,pg5,pg6]
   repeat ((first|(refine aC (by rfl) (by rfl) ?_;apply Exists.intro;refine⟨fun w' hw'=>?_,?_⟩;(· ((try dsimp only at hw');go_simp;(try with_reducible rfl))))|(refine aB (by rfl) (by rfl) ?_));simp only[Act.put,List.getElem_toArray,List.getElem_cons_succ,pg3,pg4,pg5,pg6])
   refine aI ?_;clear SS HD;go_wp2;go_roundw
   case rel=>exact⟨k+1,hlt,by go_num,HE.out⟩
   case measure=>simp[intOf];omega
  ·go_wp2
   go_ret;exact⟨rfl,HB.out⟩
theorem aCa (w:World) {x1 x2:Option Addr} {n m c1 c2:Nat} {xs:List Bool} {f1 f2:List Nat} (h1:pE TY w [.slice x1 n c1] xs f1) (h2:pE TY w [.slice x2 m c2] xs f2):
  Calls Tryz.prog 121 #[.slice x1 n c1,.slice x2 m c2] w fun r w'=>r=.returned (.bool true)/\Below w.heap.size w w':=by
 obtain rfl:n=xs.length:=(aO h1).1;obtain rfl:m=xs.length:=(aO h2).1;obtain⟨_,_,e1,q1,q2⟩:=aS h1;have hm:xs.length<=maxLen:=Nat.le_trans q1 q2;unfold maxLen at hm;clear e1 q1 q2;have H1:=hd_ h1;have H2:=hd_ h2;have n0:((xs.length:Int) != (xs.length:Int))=false:=by simp
 clear h1 h2;go_enter Tryz.func121,Tryz.ntmps121;go_wp2;go_loopw [5] (fun i wr=>∃k:Nat,k<=xs.length/\i=.int .i64 k/\Below w.heap.size w wr) (fun i _=>xs.length - (intOf i).toNat)
 case atStart=>exact⟨0,Nat.zero_le _,rfl,Below.refl _ _⟩
 case round=>
  obtain⟨k,hk,rfl,hb⟩:=hrel;have HB:=hd_ hb;clear hb
  by_cases hlt:k<xs.length
  ·obtain⟨a,ha⟩:∃a,xs[k]? =some a:=⟨_,List.getElem?_eq_getElem hlt⟩
   have k0:(0:Int)<=(k:Int):=by omega
   have k1:(k:Int)<(xs.length:Int):=by omega
   obtain⟨g1,rfl,_,ca0⟩:=nC H1.out ha;obtain⟨g2,rfl,_,cb0⟩:=nC H2.out ha;clear ha;have SS:=hd_ (fun w' (hb:Below w.heap.size w w')=>show w'.cell? ⟨g1,k,none⟩=some (.bool a)/\w'.cell? ⟨g2,k,none⟩=some (.bool a)from⟨cell_later hb ca0,cell_later hb cb0⟩);clear ca0 cb0;go_wp2
   refine aE 99 (.tk 0 9 .done) (fun w'=>w'.cell? ⟨g1,k,none⟩=some (.bool a)/\w'.cell? ⟨g2,k,none⟩=some (.bool a)) (by kernel_rfl) (by kernel_rfl) (fun _ _ _ _ _ h=>h) (SS.out _ HB.out.drew) ?_;have HD:=hd_ HB.out.drew;clear HB;generalize wr.drew=w3 at HD ⊢
   repeat ((first|(refine aC (by rfl) (by rfl) ?_;apply Exists.intro;refine⟨fun w' hw'=>?_,?_⟩;(· ((try dsimp only at hw');go_simp;(try with_reducible rfl))))|(refine aB (by rfl) (by rfl) ?_));simp only[Act.put,List.getElem_toArray,List.getElem_cons_succ,pg3,pg4,pg5,pg6])
   have HE:=HD;refine aI ?_;clear SS HD;go_wp2;go_roundw
   case rel=>exact⟨k+1,hlt,by go_num,HE.out⟩
   case measure=>simp[intOf];omega
  ·go_wp2
   go_ret;exact⟨rfl,HB.out⟩
theorem aBC (w:World) {v1 v2:Value} {rs:List (List Int)} {f1 f2:List Nat} (h1:oL w [v1] rs f1) (h2:oL w [v2] rs f2):
  Calls Tryz.prog 190 #[v1,v2] w fun r w'=>r=.returned (.bool true)/\Below w.heap.size w w':=by
 have hm:rs.length<=maxLen:=by obtain⟨_,_,_,q1,q2⟩:=aS h1;exact Nat.le_trans q1 q2
 have hr:∀i,i<rs.length->(rs.getD i []).length<=maxLen:=fun i hi=>by
  obtain⟨x,c,rfl,_⟩:=aS h1;have hi':rs[i]? =some (rs.getD i []):=by simp[List.getD,hi]
  obtain⟨_,_,_,_,_,_,_,_,q1,q2,_⟩:=lE h1 hi';exact Nat.le_trans q1 q2
 obtain⟨u1,e1,r1⟩:=uL h1;obtain⟨u2,e2,r2⟩:=uL h2;cases e1;cases e2;have K:=yG w v1 v2 rs rs r1 r2 hm hr;rw[show decide (rs=rs)=true from decide_eq_true rfl]at K;exact K
theorem aAK (w:World) {x1 x2:Option Addr} {n m c1 c2:Nat} {xs:List (List (List Int))} {f1 f2:List Nat} (h1:aAk TY w [.slice x1 n c1] xs f1) (h2:aAk TY w [.slice x2 m c2] xs f2):
  Calls Tryz.prog 123 #[.slice x1 n c1,.slice x2 m c2] w fun r w'=>r=.returned (.bool true)/\Below w.heap.size w w':=by
 obtain rfl:n=xs.length:=(aO h1).1;obtain rfl:m=xs.length:=(aO h2).1;obtain⟨_,_,e1,q1,q2⟩:=aS h1;have hm:xs.length<=maxLen:=Nat.le_trans q1 q2;unfold maxLen at hm;clear e1 q1 q2;have H1:=hd_ h1;have H2:=hd_ h2;have n0:((xs.length:Int) != (xs.length:Int))=false:=by simp
 clear h1 h2;go_enter Tryz.func123,Tryz.ntmps123;go_wp2;go_loopw [5] (fun i wr=>∃k:Nat,k<=xs.length/\i=.int .i64 k/\Below w.heap.size w wr) (fun i _=>xs.length - (intOf i).toNat)
 case atStart=>exact⟨0,Nat.zero_le _,rfl,Below.refl _ _⟩
 case round=>
  obtain⟨k,hk,rfl,hb⟩:=hrel;have HB:=hd_ hb;clear hb
  by_cases hlt:k<xs.length
  ·obtain⟨a,ha⟩:∃a,xs[k]? =some a:=⟨_,List.getElem?_eq_getElem hlt⟩
   have k0:(0:Int)<=(k:Int):=by omega
   have k1:(k:Int)<(xs.length:Int):=by omega
   obtain⟨g1,y1,d1,p1,rfl,q1,_,r1,_,_,ca0⟩:=lP H1.out ha;obtain⟨g2,y2,d2,p2,rfl,q2,_,r2,_,_,cb0⟩:=lP H2.out ha;have R1:=hd_ r1;have R2:=hd_ r2;clear r1 r2 q1 q2;clear ha;have SS:=hd_ (fun w' (hb:Below w.heap.size w w')=>show w'.cell? ⟨g1,k,none⟩=some (.slice y1 a.length d1)/\w'.cell? ⟨g2,k,none⟩=some (.slice y2 a.length d2)from⟨cell_later hb ca0,cell_later hb cb0⟩);clear ca0 cb0;go_wp2
   refine aE 99 (.tk 0 8 (.alt 8 (.take 9 .done) .nomore)) (fun w'=>w'.cell? ⟨g1,k,none⟩=some (.slice y1 a.length d1)/\w'.cell? ⟨g2,k,none⟩=some (.slice y2 a.length d2)) (by kernel_rfl) (by kernel_rfl) (fun _ _ _ _ _ h=>h) (SS.out _ HB.out.drew) ?_;have HD:=hd_ HB.out.drew;clear HB;generalize wr.drew=w3 at HD ⊢
   repeat ((first|(refine aC (by rfl) (by rfl) ?_;apply Exists.intro;refine⟨fun w' hw'=>?_,?_⟩;(· ((try dsimp only at hw');go_simp;(try with_reducible rfl))))|(refine aB (by rfl) (by rfl) ?_));simp only[Act.put,List.getElem_toArray,List.getElem_cons_succ,pg3,pg4,pg5,pg6])
   refine aD (by rfl) (fun K hK=>?_);go_simp;refine (aBC _ (cB.below R1.out HD.out lr_) (cB.below R2.out HD.out lr_)).mono ?_;rintro r w4 ⟨rfl,hb⟩;have HE:=hd_ (HD.out.trans (hb.mono HD.out.size));clear hb;refine hK _ _ (.inr (SS.out _ HE.out)) ?_;clear hK K
   try simp only[Act.put,List.getElem_toArray,List.getElem_cons_succ,pg3,pg4,pg5,pg6]
   repeat ((first|(refine aC (by rfl) (by rfl) ?_;apply Exists.intro;refine⟨fun w' hw'=>?_,?_⟩;(· ((try dsimp only at hw');go_simp;(try with_reducible rfl))))|(refine aB (by rfl) (by rfl) ?_));simp only[Act.put,List.getElem_toArray,List.getElem_cons_succ,pg3,pg4,pg5,pg6])
   refine aI ?_;clear SS HD;go_wp2;go_roundw
   case rel=>exact⟨k+1,hlt,by go_num,HE.out⟩
   case measure=>simp[intOf];omega
  ·go_wp2
   go_ret;exact⟨rfl,HB.out⟩
structure aLV (n:Nt):Prop where
 ns:aK8 n.nodes
 ws:aK2 n.words
theorem aFa (w:World) {a:Nt} {x1a x1b x1c x1d x2a x2b x2c x2d:Option Addr} {n1a n1b n1c n1d n2a n2b n2c n2d c1a c1b c1c c1d c2a c2b c2c c2d:Nat} {f1 f2:List Nat} (h1:aGl TY w [.slice x1a n1a c1a,.slice x1b n1b c1b,.slice x1c n1c c1c,.slice x1d n1d c1d] a f1) (h2:aGl TY w [.slice x2a n2a c2a,.slice x2b n2b c2b,.slice x2c n2c c2c,.slice x2d n2d c2d] a f2) (hl:aLV a):
  Calls Tryz.prog 50 #[.agg #[.slice x1a n1a c1a,.slice x1b n1b c1b,.slice x1c n1c c1c,.slice x1d n1d c1d],.agg #[.slice x2a n2a c2a,.slice x2b n2b c2b,.slice x2c n2c c2c,.slice x2d n2d c2d]] w fun r w'=>r=.returned (.bool true)/\Below w.heap.size w w':=by
 have H:=hd_ (((M.start w).alloc #[.slice x1a n1a c1a,.slice x1b n1b c1b,.slice x1c n1c c1c,.slice x1d n1d c1d] 30).alloc #[.slice x2a n2a c2a,.slice x2b n2b c2b,.slice x2c n2c c2c,.slice x2d n2d c2d] 30);obtain⟨_,_,_,_,_,_,_,_,e1,_,ra1,ra2,ra3,ra4⟩:=oJ.1 h1;cases e1;obtain⟨_,_,_,_,_,_,_,_,e2,_,rb1,rb2,rb3,rb4⟩:=oJ.1 h2;cases e2;have A1:=hd_ ra1;have A2:=hd_ ra2;have A3:=hd_ ra3
 have A4:=hd_ ra4;have B1:=hd_ rb1;have B2:=hd_ rb2;have B3:=hd_ rb3;have B4:=hd_ rb4;have HL:=hd_ hl;clear h1 h2 hl ra1 ra2 ra3 ra4 rb1 rb2 rb3 rb4;obtain⟨c0,c1,c2,c3⟩:=H.out.p1.cells4;obtain⟨d0,d1,d2,d3⟩:=H.out.cells4;simp only[World.size_alloc]at d0 d1 d2 d3;go_enter Tryz.func50,Tryz.ntmps50
 go_wp2_with fail
 refine (aBD _ (oV.below A1.out H.out.below lr_) (oV.below B1.out H.out.below lr_) HL.out.ns).mono ?_;rintro r w1 ⟨rfl,hb⟩;have H1:=hd_ (H.out.later hb);clear hb c0 c1 c2 c3 d0 d1 d2 d3;obtain⟨c0,c1,c2,c3⟩:=H1.out.p1.cells4;obtain⟨d0,d1,d2,d3⟩:=H1.out.cells4;simp only[World.size_alloc]at d0 d1 d2 d3
 go_wp2_with fail
 refine (aCa _ (oY.below A2.out H1.out.below lr_) (oY.below B2.out H1.out.below lr_)).mono ?_;rintro r w2 ⟨rfl,hb⟩;have H2:=hd_ (H1.out.later hb);clear hb c0 c1 c2 c3 d0 d1 d2 d3;obtain⟨c0,c1,c2,c3⟩:=H2.out.p1.cells4;obtain⟨d0,d1,d2,d3⟩:=H2.out.cells4;simp only[World.size_alloc]at d0 d1 d2 d3
 go_wp2_with fail
 refine (aB1 _ (oX.below A3.out H2.out.below lr_) (oX.below B3.out H2.out.below lr_) HL.out.ws).mono ?_;rintro r w3 ⟨rfl,hb⟩;have H3:=hd_ (H2.out.later hb);clear hb c0 c1 c2 c3 d0 d1 d2 d3;obtain⟨c0,c1,c2,c3⟩:=H3.out.p1.cells4;obtain⟨d0,d1,d2,d3⟩:=H3.out.cells4;simp only[World.size_alloc]at d0 d1 d2 d3
 go_wp2_with fail
 refine (aAK _ (qH.below A4.out H3.out.below lr_) (qH.below B4.out H3.out.below lr_)).mono ?_;rintro r w4 ⟨rfl,hb⟩;have H4:=hd_ (H3.out.later hb);clear hb c0 c1 c2 c3 d0 d1 d2 d3;obtain⟨c0,c1,c2,c3⟩:=H4.out.p1.cells4;obtain⟨d0,d1,d2,d3⟩:=H4.out.cells4;simp only[World.size_alloc]at d0 d1 d2 d3;go_wp2;go_ret;exact⟨rfl,H4.out.below⟩
end N
end Go.Proofs.YtcblbdpdbggkbaaGreat
set_option linter.unusedVariables false
set_option linter.unusedSectionVars false
set_option linter.unusedSimpArgs false
namespace Go.Proofs.YtcblbdpdbggkbaaGreat
open Go.RowKit Go.Sort
theorem aCd {a b:Bool} {P:Prop} (h0:a=false->P) (h1:a=true->b=false->P) (h2:a=true->b=true->P):P:=by
 cases a
 case false=>exact h0 rfl
 cases b
 case false=>exact h1 rfl rfl
 exact h2 rfl rfl
theorem aI6 {a b c:Bool} {P:Prop} (h0:a=false->P) (h1:a=true->b=false->P) (h2:a=true->b=true->c=false->P) (h3:a=true->b=true->c=true->P):P:=by
 cases a
 case false=>exact h0 rfl
 cases b
 case false=>exact h1 rfl rfl
 cases c
 case false=>exact h2 rfl rfl rfl
 exact h3 rfl rfl rfl
theorem aI4 {a b c d:Bool} {P:Prop} (h0:a=false->P) (h1:a=true->b=false->P) (h2:a=true->b=true->c=false->P) (h3:a=true->b=true->c=true->d=false->P) (h4:a=true->b=true->c=true->d=true->P):P:=by
 cases a
 case false=>exact h0 rfl
 cases b
 case false=>exact h1 rfl rfl
 cases c
 case false=>exact h2 rfl rfl rfl
 cases d
 case false=>exact h3 rfl rfl rfl rfl
 exact h4 rfl rfl rfl rfl
theorem aFq {a b c d e:Bool} {P:Prop} (h0:a=false->P) (h1:a=true->b=false->P) (h2:a=true->b=true->c=false->P) (h3:a=true->b=true->c=true->d=false->P) (h4:a=true->b=true->c=true->d=true->e=false->P) (h5:a=true->b=true->c=true->d=true->e=true->P):P:=by
 cases a
 case false=>exact h0 rfl
 cases b
 case false=>exact h1 rfl rfl
 cases c
 case false=>exact h2 rfl rfl rfl
 cases d
 case false=>exact h3 rfl rfl rfl rfl
 cases e
 case false=>exact h4 rfl rfl rfl rfl rfl
 exact h5 rfl rfl rfl rfl rfl
theorem aKI (P Q:Prop) [Decidable P] [Decidable Q]:decide (P↔Q)=(decide P==decide Q):=by by_cases p:P<;>by_cases q:Q<;>simp[p,q]
def aJ (w:World):List (Addr × Value)->Prop
 | []=>True
 |x::l=>w.cell? x.1=some x.2/\aJ w l
theorem aJ.below {W w':World}:∀{l:List (Addr × Value)},aJ W l->Below W.heap.size W w'->aJ w' l
 | [],_,_=>trivial
 |_::_,h,hb=>⟨(hb.cell (World.block_lt_of_cell? _ _ h.1)).trans h.1,aJ.below h.2 hb⟩
theorem aF {w:World} {a b:List (Addr × Value)}:aJ w (a++b)↔aJ w a/\aJ w b:=by
 induction a with
 |nil=>simp[aJ]
 |cons x l ih=>simp[aJ,ih,and_assoc]
def b4L (p:Nat) (v0 v1 v2 v3:Value):List (Addr × Value):=[(⟨p,0,none⟩,v0),(⟨p,1,none⟩,v1),(⟨p,2,none⟩,v2),(⟨p,3,none⟩,v3)]
def b5L (p:Nat) (v0 v1 v2 v3 v4:Value):List (Addr × Value):=[(⟨p,0,none⟩,v0),(⟨p,1,none⟩,v1),(⟨p,2,none⟩,v2),(⟨p,3,none⟩,v3),(⟨p,4,none⟩,v4)]
def b6L (p:Nat) (v0 v1 v2 v3 v4 v5:Value):List (Addr × Value):=[(⟨p,0,none⟩,v0),(⟨p,1,none⟩,v1),(⟨p,2,none⟩,v2),(⟨p,3,none⟩,v3),(⟨p,4,none⟩,v4),(⟨p,5,none⟩,v5)]
def b7L (p:Nat) (V:SV) (s:Sm):List (Addr × Value):=[(⟨p,0,none⟩,.slice V.xr V.nr V.cr),(⟨p,1,none⟩,.slice V.xf V.nf V.cf),(⟨p,2,none⟩,.slice V.xt V.nt V.ct),(⟨p,3,none⟩,.int .i64 s.lo),(⟨p,4,none⟩,.int .i64 s.al),(⟨p,5,none⟩,.slice V.xk V.nk V.ck),(⟨p,6,none⟩,.int .i64 s.ka)]
def bD (p:Nat) (i b n:Int) (V:SV) (s:Sm):List (Addr × Value):=[(⟨p,0,none⟩,.int .i64 i),(⟨p,1,none⟩,.int .i64 b),(⟨p,2,none⟩,.int .i64 n),(⟨p,3,none⟩,.slice V.xr V.nr V.cr),(⟨p,4,none⟩,.slice V.xf V.nf V.cf),(⟨p,5,none⟩,.slice V.xt V.nt V.ct),(⟨p,6,none⟩,.int .i64 s.lo),(⟨p,7,none⟩,.int .i64 s.al),(⟨p,8,none⟩,.slice V.xk V.nk V.ck),(⟨p,9,none⟩,.int .i64 s.ka)]
namespace N
def bR (g j:Nat) (V:SV) (e:En):List (Addr × Value):=[(⟨g,j * 10,none⟩,.int .i64 e.node),(⟨g,j * 10+1,none⟩,.int .i64 e.born),(⟨g,j * 10+2,none⟩,.int .i64 e.num),(⟨g,j * 10+3,none⟩,.slice V.xr V.nr V.cr),(⟨g,j * 10+4,none⟩,.slice V.xf V.nf V.cf),(⟨g,j * 10+5,none⟩,.slice V.xt V.nt V.ct),(⟨g,j * 10+6,none⟩,.int .i64 e.s.lo),(⟨g,j * 10+7,none⟩,.int .i64 e.s.al),(⟨g,j * 10+8,none⟩,.slice V.xk V.nk V.ck),(⟨g,j * 10+9,none⟩,.int .i64 e.s.ka)]
section
variable {w w0:World} {B p:Nat} {l:List Ch} {n:Nt} {v1 v2 v3 v4:Value}
end
end N
end Go.Proofs.YtcblbdpdbggkbaaGreat
set_option linter.unusedVariables false
set_option linter.unusedSectionVars false
set_option linter.unusedSimpArgs false
namespace Go.Proofs.YtcblbdpdbggkbaaGreat
open Go.RowKit Go.Sort
namespace N
theorem yE (w:World) {x1 x4 xk:Option Addr} {k1 c1 k4 c4 k ck:Nat} {v2 v3:Value} {n:Nt} {es:List En} {f:List Nat} (hn:iL w (.slice x1 k1 c1) v2 v3 (.slice x4 k4 c4) n) (hs:nK n) (h:eF TY w [.slice xk k ck] es f):
  Calls Tryz.prog 160 #[.agg #[.slice x1 k1 c1,v2,v3,.slice x4 k4 c4],.slice xk k ck] w fun r w'=>r=.returned (.bool (dJ n es))/\Below w.heap.size w w':=by
 obtain rfl:k=es.length:=(aO h).1;obtain⟨_,_,e1,q1,q2⟩:=aS h;have hm:es.length<=maxLen:=Nat.le_trans q1 q2;unfold maxLen at hm;clear e1 q1 q2;have H1:=hd_ h;have HN:=hd_ hn;have HS:=hd_ hs;clear h hn hs;have H:=hd_ ((M.start w).alloc #[.slice x1 k1 c1,v2,v3,.slice x4 k4 c4] 30);go_enter Tryz.func160,Tryz.ntmps160;go_wp2;obtain⟨p1,hp1⟩:∃p,p=w.heap.size:=⟨_,rfl⟩
 have HP:=hd_ hp1;rw[<-hp1]at H;rw[<-hp1];clear hp1;generalize (w.alloc (.cells #[.slice x1 k1 c1,v2,v3,.slice x4 k4 c4] 30))=w1 at H ⊢;go_loopw [5] (fun z wr=>∃j:Nat,j<=es.length/\z=.int .i64 j/\(∀(a:Nat) (x:En),a<j->es[a]? =some x->dX n x=true/\(0<a->∀d:En,es[a - 1]? =some d->d.node<x.node))/\M p1 w wr [bU p1 30 #[.slice x1 k1 c1,v2,v3,.slice x4 k4 c4]]) (fun z _=>es.length - (intOf z).toNat)
 case atStart=>exact⟨0,Nat.zero_le _,rfl,fun a x h=>absurd h (Nat.not_lt_zero _),H.out⟩
 case round=>
  clear H;obtain⟨j,hj,rfl,hno,h⟩:=hrel;have NO:=hd_ hno;have H:=hd_ h;clear hno h;have hWB:=H.out.below;rw[HP.out]at hWB
  by_cases hlt:j<es.length
  ·obtain⟨W,hW⟩:∃W,W=wr.drew:=⟨_,rfl⟩
   have H2:=H.out.drew;rw[<-hW]at H2;have EW:=hd_ hW;have WB:=Below.drew hWB;rw[<-hW]at WB;clear hW hWB;obtain⟨x,hx⟩:∃x,es[j]? =some x:=⟨_,List.getElem?_eq_getElem hlt⟩
   obtain⟨g,V,fe,rfl,_,_,sr,ca0,ca1,ca2,cas⟩:=iO ((aP aU _ _).below H1.out WB lr_) hx;obtain⟨V',eV,rV⟩:=uQ sr;cases aCF eV;have ca3:=cas 0 _ rfl;have ca4:=cas 1 _ rfl;have ca5:=cas 2 _ rfl;have ca6:=cas 3 _ rfl;have ca7:=cas 4 _ rfl;have ca8:=cas 5 _ rfl;have ca9:=cas 6 _ rfl;obtain⟨a0,a1,a2,a3⟩:=H2.cells4
   have KE:=hd_ (aEE W (e:=x) (HN.out.below WB lr_) HS.out rV);have k0:(0:Int)<=(j:Int):=by omega
   have k1':(j:Int)<(es.length:Int):=by omega
   have HX:=hd_ hx;clear cas sr eV rV hx WB
   by_cases eb:dX n x=true
   case neg=>
    have gb:dX n x=false:=by simpa using eb
    have F:=hd_ (lY HX.out (.inl gb));rw[gb]at KE;clear eb gb;have C0:=hd_ (show aJ W (b4L p1 (.slice x1 k1 c1) v2 v3 (.slice x4 k4 c4)++bR g j V x)from⟨a0,a1,a2,a3,ca0,ca1,ca2,ca3,ca4,ca5,ca6,ca7,ca8,ca9,trivial⟩);clear a0 a1 a2 a3 ca0 ca1 ca2 ca3 ca4 ca5 ca6 ca7 ca8 ca9;go_upto_region 4 with fail
    refine aE 99 (.tk 0 5 (.alt 5 (.tk 6 19 .done) .nomore)) (fun w'=>aJ w' (b4L p1 (.slice x1 k1 c1) v2 v3 (.slice x4 k4 c4)++bR g j V x)) (by kernel_rfl) (by kernel_rfl) (fun _ _ _ _ _ h=>h) (by rw[<-EW.out];exact C0.out) ?_;rw[<-EW.out]
    repeat ((first|(refine aC (by rfl) (by rfl) ?_;apply Exists.intro;refine⟨fun w' hw'=>?_,?_⟩;(· ((try simp only[aJ,aF,b4L,b5L,b6L,b7L,bD,N.bR,and_true]at hw');go_simp;(try with_reducible rfl))))|(refine aB (by rfl) (by rfl) ?_));simp only[Act.put,List.getElem_toArray,List.getElem_cons_succ,pg3,pg4,pg5,pg6])
    refine aD (by rfl) (fun K' hK=>?_);go_simp;refine KE.out.mono ?_;rintro r w3 ⟨rfl,hb⟩;have H3:=hd_ (H2.later hb);refine hK _ _ (.inr (C0.out.below hb)) ?_;clear hK K'
    try simp only[Act.put,List.getElem_toArray,List.getElem_cons_succ,pg3,pg4,pg5,pg6]
    clear hb KE C0
    repeat ((first|(refine aC (by rfl) (by rfl) ?_;apply Exists.intro;refine⟨fun w' hw'=>?_,?_⟩;(· ((try simp only[aJ,aF,b4L,b5L,b6L,b7L,bD,N.bR,and_true]at hw');go_simp;(try with_reducible rfl))))|(refine aB (by rfl) (by rfl) ?_));simp only[Act.put,List.getElem_toArray,List.getElem_cons_succ,pg3,pg4,pg5,pg6])
    refine aI ?_;go_wp2;go_ret;exact⟨by rw[F.out];rfl,by have:=H3.out.below;rwa[HP.out]at this⟩
   have EB:=hd_ eb;rw[eb]at KE;clear eb
   by_cases j0:j=0
   ·have jn:decide (0<j)=false:=by simp;omega
    have jp:decide ((0:Int)<(j:Int))=false:=by simp;omega
    have J0:=hd_ j0;clear j0;have NO2:Hid (∀(a:Nat) (y:En),a<j+1->es[a]? =some y->dX n y=true/\(0<a->∀d:En,es[a - 1]? =some d->d.node<y.node)):=hd_ fun a y ha hy=>by
     have:=J0.out;obtain rfl:a=j:=by omega
     rw[HX.out]at hy;cases hy;exact⟨EB.out,fun q=>absurd q (by omega)⟩
    have C0:=hd_ (show aJ W (b4L p1 (.slice x1 k1 c1) v2 v3 (.slice x4 k4 c4)++bR g j V x)from⟨a0,a1,a2,a3,ca0,ca1,ca2,ca3,ca4,ca5,ca6,ca7,ca8,ca9,trivial⟩);clear a0 a1 a2 a3 ca0 ca1 ca2 ca3 ca4 ca5 ca6 ca7 ca8 ca9;go_upto_region 4 with fail
    refine aE 99 (.tk 0 5 (.alt 5 (.tk 6 19 .done) .nomore)) (fun w'=>aJ w' (b4L p1 (.slice x1 k1 c1) v2 v3 (.slice x4 k4 c4)++bR g j V x)) (by kernel_rfl) (by kernel_rfl) (fun _ _ _ _ _ h=>h) (by rw[<-EW.out];exact C0.out) ?_;rw[<-EW.out]
    repeat ((first|(refine aC (by rfl) (by rfl) ?_;apply Exists.intro;refine⟨fun w' hw'=>?_,?_⟩;(· ((try simp only[aJ,aF,b4L,b5L,b6L,b7L,bD,N.bR,and_true]at hw');go_simp;(try with_reducible rfl))))|(refine aB (by rfl) (by rfl) ?_));simp only[Act.put,List.getElem_toArray,List.getElem_cons_succ,pg3,pg4,pg5,pg6])
    refine aD (by rfl) (fun K' hK=>?_);go_simp;refine KE.out.mono ?_;rintro r w3 ⟨rfl,hb⟩;have H3:=hd_ (H2.later hb);refine hK _ _ (.inr (C0.out.below hb)) ?_;clear hK K'
    try simp only[Act.put,List.getElem_toArray,List.getElem_cons_succ,pg3,pg4,pg5,pg6]
    clear hb KE C0
    repeat ((first|(refine aC (by rfl) (by rfl) ?_;apply Exists.intro;refine⟨fun w' hw'=>?_,?_⟩;(· ((try simp only[aJ,aF,b4L,b5L,b6L,b7L,bD,N.bR,and_true]at hw');go_simp;(try with_reducible rfl))))|(refine aB (by rfl) (by rfl) ?_));simp only[Act.put,List.getElem_toArray,List.getElem_cons_succ,pg3,pg4,pg5,pg6])
    refine aI ?_;go_wp2;go_roundw
    case rel=>exact⟨j+1,by omega,by go_num,NO2.out,H3.out⟩
    case measure=>simp[intOf];omega
   ·obtain⟨d,hd⟩:∃d,es[j - 1]? =some d:=⟨_,List.getElem?_eq_getElem (by omega)⟩
    obtain⟨g',V',fe',eg,_,_,_,cb0,_⟩:=iO ((aP aU _ _).below H1.out (by have:=H2.below;rwa[HP.out]at this) lr_) hd;cases eg;have jp:decide ((0:Int)<(j:Int))=true:=by simp;omega
    have jn:decide (0<j)=true:=by simp;omega
    have js:IntKind.i64.wrap ((j:Int) - 1)=(j:Int) - 1:=IntWalk.i64_in _ (by omega);have jt:((j:Int) - 1).toNat=j - 1:=by omega
    have j1:(1:Int)<=(j:Int):=by omega
    have j2:(j:Int) - 1<(es.length:Int):=by omega
    have HD:=hd_ hd;clear hd
    by_cases ed:d.node<x.node
    case neg=>
     have gd:decide (x.node<=d.node)=true:=by simp;omega
     have F:Hid (dJ n es=false):=hd_ (lY HX.out (.inr ⟨by omega,d,HD.out,by omega⟩));clear ed;have C0:=hd_ (show aJ W (b4L p1 (.slice x1 k1 c1) v2 v3 (.slice x4 k4 c4)++(bR g j V x++[(⟨g,(j - 1) * 10,none⟩,.int .i64 d.node)]))from⟨a0,a1,a2,a3,ca0,ca1,ca2,ca3,ca4,ca5,ca6,ca7,ca8,ca9,cb0,trivial⟩);clear a0 a1 a2 a3 ca0 ca1 ca2 ca3 ca4 ca5 ca6 ca7 ca8 ca9 cb0
     go_upto_region 4 with fail
     refine aE 99 (.tk 0 5 (.alt 5 (.tk 6 19 .done) .nomore)) (fun w'=>aJ w' (b4L p1 (.slice x1 k1 c1) v2 v3 (.slice x4 k4 c4)++(bR g j V x++[(⟨g,(j - 1) * 10,none⟩,.int .i64 d.node)]))) (by kernel_rfl) (by kernel_rfl) (fun _ _ _ _ _ h=>h) (by rw[<-EW.out];exact C0.out) ?_;rw[<-EW.out]
     repeat ((first|(refine aC (by rfl) (by rfl) ?_;apply Exists.intro;refine⟨fun w' hw'=>?_,?_⟩;(· ((try simp only[aJ,aF,b4L,b5L,b6L,b7L,bD,N.bR,and_true]at hw');go_simp;(try with_reducible rfl))))|(refine aB (by rfl) (by rfl) ?_));simp only[Act.put,List.getElem_toArray,List.getElem_cons_succ,pg3,pg4,pg5,pg6])
     refine aD (by rfl) (fun K' hK=>?_);go_simp;refine KE.out.mono ?_;rintro r w3 ⟨rfl,hb⟩;have H3:=hd_ (H2.later hb);refine hK _ _ (.inr (C0.out.below hb)) ?_;clear hK K'
     try simp only[Act.put,List.getElem_toArray,List.getElem_cons_succ,pg3,pg4,pg5,pg6]
     clear hb KE C0
     repeat ((first|(refine aC (by rfl) (by rfl) ?_;apply Exists.intro;refine⟨fun w' hw'=>?_,?_⟩;(· ((try simp only[aJ,aF,b4L,b5L,b6L,b7L,bD,N.bR,and_true]at hw');go_simp;(try with_reducible rfl))))|(refine aB (by rfl) (by rfl) ?_));simp only[Act.put,List.getElem_toArray,List.getElem_cons_succ,pg3,pg4,pg5,pg6])
     refine aI ?_;go_wp2;go_ret;exact⟨by rw[F.out];rfl,by have:=H3.out.below;rwa[HP.out]at this⟩
    have gd:decide (x.node<=d.node)=false:=by simp;omega
    have NO2:Hid (∀(a:Nat) (y:En),a<j+1->es[a]? =some y->dX n y=true/\(0<a->∀d:En,es[a - 1]? =some d->d.node<y.node)):=hd_ fun a y ha hy=>by
     by_cases q:a<j
     ·exact NO.out a y q hy
     ·obtain rfl:a=j:=by omega
      rw[HX.out]at hy;cases hy;refine⟨EB.out,fun _ d' hd'=>?_⟩;rw[HD.out]at hd';cases hd';exact ed
    clear ed;have C0:=hd_ (show aJ W (b4L p1 (.slice x1 k1 c1) v2 v3 (.slice x4 k4 c4)++(bR g j V x++[(⟨g,(j - 1) * 10,none⟩,.int .i64 d.node)]))from⟨a0,a1,a2,a3,ca0,ca1,ca2,ca3,ca4,ca5,ca6,ca7,ca8,ca9,cb0,trivial⟩);clear a0 a1 a2 a3 ca0 ca1 ca2 ca3 ca4 ca5 ca6 ca7 ca8 ca9 cb0;go_upto_region 4 with fail
    refine aE 99 (.tk 0 5 (.alt 5 (.tk 6 19 .done) .nomore)) (fun w'=>aJ w' (b4L p1 (.slice x1 k1 c1) v2 v3 (.slice x4 k4 c4)++(bR g j V x++[(⟨g,(j - 1) * 10,none⟩,.int .i64 d.node)]))) (by kernel_rfl) (by kernel_rfl) (fun _ _ _ _ _ h=>h) (by rw[<-EW.out];exact C0.out) ?_;rw[<-EW.out]
    repeat ((first|(refine aC (by rfl) (by rfl) ?_;apply Exists.intro;refine⟨fun w' hw'=>?_,?_⟩;(· ((try simp only[aJ,aF,b4L,b5L,b6L,b7L,bD,N.bR,and_true]at hw');go_simp;(try with_reducible rfl))))|(refine aB (by rfl) (by rfl) ?_));simp only[Act.put,List.getElem_toArray,List.getElem_cons_succ,pg3,pg4,pg5,pg6])
    refine aD (by rfl) (fun K' hK=>?_);go_simp;refine KE.out.mono ?_;rintro r w3 ⟨rfl,hb⟩;have H3:=hd_ (H2.later hb);refine hK _ _ (.inr (C0.out.below hb)) ?_;clear hK K'
    try simp only[Act.put,List.getElem_toArray,List.getElem_cons_succ,pg3,pg4,pg5,pg6]
    clear hb KE C0
    repeat ((first|(refine aC (by rfl) (by rfl) ?_;apply Exists.intro;refine⟨fun w' hw'=>?_,?_⟩;(· ((try simp only[aJ,aF,b4L,b5L,b6L,b7L,bD,N.bR,and_true]at hw');go_simp;(try with_reducible rfl))))|(refine aB (by rfl) (by rfl) ?_));simp only[Act.put,List.getElem_toArray,List.getElem_cons_succ,pg3,pg4,pg5,pg6])
    refine aI ?_;go_wp2;go_roundw
    case rel=>exact⟨j+1,by omega,by go_num,NO2.out,H3.out⟩
    case measure=>simp[intOf];omega
  ·have F:Hid (dJ n es=true):=hd_ (vR.2 fun i e hi=>NO.out i e (by have:=(List.getElem?_eq_some_iff.1 hi).1;omega) hi)
   have g:decide (j<es.length)=false:=by simpa using hlt
   clear NO hWB;go_wp2;go_ret;exact⟨by rw[F.out];rfl,by have:=H.out.below;rwa[HP.out]at this⟩
end N
end Go.Proofs.YtcblbdpdbggkbaaGreat
set_option linter.unusedVariables false
set_option linter.unusedSectionVars false
set_option linter.unusedSimpArgs false
namespace Go.Proofs.YtcblbdpdbggkbaaGreat
open Go.RowKit Go.Sort
namespace N
theorem uO {w:World} {x:Option Addr} {k c:Nat} {l:List Int} (h:cW w (.slice x k c) l) {j:Nat} (hj:j<l.length):∃b o,x=some ⟨b,o,Option.none⟩/\w.cell? ⟨b,o+j,Option.none⟩=some (.int .i64 (l.getD j 0)):=by
 rcases h with ⟨_,rfl⟩|⟨b,o,cap,e,_,_,_,hc⟩
 ·cases hj
 ·exact⟨b,o,(Value.slice.inj e).1,hc j hj⟩
theorem aF2 {l:List Int} {j:Nat} (hj:j<l.length) (h:in6 (l.getD j 0) 0 63=false):kC l=false:=by
 unfold kC;rw[kN (i:=j) (a:=l.getD j 0) (by rw[List.getD_eq_getElem?_getD,List.getElem?_eq_getElem hj];rfl) h,Bool.false_and]
theorem aDg {l:List Int} (h:100<l.length):kC l=false:=by
 unfold kC;rw[decide_eq_false (by omega),Bool.and_false]
theorem aIF {l:List Int} (h:∀a,a<l.length->in6 (l.getD a 0) 0 63=true) (h2:¬ 100<l.length):kC l=true:=by
 unfold kC;rw[decide_eq_true (by omega),Bool.and_true];exact uM.2 fun a t ht=>by
  have q:=h a (List.getElem?_eq_some_iff.1 ht).1;rwa[List.getD_eq_getElem?_getD,ht]at q
theorem aDj (w:World) {x1 x4:Option Addr} {k1 c1 k4 c4:Nat} {v2 v3:Value} {n:Nt} (hn:iL w (.slice x1 k1 c1) v2 v3 (.slice x4 k4 c4) n) (h5:n.nodes.length=5) (p5:n.past.length=5) {i:Nat} (i5:i<5) (hbn:1<=(aG n i).born/\(aG n i).born<=20):
  Calls Tryz.prog 86 #[.agg #[.slice x1 k1 c1,v2,v3,.slice x4 k4 c4],.int .i64 (i:Int)] w fun r w'=>r=.returned (.bool (jX n i))/\Below w.heap.size w w':=by
 obtain⟨f1,n1⟩:=hn.nodes;obtain⟨f4,n4⟩:=hn.past;obtain rfl:k1=5:=(aO n1).1.trans h5;obtain rfl:k4=5:=(aO n4).1.trans p5;obtain⟨nd,hnd⟩:∃nd,n.nodes[i]? =some nd:=⟨_,List.getElem?_eq_getElem (by rw[h5];exact i5)⟩
 obtain⟨rs,hrs⟩:∃rs,n.past[i]? =some rs:=⟨_,List.getElem?_eq_getElem (by rw[p5];exact i5)⟩
 have eN:aG n (i:Int)=nd:=by unfold aG;rw[List.getD_eq_getElem?_getD,Int.toNat_natCast,hnd];rfl
 have eR:cS n (i:Int)=rs:=by unfold cS;rw[List.getD_eq_getElem?_getD,Int.toNat_natCast,hrs];rfl
 have PB:Hid (jX n (i:Int)=(decide ((rs.length:Int)=nd.born+1)&&(decide ((rs.getD 0 []).length=0)&&rs.all kC))):=hd_ (by unfold jX bZ;rw[eN,eR];rfl);rw[eN]at hbn;have H0:=(M.start w).alloc #[.slice x1 5 c1,v2,v3,.slice x4 5 c4] 30;have N1:=hd_ n1;have N4:=hd_ n4;clear hn n1 n4 h5 p5 eN eR;go_enter Tryz.func86,Tryz.ntmps86;go_upto_region 1 with fail
 obtain⟨p1,hp1⟩:∃p,p=w.heap.size:=⟨_,rfl⟩
 have HP:=hd_ hp1;rw[<-hp1]at H0;rw[<-hp1];clear hp1;generalize (w.alloc (.cells #[.slice x1 5 c1,v2,v3,.slice x4 5 c4] 30))=w1 at H0 ⊢;obtain⟨W,hW⟩:∃W,W=w1.drew:=⟨_,rfl⟩
 have H1:=H0.drew;rw[<-hW]at H1;have EW:=hd_ hW;have H:=hd_ H1;clear H0 H1 hW;obtain⟨a0,a1,a2,a3⟩:=H.out.cells4;have hWB:=H.out.below;rw[HP.out]at hWB;obtain⟨g1,xk,ck,fk,rfl,_,_,_,_,_,b0,_⟩:=fQ ((aP cC _ _).below N1.out hWB lr_) hnd;obtain⟨g4,xr,cr,fr,rfl,_,_,rr,rcr,rcm,b1⟩:=lP ((aP cB _ _).below N4.out hWB lr_) hrs;clear hnd hrs hWB;unfold maxLen at rcm
 have i0:(0:Int)<=(i:Int):=by omega
 have i5':(i:Int)<5:=by omega
 have bw:IntKind.i64.wrap (nd.born+1)=nd.born+1:=IntWalk.i64_in _ (by omega);have PLN:True:=trivial
 by_cases hA:(rs.length:Int)=nd.born+1
 case neg=>
  have F:Hid (jX n (i:Int)=false):=hd_ (by rw[PB.out,decide_eq_false hA];rfl);have gA:((rs.length:Int) != nd.born+1)=true:=by simpa using hA
  clear hA;refine aE 99 (.tk 0 25 .done) (fun w'=>w'=W) (by kernel_rfl) (by kernel_rfl) (fun _ _ _ _ _ h=>h) EW.out.symm ?_;rw[<-EW.out]
  repeat ((first|(refine aC (by rfl) (by rfl) ?_;apply Exists.intro;refine⟨fun w' hw'=>?_,?_⟩;(· ((try dsimp only at hw');go_simp;(try with_reducible rfl))))|(refine aB (by rfl) (by rfl) ?_));simp only[Act.put,List.getElem_toArray,List.getElem_cons_succ,pg3,pg4,pg5,pg6])
  refine aI ?_;go_wp2;go_ret;exact⟨by rw[F.out];rfl,by have:=H.out.below;rwa[HP.out]at this⟩
 have gA:((rs.length:Int) != nd.born+1)=false:=by simpa using hA
 have HA:=hd_ hA;have r0:0<rs.length:=by omega
 clear hA;obtain⟨l0,hl0⟩:∃l,rs[0]? =some l:=⟨_,List.getElem?_eq_getElem r0⟩
 obtain⟨g5,xl,cl,fl,rfl,_,_,_,_,_,b2⟩:=lE rr hl0;have EL0:Hid (rs.getD 0 []=l0):=hd_ (by rw[List.getD_eq_getElem?_getD,hl0];rfl);clear hl0
 by_cases hB:l0.length=0
 case neg=>
  have F:Hid (jX n (i:Int)=false):=hd_ (by rw[PB.out,EL0.out,decide_eq_false hB,Bool.false_and,Bool.and_false]);have gB:((l0.length:Int) != 0)=true:=by simp only[bne_iff_ne,ne_eq];omega
  clear hB;refine aE 99 (.tk 0 25 .done) (fun w'=>w'=W) (by kernel_rfl) (by kernel_rfl) (fun _ _ _ _ _ h=>h) EW.out.symm ?_;rw[<-EW.out]
  repeat ((first|(refine aC (by rfl) (by rfl) ?_;apply Exists.intro;refine⟨fun w' hw'=>?_,?_⟩;(· ((try dsimp only at hw');go_simp;(try with_reducible rfl))))|(refine aB (by rfl) (by rfl) ?_));simp only[Act.put,List.getElem_toArray,List.getElem_cons_succ,pg3,pg4,pg5,pg6])
  refine aI ?_;go_wp2;go_ret;exact⟨by rw[F.out];rfl,by have:=H.out.below;rwa[HP.out]at this⟩
 have gB:((l0.length:Int) != 0)=false:=by simp only[bne_eq_false_iff_eq];omega
 have FB:Hid (jX n (i:Int)=rs.all kC):=hd_ (by rw[PB.out,EL0.out,decide_eq_true HA.out,decide_eq_true hB];rfl);clear hB;refine aE 99 (.tk 0 25 .done) (fun w'=>w'=W) (by kernel_rfl) (by kernel_rfl) (fun _ _ _ _ _ h=>h) EW.out.symm ?_;rw[<-EW.out]
 repeat ((first|(refine aC (by rfl) (by rfl) ?_;apply Exists.intro;refine⟨fun w' hw'=>?_,?_⟩;(· ((try dsimp only at hw');go_simp;(try with_reducible rfl))))|(refine aB (by rfl) (by rfl) ?_));simp only[Act.put,List.getElem_toArray,List.getElem_cons_succ,pg3,pg4,pg5,pg6])
 refine aI ?_;clear b2 b0;go_wp2;have RR:=hd_ rr;clear rr gA gB bw;go_loopw [5] (fun z wr=>∃j:Nat,j<=rs.length/\z=.int .i64 j/\(∀(a:Nat) (x:List Int),a<j->rs[a]? =some x->kC x=true)/\wr=W) (fun z _=>rs.length - (intOf z).toNat)
 case atStart=>exact⟨0,Nat.zero_le _,rfl,fun a x h=>absurd h (Nat.not_lt_zero _),rfl⟩
 case round=>
  obtain⟨j,hj,rfl,hno,hwr⟩:=hrel;subst wr;have NO:=hd_ hno;clear hno
  by_cases hlt:j<rs.length
  ·obtain⟨lb,hlb⟩:∃l,rs[j]? =some l:=⟨_,List.getElem?_eq_getElem hlt⟩
   obtain⟨g6,xb,cb,fb,eg,_,_,rb,rbc,rbm,b3⟩:=lE RR.out hlb;cases eg;have IB:Hid (cW W (.slice xb lb.length cb) lb):=hd_ (by
        obtain⟨v,ev,ho,_⟩:=hO rb
        cases ev
        exact ho)
   have HLB:=hd_ hlb;unfold maxLen at rbm;have j0:(0:Int)<=(j:Int):=by omega
   have j1:(j:Int)<(rs.length:Int):=by omega
   clear rb hlb;go_wp2;go_loopw [6] (fun z wr=>∃q:Nat,q<=lb.length/\z=.int .i64 q/\(∀a:Nat,a<q->in6 (lb.getD a 0) 0 63=true)/\wr=W) (fun z _=>lb.length - (intOf z).toNat)
   case atStart=>exact⟨0,Nat.zero_le _,rfl,fun a h=>absurd h (Nat.not_lt_zero _),rfl⟩
   case round=>
    obtain⟨q,hq,rfl,hin,hwr⟩:=hrel;subst wr;have IN:=hd_ hin;clear hin
    by_cases hql:q<lb.length
    ·obtain⟨b6,o6,rfl,c6⟩:=uO IB.out hql
     have KI:=hd_ (lK (lb.getD q 0) 0 63 W);have HV:=hd_ (fun (h:in6 (lb.getD q 0) 0 63=false)=>aF2 hql h);have IN2:Hid (in6 (lb.getD q 0) 0 63=true->∀a:Nat,a<q+1->in6 (lb.getD a 0) 0 63=true):=hd_ fun h a ha=>by
      by_cases e:a<q
      ·exact IN.out a e
      ·obtain rfl:a=q:=by omega
       exact h
     obtain⟨v,hv⟩:∃v,v=lb.getD q 0:=⟨_,rfl⟩
     rw[<-hv]at c6 KI HV IN2;clear hv;have q0:(0:Int)<=(q:Int):=by omega
     have q1:(q:Int)<(lb.length:Int):=by omega
     generalize in6 v 0 63=t at KI HV IN2
     go_wp2_with fail
     refine KI.out.mono ?_;rintro r w' ⟨rfl,hw'⟩;rw[hw'];clear hw' w' KI;cases t with
     |false=>
      have F:Hid (jX n (i:Int)=false):=hd_ (by rw[FB.out];exact kN HLB.out (HV.out rfl));clear HV IN2;go_wp2;go_ret;exact⟨by rw[F.out];rfl,by have:=H.out.below;rwa[HP.out]at this⟩
     |true=>
      have IN3:=hd_ (IN2.out rfl);clear HV IN2;go_wp2;go_roundw
      case rel=>exact⟨q+1,by omega,by go_num,IN3.out,by first|rfl|trivial⟩
      case measure=>simp[intOf];omega
    ·obtain rfl:q=lb.length:=by omega
     by_cases hg:100<lb.length
     ·have F:Hid (jX n (i:Int)=false):=hd_ (by rw[FB.out];exact kN HLB.out (aDg hg))
      have gg:decide ((100:Int)<(lb.length:Int))=true:=by simp;omega
      clear hg;go_wp2;go_ret;exact⟨by rw[F.out];rfl,by have:=H.out.below;rwa[HP.out]at this⟩
     ·have RO:=hd_ (aIF IN.out hg)
      have gg:decide ((100:Int)<(lb.length:Int))=false:=by simp;omega
      have NO2:Hid (∀(a:Nat) (x:List Int),a<j+1->rs[a]? =some x->kC x=true):=hd_ fun a x ha hx=>by
       by_cases e:a<j
       ·exact NO.out a x e hx
       ·obtain rfl:a=j:=by omega
        rw[HLB.out]at hx;cases hx;exact RO.out
      clear hg;go_wp2;go_roundw
      case rel=>exact⟨j+1,by omega,by go_num,NO2.out,by first|rfl|trivial⟩
      case measure=>simp[intOf];omega
  ·have F:Hid (jX n (i:Int)=true):=hd_ (by rw[FB.out];exact uM.2 fun a x hx=>NO.out a x (by have:=(List.getElem?_eq_some_iff.1 hx).1;omega) hx)
   obtain rfl:j=rs.length:=by omega
   go_wp2;go_ret;exact⟨by rw[F.out];rfl,by have:=H.out.below;rwa[HP.out]at this⟩
end N
end Go.Proofs.YtcblbdpdbggkbaaGreat
set_option linter.unusedVariables false
set_option linter.unusedSectionVars false
set_option linter.unusedSimpArgs false
namespace Go.Proofs.YtcblbdpdbggkbaaGreat
open Go.RowKit Go.Sort
namespace N
theorem oQ {z lo hi:Int} {b:Bool} (h:b=in6 z lo hi) (w:World):Calls Tryz.prog 66 #[.int .i64 z,.int .i64 lo,.int .i64 hi] w fun e w'=>e=.returned (.bool b)/\w'=w:=by
 rw[h];exact lK z lo hi w
theorem aDz (w:World) {x1 x4:Option Addr} {k1 c1 k4 c4:Nat} {v2 v3:Value} {n:Nt} (hn:iL w (.slice x1 k1 c1) v2 v3 (.slice x4 k4 c4) n) (hs:nK n) {i:Nat} (i5:i<5) (hbn:1<=(aG n i).born):
  Calls Tryz.prog 87 #[.agg #[.slice x1 k1 c1,v2,v3,.slice x4 k4 c4],.int .i64 (i:Int)] w fun r w'=>r=.returned (.bool (mN n i))/\Below w.heap.size w w':=by
 obtain⟨f1,n1⟩:=hn.nodes;obtain⟨f4,n4⟩:=hn.past;obtain rfl:k1=5:=(aO n1).1.trans hs.nodes;obtain rfl:k4=5:=(aO n4).1.trans hs.past;obtain⟨nd,hnd⟩:∃nd,n.nodes[i]? =some nd:=⟨_,List.getElem?_eq_getElem (by rw[hs.nodes];exact i5)⟩
 obtain⟨r0,hr0⟩:∃nd,n.nodes[0]? =some nd:=⟨_,List.getElem?_eq_getElem (by rw[hs.nodes];decide)⟩
 obtain⟨rs,hrs⟩:∃rs,n.past[i]? =some rs:=⟨_,List.getElem?_eq_getElem (by rw[hs.past];exact i5)⟩
 have eN:aG n (i:Int)=nd:=by unfold aG;rw[List.getD_eq_getElem?_getD,Int.toNat_natCast,hnd];rfl
 have e0:aG n 0=r0:=by unfold aG;rw[List.getD_eq_getElem?_getD,show (0:Int).toNat=0 from rfl,hr0];rfl
 have eR:cS n (i:Int)=rs:=by unfold cS;rw[List.getD_eq_getElem?_getD,Int.toNat_natCast,hrs];rfl
 have eL:=hs.rows i i5;rw[eN,eR]at eL;rw[eN]at hbn;obtain⟨j,hj⟩:∃j:Nat,nd.born=j:=⟨nd.born.toNat,by omega⟩
 obtain⟨lp,hlp⟩:∃lp,rs[j]? =some lp:=⟨_,List.getElem?_eq_getElem (by omega)⟩
 have eP:bZ n (i:Int) nd.born=lp:=by unfold bZ;rw[eR,List.getD_eq_getElem?_getD,hj,Int.toNat_natCast,hlp];rfl
 have jr:j<rs.length:=by omega
 have NB:Hid (mN n (i:Int)=((match kX nd.known (i:Int)with|some e=>decide (e.born=nd.born)&&decide (e.num=(lp.length:Int))|none=>false)&&(dJ n nd.known&&(if (i:Int)=0 then decide (nd.level=0)&&(decide (nd.up= -1)&&decide (0<=nd.beacon))else in6 nd.beacon 0 r0.beacon&&(in6 nd.level 1 5&&(decide (nd.up= -1↔nd.level=5)&&(in6 nd.up (-1) 4&&decide (nd.up≠(i:Int))))))))):=hd_ (by unfold mN tJ aDV;rw[eN,e0,eP];cases kX nd.known (i:Int)<;>rfl)
 have H0:=(M.start w).alloc #[.slice x1 5 c1,v2,v3,.slice x4 5 c4] 30;have HN:=hd_ hn;have HS:=hd_ hs;have hWB:=H0.below;obtain⟨g1,xk,ck,fk,rfl,_,_,rk,_,_,b0,b1,b2,b3,b4⟩:=fQ n1 hnd;obtain⟨_,xk0,ck0,fk0,eg,_,_,_,_,_,z0,z1,z2,z3,z4⟩:=fQ n1 hr0;cases eg;obtain⟨g4,xr,cr,fr,rfl,_,_,rr,_,_,y0⟩:=lP n4 hrs;obtain⟨g5,xl,cl,fl,rfl,_,_,_,lc,lm,y1⟩:=lE rr hlp;replace b0:=cell_later hWB b0
 replace b1:=cell_later hWB b1;replace b2:=cell_later hWB b2;replace b3:=cell_later hWB b3;replace b4:=cell_later hWB b4;replace z2:=cell_later hWB z2;replace y0:=cell_later hWB y0;replace y1:=cell_later hWB y1;rw[hj]at b0;have EJ:=hd_ hj;have RK:=hd_ rk;clear hn hs hnd hr0 hrs eN e0 eR eL hbn hlp eP hWB rr n1 n4 rk lc lm z0 z1 z3 z4;simp only[Nat.zero_mul,Nat.zero_add]at z2
 have i0:(0:Int)<=(i:Int):=by omega
 have i5':(i:Int)<5:=by omega
 have j0:(0:Int)<=(j:Int):=by omega
 have j1:(j:Int)<(rs.length:Int):=by omega
 clear jr hj;go_enter Tryz.func87,Tryz.ntmps87;obtain⟨p1,hp1⟩:∃p,p=w.heap.size:=⟨_,rfl⟩
 have HP:=hd_ hp1;obtain⟨w1,hw1⟩:∃W,W=w.alloc (.cells #[.slice (some ⟨g1,0,none⟩) 5 c1,v2,v3,.slice (some ⟨g4,0,none⟩) 5 c4] 30):=⟨_,rfl⟩
 rw[<-hw1]at H0 b0 b1 b2 b3 b4 z2 y0 y1;have hw01:Below w.heap.size w w1:=H0.below;have H1:=(H0.alloc #[.int .i64 (j:Int),.slice xk nd.known.length ck,.int .i64 nd.beacon,.int .i64 nd.level,.int .i64 nd.up] 55)
 have KO:=hd_ (aJg (w1.alloc (.cells #[.int .i64 (j:Int),.slice xk nd.known.length ck,.int .i64 nd.beacon,.int .i64 nd.level,.int .i64 nd.up] 55)) ((aP aU _ _).below RK.out (hw01.trans (((M.start w1).alloc #[.int .i64 (j:Int),.slice xk nd.known.length ck,.int .i64 nd.beacon,.int .i64 nd.level,.int .i64 nd.up] 55).below.mono hw01.size)) lr_) (i:Int) (j:Int) nd.beacon nd.level nd.up)
 have C1:Hid (aJ w1 [(⟨g1,2,none⟩,.int .i64 r0.beacon),(⟨g4,i,none⟩,.slice (some ⟨g5,0,none⟩) rs.length cr),(⟨g5,j,none⟩,.slice xl lp.length cl)]):=hd_ ⟨z2,y0,y1,trivial⟩;have H:=hd_ H1;rw[hw1]at b0 b1 b2 b3 b4;clear H1 z2 y0 y1 hw01
 go_wp2_with fail
 rw[<-hw1];have hs1:w1.heap.size=w.heap.size+1:=by rw[hw1];simp
 obtain⟨p2,hp2⟩:∃p,p=w.heap.size+1:=⟨_,rfl⟩
 rw[hs1, <-hp2, <-hp1]at H;rw[<-hp2, <-hp1];clear hw1 hp1 hp2 b0 b1 b2 b3 b4 hs1;refine KO.out.mono ?_;rintro r w3 ⟨⟨u,rfl,hu⟩,hb⟩;have H2:=hd_ (H.out.later hb);have hb1:=((M.start w1).alloc #[.int .i64 (j:Int),.slice xk nd.known.length ck,.int .i64 nd.beacon,.int .i64 nd.level,.int .i64 nd.up] 55).below;have C2:=hd_ (C1.out.below (hb1.trans (hb.mono hb1.size)));clear hb KO H hb1
 rcases hu with ⟨e,V,he,_,rfl⟩|⟨he,rfl⟩
 case inr=>
  rw[he]at NB;have h3:=H2.out.alloc #[.int .i64 0,.int .i64 0,.int .i64 0,.slice none 0 0,.slice none 0 0,.slice none 0 0,.int .i64 0,.int .i64 0,.slice none 0 0,.int .i64 0] 64;have H9:=hd_ h3.drew;clear H2 h3 he;go_wp2;refine aE 99 (.tk 0 6 (.alt 6 (.tk 7 24 .done) .nomore)) (fun w'=>True) (by kernel_rfl) (by kernel_rfl) (fun _ _ _ _ _ h=>h) trivial ?_
  repeat ((first|(refine aC (by rfl) (by rfl) ?_;apply Exists.intro;refine⟨fun w' hw'=>?_,?_⟩;(· ((try simp only[aJ,aF,b4L,b5L,b6L,b7L,bD,N.bR,and_true]at hw');go_simp;(try with_reducible rfl))))|(refine aB (by rfl) (by rfl) ?_));simp only[Act.put,List.getElem_toArray,List.getElem_cons_succ,pg3,pg4,pg5,pg6])
  refine aD (by rfl) (fun K' hK=>?_);go_simp;refine hK _ _ (.inr trivial) ?_;clear hK K'
  try simp only[Act.put,List.getElem_toArray,List.getElem_cons_succ,pg3,pg4,pg5,pg6]
  repeat ((first|(refine aC (by rfl) (by rfl) ?_;apply Exists.intro;refine⟨fun w' hw'=>?_,?_⟩;(· ((try simp only[aJ,aF,b4L,b5L,b6L,b7L,bD,N.bR,and_true]at hw');go_simp;(try with_reducible rfl))))|(refine aB (by rfl) (by rfl) ?_));simp only[Act.put,List.getElem_toArray,List.getElem_cons_succ,pg3,pg4,pg5,pg6])
  refine aI ?_;go_wp2;go_ret;exact⟨by rw[NB.out];rfl,by have:=H9.out.below;rwa[HP.out]at this⟩
 rw[he]at NB;have h3:=H2.out.alloc #[.int .i64 e.node,.int .i64 e.born,.int .i64 e.num,.slice V.xr V.nr V.cr,.slice V.xf V.nf V.cf,.slice V.xt V.nt V.ct,.int .i64 (e.s).lo,.int .i64 (e.s).al,.slice V.xk V.nk V.ck,.int .i64 (e.s).ka] 64;obtain⟨p3,hp3⟩:∃p,p=w3.heap.size:=⟨_,rfl⟩
 rw[<-hp3]at h3;obtain⟨w4,hw4⟩:∃W,W=w3.alloc (.cells #[.int .i64 e.node,.int .i64 e.born,.int .i64 e.num,.slice V.xr V.nr V.cr,.slice V.xf V.nf V.cf,.slice V.xt V.nt V.ct,.int .i64 (e.s).lo,.int .i64 (e.s).al,.slice V.xk V.nk V.ck,.int .i64 (e.s).ka] 64):=⟨_,rfl⟩
 rw[<-hw4]at h3;have hb4:Below w3.heap.size w3 w4:=by rw[hw4];exact (Below.refl _ _).alloc lr_ _
 have S0:Hid (aJ w4 (b4L p1 (.slice (some ⟨g1,0,none⟩) 5 c1) v2 v3 (.slice (some ⟨g4,0,none⟩) 5 c4)++(b5L p2 (.int .i64 (j:Int)) (.slice xk nd.known.length ck) (.int .i64 nd.beacon) (.int .i64 nd.level) (.int .i64 nd.up)++(bD p3 e.node e.born e.num V e.s++[(⟨g1,2,none⟩,.int .i64 r0.beacon),(⟨g4,i,none⟩,.slice (some ⟨g5,0,none⟩) rs.length cr),(⟨g5,j,none⟩,.slice xl lp.length cl)])))):=hd_ (by
    obtain⟨y0,y1,y2,y3,y4,y5,y6,y7,y8,y9⟩:=h3.cells10
    obtain⟨z0,z1,z2,z3,z4⟩:=h3.p1.cells5
    obtain⟨x0,x1,x2,x3⟩:=h3.p2.cells4
    obtain⟨t1,t2,t3,_⟩:=C2.out.below hb4
    exact⟨x0,x1,x2,x3,z0,z1,z2,z3,z4,y0,y1,y2,y3,y4,y5,y6,y7,y8,y9,t1,t2,t3,trivial⟩)
 obtain⟨W,hW⟩:∃W,W=w4.drew:=⟨_,rfl⟩
 have h4:=h3.drew;rw[<-hW]at h4;have S1:=hd_ (S0.out.below (Below.drew (Below.refl _ _)));rw[<-hW]at S1;have EW:=hd_ hW;have H4:=hd_ h4;have hWB:=h4.below;rw[HP.out]at hWB;have KN:=hd_ (yE W (HN.out.below hWB lr_) HS.out ((aP aU _ _).below RK.out hWB lr_));clear h3 h4 H2 hW hWB hb4 C2 he;obtain⟨s1,hs1⟩:∃b,b=dJ n nd.known:=⟨_,rfl⟩
 rw[<-hs1]at KN NB;clear hs1;go_wp2;rw[<-hp3, <-hw4];clear hp3 hw4;rcases s1 with _|_
 case false=>
  refine aE 99 (.tk 0 6 (.alt 6 (.tk 7 24 .done) .nomore)) (fun w'=>aJ w' (b4L p1 (.slice (some ⟨g1,0,none⟩) 5 c1) v2 v3 (.slice (some ⟨g4,0,none⟩) 5 c4)++(b5L p2 (.int .i64 (j:Int)) (.slice xk nd.known.length ck) (.int .i64 nd.beacon) (.int .i64 nd.level) (.int .i64 nd.up)++(bD p3 e.node e.born e.num V e.s++[(⟨g1,2,none⟩,.int .i64 r0.beacon),(⟨g4,i,none⟩,.slice (some ⟨g5,0,none⟩) rs.length cr),(⟨g5,j,none⟩,.slice xl lp.length cl)])))) (by kernel_rfl) (by kernel_rfl) (fun _ _ _ _ _ h=>h) (S0.out.below (Below.drew (Below.refl _ _))) ?_
  rw[<-EW.out]
  repeat ((first|(refine aC (by rfl) (by rfl) ?_;apply Exists.intro;refine⟨fun w' hw'=>?_,?_⟩;(· ((try simp only[aJ,aF,b4L,b5L,b6L,b7L,bD,N.bR,and_true]at hw');go_simp;(try with_reducible rfl))))|(refine aB (by rfl) (by rfl) ?_));simp only[Act.put,List.getElem_toArray,List.getElem_cons_succ,pg3,pg4,pg5,pg6])
  refine aD (by rfl) (fun K' hK=>?_);go_simp;refine KN.out.mono ?_;rintro r w5 ⟨rfl,hb⟩;have H9:=hd_ (H4.out.later hb);have S9:=hd_ (S1.out.below hb);refine hK _ _ (.inr S9.out) ?_;clear hK K'
  try simp only[Act.put,List.getElem_toArray,List.getElem_cons_succ,pg3,pg4,pg5,pg6]
  clear hb KN
  repeat ((first|(refine aC (by rfl) (by rfl) ?_;apply Exists.intro;refine⟨fun w' hw'=>?_,?_⟩;(· ((try simp only[aJ,aF,b4L,b5L,b6L,b7L,bD,N.bR,and_true]at hw');go_simp;(try with_reducible rfl))))|(refine aB (by rfl) (by rfl) ?_));simp only[Act.put,List.getElem_toArray,List.getElem_cons_succ,pg3,pg4,pg5,pg6])
  refine aI ?_;go_wp2;go_ret;exact⟨by rw[NB.out];simp,by have:=H9.out.below;rwa[HP.out]at this⟩
 by_cases eb:e.born=(j:Int)
 case neg=>
  have g1':(e.born != (j:Int))=true:=by simpa using eb
  have F:=hd_ (show decide (e.born=nd.born)=false from decide_eq_false (by rw[EJ.out];exact eb));clear eb
  refine aE 99 (.tk 0 6 (.alt 6 (.tk 7 24 .done) .nomore)) (fun w'=>aJ w' (b4L p1 (.slice (some ⟨g1,0,none⟩) 5 c1) v2 v3 (.slice (some ⟨g4,0,none⟩) 5 c4)++(b5L p2 (.int .i64 (j:Int)) (.slice xk nd.known.length ck) (.int .i64 nd.beacon) (.int .i64 nd.level) (.int .i64 nd.up)++(bD p3 e.node e.born e.num V e.s++[(⟨g1,2,none⟩,.int .i64 r0.beacon),(⟨g4,i,none⟩,.slice (some ⟨g5,0,none⟩) rs.length cr),(⟨g5,j,none⟩,.slice xl lp.length cl)])))) (by kernel_rfl) (by kernel_rfl) (fun _ _ _ _ _ h=>h) (S0.out.below (Below.drew (Below.refl _ _))) ?_
  rw[<-EW.out]
  repeat ((first|(refine aC (by rfl) (by rfl) ?_;apply Exists.intro;refine⟨fun w' hw'=>?_,?_⟩;(· ((try simp only[aJ,aF,b4L,b5L,b6L,b7L,bD,N.bR,and_true]at hw');go_simp;(try with_reducible rfl))))|(refine aB (by rfl) (by rfl) ?_));simp only[Act.put,List.getElem_toArray,List.getElem_cons_succ,pg3,pg4,pg5,pg6])
  refine aD (by rfl) (fun K' hK=>?_);go_simp;refine KN.out.mono ?_;rintro r w5 ⟨rfl,hb⟩;have H9:=hd_ (H4.out.later hb);have S9:=hd_ (S1.out.below hb);refine hK _ _ (.inr S9.out) ?_;clear hK K'
  try simp only[Act.put,List.getElem_toArray,List.getElem_cons_succ,pg3,pg4,pg5,pg6]
  clear hb KN
  repeat ((first|(refine aC (by rfl) (by rfl) ?_;apply Exists.intro;refine⟨fun w' hw'=>?_,?_⟩;(· ((try simp only[aJ,aF,b4L,b5L,b6L,b7L,bD,N.bR,and_true]at hw');go_simp;(try with_reducible rfl))))|(refine aB (by rfl) (by rfl) ?_));simp only[Act.put,List.getElem_toArray,List.getElem_cons_succ,pg3,pg4,pg5,pg6])
  refine aI ?_;go_wp2;go_ret;exact⟨by rw[NB.out];rw[F.out];rfl,by have:=H9.out.below;rwa[HP.out]at this⟩
 have g1':(e.born != (j:Int))=false:=by simpa using eb
 have F1:=hd_ (show decide (e.born=nd.born)=true from decide_eq_true (by rw[EJ.out];exact eb));clear eb
 by_cases en:e.num=(lp.length:Int)
 case neg=>
  have g2':(e.num != (lp.length:Int))=true:=by simpa using en
  have F:=hd_ (show decide (e.num=(lp.length:Int))=false from decide_eq_false en);clear en
  refine aE 99 (.tk 0 6 (.alt 6 (.tk 7 24 .done) .nomore)) (fun w'=>aJ w' (b4L p1 (.slice (some ⟨g1,0,none⟩) 5 c1) v2 v3 (.slice (some ⟨g4,0,none⟩) 5 c4)++(b5L p2 (.int .i64 (j:Int)) (.slice xk nd.known.length ck) (.int .i64 nd.beacon) (.int .i64 nd.level) (.int .i64 nd.up)++(bD p3 e.node e.born e.num V e.s++[(⟨g1,2,none⟩,.int .i64 r0.beacon),(⟨g4,i,none⟩,.slice (some ⟨g5,0,none⟩) rs.length cr),(⟨g5,j,none⟩,.slice xl lp.length cl)])))) (by kernel_rfl) (by kernel_rfl) (fun _ _ _ _ _ h=>h) (S0.out.below (Below.drew (Below.refl _ _))) ?_
  rw[<-EW.out]
  repeat ((first|(refine aC (by rfl) (by rfl) ?_;apply Exists.intro;refine⟨fun w' hw'=>?_,?_⟩;(· ((try simp only[aJ,aF,b4L,b5L,b6L,b7L,bD,N.bR,and_true]at hw');go_simp;(try with_reducible rfl))))|(refine aB (by rfl) (by rfl) ?_));simp only[Act.put,List.getElem_toArray,List.getElem_cons_succ,pg3,pg4,pg5,pg6])
  refine aD (by rfl) (fun K' hK=>?_);go_simp;refine KN.out.mono ?_;rintro r w5 ⟨rfl,hb⟩;have H9:=hd_ (H4.out.later hb);have S9:=hd_ (S1.out.below hb);refine hK _ _ (.inr S9.out) ?_;clear hK K'
  try simp only[Act.put,List.getElem_toArray,List.getElem_cons_succ,pg3,pg4,pg5,pg6]
  clear hb KN
  repeat ((first|(refine aC (by rfl) (by rfl) ?_;apply Exists.intro;refine⟨fun w' hw'=>?_,?_⟩;(· ((try simp only[aJ,aF,b4L,b5L,b6L,b7L,bD,N.bR,and_true]at hw');go_simp;(try with_reducible rfl))))|(refine aB (by rfl) (by rfl) ?_));simp only[Act.put,List.getElem_toArray,List.getElem_cons_succ,pg3,pg4,pg5,pg6])
  refine aI ?_;go_wp2;go_ret;exact⟨by rw[NB.out];rw[F.out];simp,by have:=H9.out.below;rwa[HP.out]at this⟩
 have g2':(e.num != (lp.length:Int))=false:=by simpa using en
 have F2:=hd_ (show decide (e.num=(lp.length:Int))=true from decide_eq_true en);clear en
 refine aE 99 (.tk 0 6 (.alt 6 (.tk 7 24 .done) .nomore)) (fun w'=>aJ w' (b4L p1 (.slice (some ⟨g1,0,none⟩) 5 c1) v2 v3 (.slice (some ⟨g4,0,none⟩) 5 c4)++(b5L p2 (.int .i64 (j:Int)) (.slice xk nd.known.length ck) (.int .i64 nd.beacon) (.int .i64 nd.level) (.int .i64 nd.up)++(bD p3 e.node e.born e.num V e.s++[(⟨g1,2,none⟩,.int .i64 r0.beacon),(⟨g4,i,none⟩,.slice (some ⟨g5,0,none⟩) rs.length cr),(⟨g5,j,none⟩,.slice xl lp.length cl)])))) (by kernel_rfl) (by kernel_rfl) (fun _ _ _ _ _ h=>h) (S0.out.below (Below.drew (Below.refl _ _))) ?_
 rw[<-EW.out]
 repeat ((first|(refine aC (by rfl) (by rfl) ?_;apply Exists.intro;refine⟨fun w' hw'=>?_,?_⟩;(· ((try simp only[aJ,aF,b4L,b5L,b6L,b7L,bD,N.bR,and_true]at hw');go_simp;(try with_reducible rfl))))|(refine aB (by rfl) (by rfl) ?_));simp only[Act.put,List.getElem_toArray,List.getElem_cons_succ,pg3,pg4,pg5,pg6])
 refine aD (by rfl) (fun K' hK=>?_);go_simp;refine KN.out.mono ?_;rintro r w5 ⟨rfl,hb⟩;have H9:=hd_ (H4.out.later hb);have S9:=hd_ (S1.out.below hb);refine hK _ _ (.inr S9.out) ?_;clear hK K'
 try simp only[Act.put,List.getElem_toArray,List.getElem_cons_succ,pg3,pg4,pg5,pg6]
 clear hb KN
 repeat ((first|(refine aC (by rfl) (by rfl) ?_;apply Exists.intro;refine⟨fun w' hw'=>?_,?_⟩;(· ((try simp only[aJ,aF,b4L,b5L,b6L,b7L,bD,N.bR,and_true]at hw');go_simp;(try with_reducible rfl))))|(refine aB (by rfl) (by rfl) ?_));simp only[Act.put,List.getElem_toArray,List.getElem_cons_succ,pg3,pg4,pg5,pg6])
 refine aI ?_;clear S0 S1 H4 EW;rw[F1.out,F2.out]at NB;obtain⟨y0,y1,y2,y3⟩:=H9.out.p2.cells4;obtain⟨z0,z1,z2,z3,z4⟩:=H9.out.p1.cells5
 by_cases hi:i=0
 ·subst hi
  obtain⟨l0,hl0⟩:∃b,b=(nd.level==0):=⟨_,rfl⟩
  obtain⟨u0,hu0⟩:∃b,b=(nd.up== -1):=⟨_,rfl⟩
  obtain⟨b0,hb0⟩:∃b,b=decide (0<=nd.beacon):=⟨_,rfl⟩
  have NB2:Hid (mN n ((0:Nat):Int)=(l0&&(u0&&b0))):=hd_ (by rw[NB.out,if_pos (by rfl),hl0,hu0,hb0];rfl);have ga:=hl0.symm;have gb:=hu0.symm;have gc:=hb0.symm;clear hl0 hu0 hb0 NB S9;refine aCd (a:=l0) (b:=u0) ?_ ?_ ?_
  all_goals
   first
    |(intro e1 e2;subst e1 e2)
    |(intro e1;subst e1)
   go_wp2;go_ret;exact⟨by rw[NB2.out];rfl,by have:=H9.out.below;rwa[HP.out]at this⟩
 have hi':((i:Int)==0)=false:=by simpa using hi
 obtain⟨s2,hs2⟩:∃b,b=in6 nd.beacon 0 r0.beacon:=⟨_,rfl⟩
 obtain⟨s3,hs3⟩:∃b,b=in6 nd.level 1 5:=⟨_,rfl⟩
 obtain⟨t1,ht1⟩:∃b,b=(nd.up== -1):=⟨_,rfl⟩
 obtain⟨t2,ht2⟩:∃b,b=(nd.level==5):=⟨_,rfl⟩
 obtain⟨s5,hs5⟩:∃b,b=in6 nd.up (-1) 4:=⟨_,rfl⟩
 obtain⟨t3,ht3⟩:∃b,b=(nd.up != (i:Int)):=⟨_,rfl⟩
 have NB2:Hid (mN n (i:Int)=(s2&&(s3&&((t1==t2)&&(s5&&t3))))):=hd_ (by
    rw[NB.out,if_neg (by simpa using hi),hs2,hs3,hs5]
    have e1:decide (nd.up= -1↔nd.level=5)=(t1==t2):=by
      rw[ht1,ht2]
      exact aKI _ _
    have e2:decide (nd.up≠(i:Int))=t3:=by
      rw[ht3]
      simp only[ne_eq,decide_not];rfl
    rw[e1,e2];simp)
 have K2:=hd_ (oQ hs2);have K3:=hd_ (oQ hs3);have K5:=hd_ (oQ hs5);have ga:=ht1.symm;have gb:=ht2.symm;have gc:=ht3.symm;clear hs2 hs3 ht1 ht2 hs5 ht3 NB;have S8:=hd_ (S9.out.below (Below.drew (Below.refl _ _)));obtain⟨W8,hW8⟩:∃W,W=w5.drew:=⟨_,rfl⟩
 have H8:=H9.out.drew;rw[<-hW8]at H8 S8;have EW8:=hd_ hW8;replace H9:=hd_ H8;clear H8 S9 hW8;obtain⟨tt,htt⟩:∃b,b=(t1==t2):=⟨_,rfl⟩
 rw[<-htt]at NB2;have gd:=htt.symm;clear htt;refine aFq (a:=s2) (b:=s3) (c:=tt) (d:=s5) (e:=t3) ?_ ?_ ?_ ?_ ?_ ?_
 all_goals
  first
   |(intro e1 e2 e3 e4 e5;subst e1 e2 e3 e4 e5)
   |(intro e1 e2 e3 e4;subst e1 e2 e3 e4)
   |(intro e1 e2 e3;subst e1 e2 e3)
   |(intro e1 e2;subst e1 e2)
   |(intro e1;subst e1)
  go_wp2
  refine aE 99 (.tk 0 7 (.alt 7 (.tk 8 3 (.alt 11 (.tk 12 17 (.alt 29 (.tk 30 7 (.alt 37 .done .nomore)) .nomore)) .nomore)) .nomore)) (fun w'=>aJ w' (b4L p1 (.slice (some ⟨g1,0,none⟩) 5 c1) v2 v3 (.slice (some ⟨g4,0,none⟩) 5 c4)++(b5L p2 (.int .i64 (j:Int)) (.slice xk nd.known.length ck) (.int .i64 nd.beacon) (.int .i64 nd.level) (.int .i64 nd.up)++(bD p3 e.node e.born e.num V e.s++[(⟨g1,2,none⟩,.int .i64 r0.beacon),(⟨g4,i,none⟩,.slice (some ⟨g5,0,none⟩) rs.length cr),(⟨g5,j,none⟩,.slice xl lp.length cl)])))) (by kernel_rfl) (by kernel_rfl) (fun _ _ _ _ _ h=>h) (by rw[<-EW8.out];exact S8.out) ?_
  rw[<-EW8.out]
  repeat ((first|(refine aC (by rfl) (by rfl) ?_;apply Exists.intro;refine⟨fun w' hw'=>?_,?_⟩;(· ((try simp only[aJ,aF,b4L,b5L,b6L,b7L,bD,N.bR,and_true]at hw');go_simp;(try with_reducible rfl))))|(refine aB (by rfl) (by rfl) ?_));simp only[Act.put,List.getElem_toArray,List.getElem_cons_succ,pg3,pg4,pg5,pg6])
  refine aD (by rfl) (fun K' hK=>?_);go_simp;refine (K2.out W8).mono ?_;rintro e' w' ⟨rfl,hw'⟩;rw[hw'];clear hw' w';refine hK _ _ (.inr S8.out) ?_;clear hK K'
  try simp only[Act.put,List.getElem_toArray,List.getElem_cons_succ,pg3,pg4,pg5,pg6]
  repeat ((first|(refine aC (by rfl) (by rfl) ?_;apply Exists.intro;refine⟨fun w' hw'=>?_,?_⟩;(· ((try simp only[aJ,aF,b4L,b5L,b6L,b7L,bD,N.bR,and_true]at hw');go_simp;(try with_reducible rfl))))|(refine aB (by rfl) (by rfl) ?_));simp only[Act.put,List.getElem_toArray,List.getElem_cons_succ,pg3,pg4,pg5,pg6])
  refine aD (by rfl) (fun K' hK=>?_);go_simp
  first
   |(refine (K3.out W8).mono ?_;rintro e' w' ⟨rfl,hw'⟩;rw[hw'];clear hw' w';refine hK _ _ (.inr S8.out) ?_)
   |refine hK _ _ (.inr S8.out) ?_
  clear hK K'
  repeat ((first|(refine aC (by rfl) (by rfl) ?_;apply Exists.intro;refine⟨fun w' hw'=>?_,?_⟩;(· ((try simp only[aJ,aF,b4L,b5L,b6L,b7L,bD,N.bR,and_true]at hw');go_simp;(try with_reducible rfl))))|(refine aB (by rfl) (by rfl) ?_));simp only[Act.put,List.getElem_toArray,List.getElem_cons_succ,pg3,pg4,pg5,pg6])
  refine aD (by rfl) (fun K' hK=>?_);go_simp
  first
   |(refine (K5.out W8).mono ?_;rintro e' w' ⟨rfl,hw'⟩;rw[hw'];clear hw' w';refine hK _ _ (.inr S8.out) ?_)
   |refine hK _ _ (.inr S8.out) ?_
  clear hK K'
  repeat ((first|(refine aC (by rfl) (by rfl) ?_;apply Exists.intro;refine⟨fun w' hw'=>?_,?_⟩;(· ((try simp only[aJ,aF,b4L,b5L,b6L,b7L,bD,N.bR,and_true]at hw');go_simp;(try with_reducible rfl))))|(refine aB (by rfl) (by rfl) ?_));simp only[Act.put,List.getElem_toArray,List.getElem_cons_succ,pg3,pg4,pg5,pg6])
  refine aD (by rfl) (fun K' hK=>?_);go_simp;refine hK _ _ (.inr S8.out) ?_;clear hK K'
  repeat ((first|(refine aC (by rfl) (by rfl) ?_;apply Exists.intro;refine⟨fun w' hw'=>?_,?_⟩;(· ((try simp only[aJ,aF,b4L,b5L,b6L,b7L,bD,N.bR,and_true]at hw');go_simp;(try with_reducible rfl))))|(refine aB (by rfl) (by rfl) ?_));simp only[Act.put,List.getElem_toArray,List.getElem_cons_succ,pg3,pg4,pg5,pg6])
  refine aI ?_;go_wp2;go_ret;exact⟨by rw[NB2.out];rfl,by have:=H9.out.below;rwa[HP.out]at this⟩
end N
end Go.Proofs.YtcblbdpdbggkbaaGreat
set_option linter.unusedVariables false
set_option linter.unusedSectionVars false
set_option linter.unusedSimpArgs false
namespace Go.Proofs.YtcblbdpdbggkbaaGreat
open Go.RowKit Go.Sort
namespace N
theorem aEn (w:World) {x1 x4 xk:Option Addr} {k1 c1 k4 c4 k ck:Nat} {v2 v3:Value} {n:Nt} {x:Wd} {f:List Nat} (hn:iL w (.slice x1 k1 c1) v2 v3 (.slice x4 k4 c4) n) (hs:nK n) (hk:eF TY w [.slice xk k ck] x.known f):
  Calls Tryz.prog 88 #[.agg #[.slice x1 k1 c1,v2,v3,.slice x4 k4 c4],.agg #[.int .i64 x.kind,.int .i64 x.src,.int .i64 x.dst,.int .i64 x.beacon,.int .i64 x.level,.slice xk k ck]] w fun r w'=>r=.returned (.bool (gX n x))/\Below w.heap.size w w':=by
 obtain⟨kind,src,dst,beacon,level,es⟩:=x;simp only at hk ⊢;obtain rfl:k=es.length:=(aO hk).1;obtain⟨_,_,e1,q1,q2⟩:=aS hk;have hm:es.length<=maxLen:=Nat.le_trans q1 q2;unfold maxLen at hm;clear e1 q1 q2;obtain⟨f1,n1⟩:=hn.nodes;obtain rfl:k1=5:=(aO n1).1.trans hs.nodes;obtain⟨r0,hr0⟩:∃nd,n.nodes[0]? =some nd:=⟨_,List.getElem?_eq_getElem (by rw[hs.nodes];decide)⟩
 have e0:aG n 0=r0:=by unfold aG;rw[List.getD_eq_getElem?_getD,show (0:Int).toNat=0 from rfl,hr0];rfl
 have WB:Hid (gX n ⟨kind,src,dst,beacon,level,es⟩=if kind=1 then (in6 src 0 4&&(in6 dst 0 4&&decide (src≠dst)))&&(in6 beacon 0 r0.beacon&&(in6 level 0 4&&decide (es.length=0)))else if kind=2 then (in6 src 0 4&&(in6 dst 0 4&&decide (src≠dst)))&&(decide (beacon=0)&&(decide (level=0)&&dJ n es))else false):=hd_ (by unfold gX aBm;rw[e0])
 have H0:=((M.start w).alloc #[.slice x1 5 c1,v2,v3,.slice x4 k4 c4] 30).alloc #[.int .i64 kind,.int .i64 src,.int .i64 dst,.int .i64 beacon,.int .i64 level,.slice xk es.length ck] 123;simp only[World.size_alloc]at H0;have hWB:=H0.below;obtain⟨g1,xk0,ck0,fk0,rfl,_,_,_,_,_,z0,z1,z2,z3,z4⟩:=fQ ((aP cC _ _).below n1 hWB lr_) hr0;simp only[Nat.zero_mul,Nat.zero_add]at z2
 clear z0 z1 z3 z4 hr0 e0 n1;obtain⟨W,hW⟩:∃W,W=(w.alloc (.cells #[.slice (some ⟨g1,0,none⟩) 5 c1,v2,v3,.slice x4 k4 c4] 30)).alloc (.cells #[.int .i64 kind,.int .i64 src,.int .i64 dst,.int .i64 beacon,.int .i64 level,.slice xk es.length ck] 123):=⟨_,rfl⟩
 rw[<-hW]at H0 hWB z2;obtain⟨p1,hp1⟩:∃p,p=w.heap.size:=⟨_,rfl⟩
 obtain⟨p2,hp2⟩:∃p,p=w.heap.size+1:=⟨_,rfl⟩
 rw[<-hp2, <-hp1]at H0;have HP:=hd_ hp1;have H:=hd_ H0;have KN:=hd_ (yE W (hn.below hWB lr_) hs ((aP aU _ _).below hk hWB lr_));obtain⟨a0,a1,a2,a3,a4,a5⟩:=H0.cells6;obtain⟨d0,d1,d2,d3⟩:=H0.p1.cells4
 have C0:Hid (aJ W.drew (b4L p1 (.slice (some ⟨g1,0,none⟩) 5 c1) v2 v3 (.slice x4 k4 c4)++(b6L p2 (.int .i64 kind) (.int .i64 src) (.int .i64 dst) (.int .i64 beacon) (.int .i64 level) (.slice xk es.length ck)++[(⟨g1,2,none⟩,.int .i64 r0.beacon)]))):=hd_ (by
    refine aJ.below (W:=W) ?_ (Below.drew (Below.refl _ _))
    exact⟨d0,d1,d2,d3,a0,a1,a2,a3,a4,a5,z2,trivial⟩)
 clear hn hs hk H0 hWB z2;obtain⟨s1,hs1⟩:∃b,b=in6 src 0 4:=⟨_,rfl⟩
 obtain⟨s2,hs2⟩:∃b,b=in6 dst 0 4:=⟨_,rfl⟩
 obtain⟨s3,hs3⟩:∃b,b=decide (src≠dst):=⟨_,rfl⟩
 obtain⟨s4,hs4⟩:∃b,b=in6 beacon 0 r0.beacon:=⟨_,rfl⟩
 obtain⟨s5,hs5⟩:∃b,b=in6 level 0 4:=⟨_,rfl⟩
 obtain⟨s6,hs6⟩:∃b,b=dJ n es:=⟨_,rfl⟩
 rw[<-hs1, <-hs2, <-hs3, <-hs4, <-hs5, <-hs6]at WB;rw[<-hs6]at KN;have K1:=hd_ (oQ hs1);have K2:=hd_ (oQ hs2);have K4:=hd_ (oQ hs4);have K5:=hd_ (oQ hs5);have g3:(src != dst)=s3:=by rw[hs3];by_cases q:src=dst<;>simp[q]
 clear hs1 hs2 hs3 hs4 hs5 hs6;have HB0:=hd_ (show Below w.heap.size w W.drew from by have:=H.out.drew.below;rwa[HP.out]at this);have HB1:=hd_ (show Below w.heap.size w W from by have:=H.out.below;rwa[HP.out]at this);obtain⟨e,he⟩:∃e:Bool,e=(s1&&(s2&&s3)):=⟨_,rfl⟩
 have WB2:Hid (gX n ⟨kind,src,dst,beacon,level,es⟩=if kind=1 then e&&(s4&&(s5&&decide (es.length=0)))else if kind=2 then e&&(decide (beacon=0)&&(decide (level=0)&&s6))else false):=hd_ (by rw[WB.out,he]);have HE:=hd_ he;clear he WB;obtain⟨z1,hz1⟩:∃b,b=decide (es.length=0):=⟨_,rfl⟩
 obtain⟨z2,hz2⟩:∃b,b=(beacon==0):=⟨_,rfl⟩
 obtain⟨z3,hz3⟩:∃b,b=(level==0):=⟨_,rfl⟩
 have gz1:((es.length:Int)==0)=z1:=by rw[hz1];by_cases q:es.length=0<;>simp[q]
 have gz2:=hz2.symm;have gz3:=hz3.symm;rw[<-hz1,show decide (beacon=0)=z2 from hz2.symm,show decide (level=0)=z3 from hz3.symm]at WB2;clear hz1 hz2 hz3;rcases Decidable.em (kind=1)with rfl|k1
 ·rw[if_pos rfl]at WB2
  go_enter Tryz.func88,Tryz.ntmps88;have R:∀(P:Prop),(s1=false->e=false->P)->(s1=true->s2=false->e=false->P)->(s1=true->s2=true->s3=false->e=false->P)->(s1=true->s2=true->s3=true->e=true->s4=false->P)->(s1=true->s2=true->s3=true->e=true->s4=true->s5=false->P)->(s1=true->s2=true->s3=true->e=true->s4=true->s5=true->P)->P:=fun P h1 h2 h3 h4 h5 h6=>by
   have he:=HE.out;refine aFq (a:=s1) (b:=s2) (c:=s3) (d:=s4) (e:=s5) (fun a=>h1 a (by rw[he,a];rfl)) (fun a b=>h2 a b (by rw[he,a,b];rfl)) (fun a b c=>h3 a b c (by rw[he,a,b,c];rfl)) (fun a b c d=>h4 a b c (by rw[he,a,b,c];rfl) d) (fun a b c d f=>h5 a b c (by rw[he,a,b,c];rfl) d f) (fun a b c d f=>h6 a b c (by rw[he,a,b,c];rfl) d f)
  clear HE;refine R _ ?_ ?_ ?_ ?_ ?_ ?_<;>clear R
  all_goals
   first
    |(intro e1 e2 e3 e4 e5 e6;subst e1 e2 e3 e4 e5 e6)
    |(intro e1 e2 e3 e4 e5;subst e1 e2 e3 e4 e5)
    |(intro e1 e2 e3 e4;subst e1 e2 e3 e4)
    |(intro e1 e2 e3;subst e1 e2 e3)
    |(intro e1 e2;subst e1 e2)
   go_wp2_with (first|((with_reducible refine (K1.out _).mono ?_);rintro e' w' ⟨rfl,hw'⟩;rw[hw'];clear hw' w')|((with_reducible refine (K2.out _).mono ?_);rintro e' w' ⟨rfl,hw'⟩;rw[hw'];clear hw' w'))
   rw[<-hp2, <-hp1, <-hW];clear hp2 hp1 hW
   refine aE 99 (.tk 0 9 (.alt 9 (.tk 10 4 (.alt 14 (.tk 15 7 (.alt 22 .done .nomore)) .nomore)) .nomore)) (fun w'=>aJ w' (b4L p1 (.slice (some ⟨g1,0,none⟩) 5 c1) v2 v3 (.slice x4 k4 c4)++(b6L p2 (.int .i64 1) (.int .i64 src) (.int .i64 dst) (.int .i64 beacon) (.int .i64 level) (.slice xk es.length ck)++[(⟨g1,2,none⟩,.int .i64 r0.beacon)]))) (by kernel_rfl) (by kernel_rfl) (fun _ _ _ _ _ h=>h) C0.out ?_
   repeat ((first|(refine aC (by rfl) (by rfl) ?_;apply Exists.intro;refine⟨fun w' hw'=>?_,?_⟩;(· ((try simp only[aJ,aF,b4L,b5L,b6L,b7L,bD,N.bR,and_true]at hw');go_simp;(try with_reducible rfl))))|(refine aB (by rfl) (by rfl) ?_));simp only[Act.put,List.getElem_toArray,List.getElem_cons_succ,pg3,pg4,pg5,pg6])
   refine aD (by rfl) (fun K' hK=>?_);go_simp
   first
    |(refine (K4.out _).mono ?_;rintro e' w' ⟨rfl,hw'⟩;rw[hw'];clear hw' w';refine hK _ _ (.inr C0.out) ?_)
    |refine hK _ _ (.inr C0.out) ?_
   clear hK K'
   repeat ((first|(refine aC (by rfl) (by rfl) ?_;apply Exists.intro;refine⟨fun w' hw'=>?_,?_⟩;(· ((try simp only[aJ,aF,b4L,b5L,b6L,b7L,bD,N.bR,and_true]at hw');go_simp;(try with_reducible rfl))))|(refine aB (by rfl) (by rfl) ?_));simp only[Act.put,List.getElem_toArray,List.getElem_cons_succ,pg3,pg4,pg5,pg6])
   refine aD (by rfl) (fun K' hK=>?_);go_simp
   first
    |(refine (K5.out _).mono ?_;rintro e' w' ⟨rfl,hw'⟩;rw[hw'];clear hw' w';refine hK _ _ (.inr C0.out) ?_)
    |refine hK _ _ (.inr C0.out) ?_
   clear hK K'
   repeat ((first|(refine aC (by rfl) (by rfl) ?_;apply Exists.intro;refine⟨fun w' hw'=>?_,?_⟩;(· ((try simp only[aJ,aF,b4L,b5L,b6L,b7L,bD,N.bR,and_true]at hw');go_simp;(try with_reducible rfl))))|(refine aB (by rfl) (by rfl) ?_));simp only[Act.put,List.getElem_toArray,List.getElem_cons_succ,pg3,pg4,pg5,pg6])
   refine aD (by rfl) (fun K' hK=>?_);go_simp;refine hK _ _ (.inr C0.out) ?_;clear hK K';refine aI ?_;go_wp2;go_ret;exact⟨by rw[WB2.out];rfl,HB0.out⟩
 rcases Decidable.em (kind=2)with rfl|k2
 ·rw[if_neg (by decide),if_pos rfl]at WB2
  go_enter Tryz.func88,Tryz.ntmps88;have R:∀(P:Prop),(s1=false->e=false->P)->(s1=true->s2=false->e=false->P)->(s1=true->s2=true->s3=false->e=false->P)->(s1=true->s2=true->s3=true->e=true->z2=false->P)->(s1=true->s2=true->s3=true->e=true->z2=true->z3=false->P)->(s1=true->s2=true->s3=true->e=true->z2=true->z3=true->P)->P:=fun P h1 h2 h3 h4 h5 h6=>by
   have he:=HE.out;refine aFq (a:=s1) (b:=s2) (c:=s3) (d:=z2) (e:=z3) (fun a=>h1 a (by rw[he,a];rfl)) (fun a b=>h2 a b (by rw[he,a,b];rfl)) (fun a b c=>h3 a b c (by rw[he,a,b,c];rfl)) (fun a b c d=>h4 a b c (by rw[he,a,b,c];rfl) d) (fun a b c d f=>h5 a b c (by rw[he,a,b,c];rfl) d f) (fun a b c d f=>h6 a b c (by rw[he,a,b,c];rfl) d f)
  clear HE;refine R _ ?_ ?_ ?_ ?_ ?_ ?last<;>clear R
  case last=>
   intro e1 e2 e3 e4 e5 e6;subst e1 e2 e3 e4 e5 e6
   go_wp2_with (first|((with_reducible refine (K1.out _).mono ?_);rintro e' w' ⟨rfl,hw'⟩;rw[hw'];clear hw' w')|((with_reducible refine (K2.out _).mono ?_);rintro e' w' ⟨rfl,hw'⟩;rw[hw'];clear hw' w'))
   rw[<-hp2, <-hp1, <-hW];clear hp2 hp1 hW;refine KN.out.mono ?_;rintro e' w' ⟨rfl,hb⟩;have F:=hd_ (HB1.out.trans (hb.mono HB1.out.size));clear hb KN;go_wp2;go_ret;exact⟨by rw[WB2.out];simp,F.out⟩
  all_goals
   first
    |(intro e1 e2 e3 e4 e5 e6;subst e1 e2 e3 e4 e5 e6)
    |(intro e1 e2 e3 e4 e5;subst e1 e2 e3 e4 e5)
    |(intro e1 e2 e3 e4;subst e1 e2 e3 e4)
    |(intro e1 e2 e3;subst e1 e2 e3)
    |(intro e1 e2;subst e1 e2)
   go_wp2_with (first|((with_reducible refine (K1.out _).mono ?_);rintro e' w' ⟨rfl,hw'⟩;rw[hw'];clear hw' w')|((with_reducible refine (K2.out _).mono ?_);rintro e' w' ⟨rfl,hw'⟩;rw[hw'];clear hw' w'))
   go_ret;rw[<-hW];exact⟨by rw[WB2.out];rfl,HB1.out⟩
 ·rw[if_neg k1,if_neg k2]at WB2
  have g1':(kind==1)=false:=by simpa using k1
  have g2':(kind==2)=false:=by simpa using k2
  clear HE k1 k2;go_enter Tryz.func88,Tryz.ntmps88;refine aCd (a:=s1) (b:=s2) ?_ ?_ ?_
  all_goals
   first
    |(intro e1 e2;subst e1 e2)
    |(intro e1;subst e1)
   go_wp2_with (first|((with_reducible refine (K1.out _).mono ?_);rintro e' w' ⟨rfl,hw'⟩;rw[hw'];clear hw' w')|((with_reducible refine (K2.out _).mono ?_);rintro e' w' ⟨rfl,hw'⟩;rw[hw'];clear hw' w'))
   go_ret;rw[<-hW];exact⟨by rw[WB2.out];rfl,HB1.out⟩
end N
end Go.Proofs.YtcblbdpdbggkbaaGreat
set_option linter.unusedVariables false
set_option linter.unusedSectionVars false
set_option linter.unusedSimpArgs false
namespace Go.Proofs.YtcblbdpdbggkbaaGreat
open Go.RowKit Go.Sort
namespace N
theorem aG6 (w:World) (a b:Int) (h:0<=a/\a<=4/\0<=b/\b<=4):Calls Tryz.prog 67 #[.int .i64 a,.int .i64 b] w fun e w'=>e=.returned (.int .i64 (a * 5+b))/\w=w':=by
 obtain⟨h0,h1,h2,h3⟩:=h;go_enter Tryz.func67,Tryz.ntmps67;go_wp2;go_ret;exact⟨rfl,rfl⟩
theorem tE (w:World) {a b:Int} (h:0<=a/\a<=4/\0<=b/\b<=4) {q:Nat} (hq:a * 5+b=q):Calls Tryz.prog 67 #[.int .i64 a,.int .i64 b] w fun e w'=>e=.returned (.int .i64 (q:Int))/\w=w':=by
 rw[<-hq];exact aG6 w a b h
end N
end Go.Proofs.YtcblbdpdbggkbaaGreat
set_option linter.unusedVariables false
set_option linter.unusedSectionVars false
set_option linter.unusedSimpArgs false
namespace Go.Proofs.YtcblbdpdbggkbaaGreat
open Go.RowKit Go.Sort
namespace N
theorem tH {n:Nt} {a:Nat} (h5:a<5) (h:nM n a=false):kZ n=false:=by
 unfold kZ;rw[kN (i:=a) (a:=a) (p:=fun a:Nat=>nM n a) (by rw[List.getElem?_range h5]) h];simp
theorem aI2 {n:Nt} {a:Nat} (h5:a<5) (h:mN n a=false):kZ n=false:=by
 unfold kZ;rw[kN (i:=a) (a:=a) (p:=fun a:Nat=>mN n a) (by rw[List.getElem?_range h5]) h];simp
theorem aIJ {n:Nt} {i:Nat} {x:Wd} (hi:n.words[i]? =some x) (h:gX n x=false):kZ n=false:=by
 unfold kZ;rw[kN hi h];simp
theorem aIQ {n:Nt} (h:aBb n=false):kZ n=false:=by unfold kZ;rw[h];rfl
theorem aKO {n:Nt} (h1:aBb n=true) (h2:∀a:Nat,a<5->nM n a=true) (h3:∀a:Nat,a<5->mN n a=true) (h4:∀(i:Nat) (x:Wd),n.words[i]? =some x->gX n x=true):kZ n=in6 (aG n 0).beacon 0 1000:=by
 unfold kZ;rw[h1,List.all_eq_true.2 (fun a ha=>h2 a (List.mem_range.1 ha)),List.all_eq_true.2 (fun a ha=>h3 a (List.mem_range.1 ha)),uM.2 h4]
 rfl
theorem aC3 {n:Nt} (h1:n.nodes.length=5) (h2:n.past.length=5) (h:∀a:Nat,a<5->nM n a=true):nK n:=by
 refine⟨h1,h2,fun i hi=>?_⟩;have:=h i hi;unfold nM jX at this;simp only[Bool.and_eq_true,decide_eq_true_eq]at this;exact this.2.1.1
theorem vL {n:Nt} {a b:Nat} {u:Bool} (h:n.links[a * 5+b]? =some u):eA n (a:Int) (b:Int)=u:=by
 unfold eA;rw[List.getD_eq_getElem?_getD,show ((a:Int) * 5+(b:Int)).toNat=a * 5+b by omega,h];rfl
theorem aFO (w:World) {x1 x2 x3 x4:Option Addr} {k1 c1 k2 c2 k3 c3 k4 c4:Nat} {n:Nt} (hn:iL w (.slice x1 k1 c1) (.slice x2 k2 c2) (.slice x3 k3 c3) (.slice x4 k4 c4) n):
  Calls Tryz.prog 25 #[.agg #[.slice x1 k1 c1,.slice x2 k2 c2,.slice x3 k3 c3,.slice x4 k4 c4]] w fun r w'=>r=.returned (.bool (kZ n))/\Below w.heap.size w w':=by
 obtain⟨f1,n1⟩:=hn.nodes;obtain⟨f2,n2⟩:=hn.links;obtain⟨f3,n3⟩:=hn.words;obtain⟨f4,n4⟩:=hn.past;have e1:k1=n.nodes.length:=(aO n1).1;have e2:k2=n.links.length:=(aO n2).1;have e3:k3=n.words.length:=(aO n3).1;have e4:k4=n.past.length:=(aO n4).1;have m3:k3<=maxLen:=by obtain⟨_,_,q,q1,q2⟩:=aS n3;rw[e3];exact Nat.le_trans q1 q2
 unfold maxLen at m3;have h0:=(M.start w).alloc #[.slice x1 k1 c1,.slice x2 k2 c2,.slice x3 k3 c3,.slice x4 k4 c4] 30;obtain⟨w1,hw1⟩:∃W,W=w.alloc (.cells #[.slice x1 k1 c1,.slice x2 k2 c2,.slice x3 k3 c3,.slice x4 k4 c4] 30):=⟨_,rfl⟩
 obtain⟨p1,hp1⟩:∃p,p=w.heap.size:=⟨_,rfl⟩
 have HP:=hd_ hp1;rw[<-hw1, <-hp1]at h0;have H:=hd_ h0;obtain⟨a0,a1,a2,a3⟩:=h0.cells4;have HN:=hd_ hn;have N1:=hd_ n1;have N2:=hd_ n2;have N3:=hd_ n3;have N4:=hd_ n4;have SB:Hid (aBb n=(decide (k1=5)&&(decide (k4=5)&&(decide (k2=25)&&decide (k3<=24))))):=hd_ (by rw[e1,e2,e3,e4];rfl);have E1:=hd_ e1;have E2:=hd_ e2;have E3:=hd_ e3;have E4:=hd_ e4;clear hn n1 n2 n3 n4 e1 e2 e3 e4 h0
 obtain⟨q1,hq1⟩:∃b,b=decide (k1=5):=⟨_,rfl⟩
 obtain⟨q4,hq4⟩:∃b,b=decide (k4=5):=⟨_,rfl⟩
 obtain⟨q2,hq2⟩:∃b,b=decide (k2=25):=⟨_,rfl⟩
 obtain⟨q3,hq3⟩:∃b,b=decide (k3<=24):=⟨_,rfl⟩
 rw[<-hq1, <-hq4, <-hq2, <-hq3]at SB;have z1:((k1:Int) != 5)= !q1:=by rw[hq1];by_cases q:k1=5<;>simp[q];omega
 have z4:((k4:Int) != 5)= !q4:=by rw[hq4];by_cases q:k4=5<;>simp[q];omega
 have z2:((k2:Int) != 25)= !q2:=by rw[hq2];by_cases q:k2=25<;>simp[q];omega
 have z3:decide ((24:Int)<(k3:Int))= !q3:=by rw[hq3];by_cases q:k3<=24<;>simp[q]<;>omega
 go_enter Tryz.func25,Tryz.ntmps25;have QS:=hd_ (And.intro (And.intro hq1 hq4) (And.intro hq2 hq3));clear hq1 hq2 hq3 hq4;refine aI4 (a:=q1) (b:=q4) (c:=q2) (d:=q3) ?_ ?_ ?_ ?_ ?last
 case last=>
  intro e1 e2 e3 e4;subst e1 e2 e3 e4;obtain⟨⟨y1,y4⟩,y2,y3⟩:=QS.out;obtain rfl:=of_decide_eq_true y1.symm;obtain rfl:=of_decide_eq_true y4.symm;obtain rfl:=of_decide_eq_true y2.symm;have k24:=of_decide_eq_true y3.symm;clear y1 y2 y3 y4 QS z1 z2 z4 z3;have z3:decide ((24:Int)<(k3:Int))=false:=by simp;omega
  go_wp2;rw[<-hp1, <-hw1];clear hp1 hw1 a0 a1 a2 a3 z3;go_loopw [3] (fun z wr=>∃a:Nat,a<=5/\z=.int .i64 (a:Int)/\(∀b:Nat,b<a->nM n b=true)/\M p1 w wr [bU p1 30 #[.slice x1 5 c1,.slice x2 25 c2,.slice x3 k3 c3,.slice x4 5 c4]]) (fun z _=>5 - (intOf z).toNat)
  case atStart=>exact⟨0,Nat.zero_le _,rfl,fun b h=>absurd h (Nat.not_lt_zero _),H.out⟩
  case round=>
   clear H;obtain⟨a,ha5,rfl,hall,hm⟩:=hrel;have ALL:=hd_ hall;have H:=hd_ hm;clear hall hm;have hWB:Below w.heap.size w wr:=by have:=H.out.below;rwa[HP.out]at this
   by_cases hlt:a<5
   ·obtain⟨nd,hnd⟩:∃nd,n.nodes[a]? =some nd:=⟨_,List.getElem?_eq_getElem (by rw[<-E1.out];exact hlt)⟩
    obtain⟨u,hu⟩:∃u,n.links[a * 5+a]? =some u:=⟨_,List.getElem?_eq_getElem (by rw[<-E2.out];omega)⟩
    have eN:aG n (a:Int)=nd:=by unfold aG;rw[List.getD_eq_getElem?_getD,Int.toNat_natCast,hnd];rfl
    have eW:=vL hu;obtain⟨g1,xk,ck,fk,rfl,_,_,_,_,_,b0,_⟩:=fQ N1.out hnd;obtain⟨g2,rfl,_,l0⟩:=nC N2.out hu;replace b0:=cell_later hWB b0;replace l0:=cell_later hWB l0;obtain⟨q,hq⟩:∃q,q=a * 5+a:=⟨_,rfl⟩
    rw[<-hq]at l0;obtain⟨W,hW⟩:∃W,W=wr.drew:=⟨_,rfl⟩
    have h2:=H.out.drew;rw[<-hW]at h2;have EW:=hd_ hW;have H2:=hd_ h2;have hWB2:Below w.heap.size w W:=by have:=h2.below;rwa[HP.out]at this
    have C0:Hid (aJ W (b4L p1 (.slice (some ⟨g1,0,none⟩) 5 c1) (.slice (some ⟨g2,0,none⟩) 25 c2) (.slice x3 k3 c3) (.slice x4 5 c4)++[(⟨g1,a * 5,none⟩,.int .i64 nd.born),(⟨g2,q,none⟩,.bool u)])):=hd_ (by
          obtain⟨a0,a1,a2,a3⟩:=h2.cells4
          rw[hW]
          exact⟨by rw[<-hW];exact a0,by rw[<-hW];exact a1,by rw[<-hW];exact a2,by rw[<-hW];exact a3,b0,l0,trivial⟩)
    obtain⟨s1,hs1⟩:∃b,b=in6 nd.born 1 20:=⟨_,rfl⟩
    obtain⟨s2,hs2⟩:∃b,b=jX n (a:Int):=⟨_,rfl⟩
    have SE:Hid (nM n (a:Int)=(s1&&(s2&&((u==false)&&(List.range a).all fun b=>eA n (a:Int) (b:Int)==eA n (b:Int) (a:Int))))):=hd_ (by unfold nM;rw[eN,eW,hs1,hs2,Int.toNat_natCast]);have K1:=hd_ (oQ hs1)
    have K2:=hd_ (fun (q:s1=true)=>show Calls Tryz.prog 86 #[.agg #[.slice (some ⟨g1,0,none⟩) 5 c1,.slice (some ⟨g2,0,none⟩) 25 c2,.slice x3 k3 c3,.slice x4 5 c4],.int .i64 (a:Int)] W fun r w'=>r=.returned (.bool s2)/\Below W.heap.size W w' by
          have:=cL.1 (hs1.symm.trans q)
          rw[hs2]
          exact aDj W (HN.out.below hWB2 lr_) E1.out.symm E4.out.symm hlt (by rw[eN];exact this))
    have K3:=hd_ (fun W=>tE W (a:=(a:Int)) (b:=(a:Int)) (by omega) (q:=q) (by omega));have k0:(0:Int)<=(a:Int):=by omega
    have k1':(a:Int)<5:=by omega
    have kl0:(0:Int)<=(q:Int):=by omega
    have kl1:(q:Int)<25:=by omega
    clear hnd hu eN eW hWB b0 l0 hW hWB2 hs1 hs2 h2 hq;refine aI6 (a:=s1) (b:=s2) (c:= !u) ?l1 ?l2 ?l3 ?ok
    case ok=>
     intro e1 e2 e3;subst e1 e2;obtain rfl:u=false:=by simpa using e3
     have K2a:=hd_ (K2.out rfl);clear e3 K2;go_wp2
     refine aE 99 (.tk 0 6 (.alt 6 (.tk 7 4 (.alt 11 (.tk 12 7 (.alt 19 (.tk 20 3 .done) .nomore)) .nomore)) .nomore)) (fun w'=>aJ w' (b4L p1 (.slice (some ⟨g1,0,none⟩) 5 c1) (.slice (some ⟨g2,0,none⟩) 25 c2) (.slice x3 k3 c3) (.slice x4 5 c4)++[(⟨g1,a * 5,none⟩,.int .i64 nd.born),(⟨g2,q,none⟩,.bool false)])) (by kernel_rfl) (by kernel_rfl) (fun _ _ _ _ _ h=>h) (by rw[<-EW.out];exact C0.out) ?_
     rw[<-EW.out]
     repeat ((first|(refine aC (by rfl) (by rfl) ?_;apply Exists.intro;refine⟨fun w' hw'=>?_,?_⟩;(· ((try simp only[aJ,aF,b4L,b5L,b6L,b7L,bD,N.bR,and_true]at hw');go_simp;(try with_reducible rfl))))|(refine aB (by rfl) (by rfl) ?_));simp only[Act.put,List.getElem_toArray,List.getElem_cons_succ,pg3,pg4,pg5,pg6])
     refine aD (by rfl) (fun K' hK=>?_);go_simp;refine (K1.out W).mono ?_;rintro e' w' ⟨rfl,hw'⟩;rw[hw'];clear hw' w';refine hK _ _ (.inr C0.out) ?_;clear hK K'
     try simp only[Act.put,List.getElem_toArray,List.getElem_cons_succ,pg3,pg4,pg5,pg6]
     repeat ((first|(refine aC (by rfl) (by rfl) ?_;apply Exists.intro;refine⟨fun w' hw'=>?_,?_⟩;(· ((try simp only[aJ,aF,b4L,b5L,b6L,b7L,bD,N.bR,and_true]at hw');go_simp;(try with_reducible rfl))))|(refine aB (by rfl) (by rfl) ?_));simp only[Act.put,List.getElem_toArray,List.getElem_cons_succ,pg3,pg4,pg5,pg6])
     refine aD (by rfl) (fun K' hK=>?_);go_simp;refine K2a.out.mono ?_;rintro e' w3 ⟨rfl,hb⟩;have C1:=hd_ (C0.out.below hb);have H3:=hd_ (H2.out.later hb);clear hb K2a;refine hK _ _ (.inr C1.out) ?_;clear hK K'
     try simp only[Act.put,List.getElem_toArray,List.getElem_cons_succ,pg3,pg4,pg5,pg6]
     repeat ((first|(refine aC (by rfl) (by rfl) ?_;apply Exists.intro;refine⟨fun w' hw'=>?_,?_⟩;(· ((try simp only[aJ,aF,b4L,b5L,b6L,b7L,bD,N.bR,and_true]at hw');go_simp;(try with_reducible rfl))))|(refine aB (by rfl) (by rfl) ?_));simp only[Act.put,List.getElem_toArray,List.getElem_cons_succ,pg3,pg4,pg5,pg6])
     refine aD (by rfl) (fun K' hK=>?_);go_simp;refine (K3.out w3).mono ?_;rintro e' w' ⟨rfl,hw'⟩;rw[<-hw'];clear hw' w';refine hK _ _ (.inr C1.out) ?_;clear hK K'
     try simp only[Act.put,List.getElem_toArray,List.getElem_cons_succ,pg3,pg4,pg5,pg6]
     repeat ((first|(refine aC (by rfl) (by rfl) ?_;apply Exists.intro;refine⟨fun w' hw'=>?_,?_⟩;(· ((try simp only[aJ,aF,b4L,b5L,b6L,b7L,bD,N.bR,and_true]at hw');go_simp;(try with_reducible rfl))))|(refine aB (by rfl) (by rfl) ?_));simp only[Act.put,List.getElem_toArray,List.getElem_cons_succ,pg3,pg4,pg5,pg6])
     refine aI ?_;go_wp2;clear C0 C1 H H2 EW K1 K3;go_loopw [4] (fun z wr=>∃b:Nat,b<=a/\z=.int .i64 (b:Int)/\(∀c:Nat,c<b->eA n (a:Int) (c:Int)=eA n (c:Int) (a:Int))/\M p1 w wr [bU p1 30 #[.slice (some ⟨g1,0,none⟩) 5 c1,.slice (some ⟨g2,0,none⟩) 25 c2,.slice x3 k3 c3,.slice x4 5 c4]]) (fun z _=>a - (intOf z).toNat)
     case atStart=>exact⟨0,Nat.zero_le _,rfl,fun b h=>absurd h (Nat.not_lt_zero _),H3.out⟩
     case round=>
      clear H3;obtain⟨b,hba,rfl,hsym,hm⟩:=hrel;have SY:=hd_ hsym;have H:=hd_ hm;clear hsym hm;have hWB:Below w.heap.size w wr:=by have:=H.out.below;rwa[HP.out]at this
      by_cases hblt:b<a
      ·obtain⟨ua,hua⟩:∃u,n.links[a * 5+b]? =some u:=⟨_,List.getElem?_eq_getElem (by rw[<-E2.out];omega)⟩
       obtain⟨ub,hub⟩:∃u,n.links[b * 5+a]? =some u:=⟨_,List.getElem?_eq_getElem (by rw[<-E2.out];omega)⟩
       have eW1:=hd_ (vL hua);have eW2:=hd_ (vL hub);obtain⟨_,eg,_,l1⟩:=nC N2.out hua;cases eg;obtain⟨_,eg,_,l2⟩:=nC N2.out hub;cases eg;replace l1:=cell_later hWB l1;replace l2:=cell_later hWB l2;obtain⟨r1,hr1⟩:∃q,q=a * 5+b:=⟨_,rfl⟩
       obtain⟨r2,hr2⟩:∃q,q=b * 5+a:=⟨_,rfl⟩
       rw[<-hr1]at l1;rw[<-hr2]at l2;obtain⟨W,hW⟩:∃W,W=wr.drew:=⟨_,rfl⟩
       have h2:=H.out.drew;rw[<-hW]at h2;have EW:=hd_ hW;have H2:=hd_ h2;have C0:Hid (aJ W (b4L p1 (.slice (some ⟨g1,0,none⟩) 5 c1) (.slice (some ⟨g2,0,none⟩) 25 c2) (.slice x3 k3 c3) (.slice x4 5 c4)++[(⟨g2,r1,none⟩,.bool ua),(⟨g2,r2,none⟩,.bool ub)])):=hd_ (by
                obtain⟨a0,a1,a2,a3⟩:=h2.cells4
                rw[hW]
                exact⟨by rw[<-hW];exact a0,by rw[<-hW];exact a1,by rw[<-hW];exact a2,by rw[<-hW];exact a3,l1,l2,trivial⟩)
       have K3:=hd_ (fun W=>tE W (a:=(a:Int)) (b:=(b:Int)) (by omega) (q:=r1) (by omega));have K4:=hd_ (fun W=>tE W (a:=(b:Int)) (b:=(a:Int)) (by omega) (q:=r2) (by omega));have kb0:(0:Int)<=(r1:Int):=by omega
       have kb1:(r1:Int)<25:=by omega
       have kc0:(0:Int)<=(r2:Int):=by omega
       have kc1:(r2:Int)<25:=by omega
       have ib:(b:Int)<(a:Int):=by omega
       clear hua hub hWB l1 l2 hW h2 hr1 hr2;go_wp2
       refine aE 99 (.tk 0 4 (.tk 7 4 (.alt 4 (.tk 5 2 (.alt 11 (.tk 12 3 .done) .nomore)) .nomore))) (fun w'=>aJ w' (b4L p1 (.slice (some ⟨g1,0,none⟩) 5 c1) (.slice (some ⟨g2,0,none⟩) 25 c2) (.slice x3 k3 c3) (.slice x4 5 c4)++[(⟨g2,r1,none⟩,.bool ua),(⟨g2,r2,none⟩,.bool ub)])) (by kernel_rfl) (by kernel_rfl) (fun _ _ _ _ _ h=>h) (by rw[<-EW.out];exact C0.out) ?_;rw[<-EW.out]
       repeat ((first|(refine aC (by rfl) (by rfl) ?_;apply Exists.intro;refine⟨fun w' hw'=>?_,?_⟩;(· ((try simp only[aJ,aF,b4L,b5L,b6L,b7L,bD,N.bR,and_true]at hw');go_simp;(try with_reducible rfl))))|(refine aB (by rfl) (by rfl) ?_));simp only[Act.put,List.getElem_toArray,List.getElem_cons_succ,pg3,pg4,pg5,pg6])
       refine aD (by rfl) (fun K' hK=>?_);go_simp;refine (K3.out W).mono ?_;rintro e' w' ⟨rfl,hw'⟩;rw[<-hw'];clear hw' w';refine hK _ _ (.inr C0.out) ?_;clear hK K'
       try simp only[Act.put,List.getElem_toArray,List.getElem_cons_succ,pg3,pg4,pg5,pg6]
       repeat ((first|(refine aC (by rfl) (by rfl) ?_;apply Exists.intro;refine⟨fun w' hw'=>?_,?_⟩;(· ((try simp only[aJ,aF,b4L,b5L,b6L,b7L,bD,N.bR,and_true]at hw');go_simp;(try with_reducible rfl))))|(refine aB (by rfl) (by rfl) ?_));simp only[Act.put,List.getElem_toArray,List.getElem_cons_succ,pg3,pg4,pg5,pg6])
       refine aD (by rfl) (fun K' hK=>?_);go_simp;refine (K4.out W).mono ?_;rintro e' w' ⟨rfl,hw'⟩;rw[<-hw'];clear hw' w';refine hK _ _ (.inr C0.out) ?_;clear hK K'
       try simp only[Act.put,List.getElem_toArray,List.getElem_cons_succ,pg3,pg4,pg5,pg6]
       repeat ((first|(refine aC (by rfl) (by rfl) ?_;apply Exists.intro;refine⟨fun w' hw'=>?_,?_⟩;(· ((try simp only[aJ,aF,b4L,b5L,b6L,b7L,bD,N.bR,and_true]at hw');go_simp;(try with_reducible rfl))))|(refine aB (by rfl) (by rfl) ?_));simp only[Act.put,List.getElem_toArray,List.getElem_cons_succ,pg3,pg4,pg5,pg6])
       refine aI ?_;clear K3 K4 EW H;have SY2:Hid (ua=ub->∀c:Nat,c<b+1->eA n (a:Int) (c:Int)=eA n (c:Int) (a:Int)):=hd_ fun hq c hc=>by
        by_cases q:c<b
        ·exact SY.out c q
        ·obtain rfl:c=b:=by omega
         rw[eW1.out,eW2.out,hq]
       have F:Hid (ua≠ub->kZ n=false):=hd_ fun hq=>tH hlt (by
                rw[SE.out]
                simp only[Bool.true_and,beq_self_eq_true]
                rw[kN (i:=b) (a:=b) (p:=fun b:Nat=>eA n (a:Int) (b:Int)==eA n (b:Int) (a:Int)) (by rw[List.getElem?_range hblt]) (by rw[eW1.out,eW2.out];simpa using hq)])
       clear C0 eW1 eW2 SY;rcases ua with _|_<;>rcases ub with _|_
       case false.false=>
        have SY3:=hd_ (SY2.out rfl);clear F SY2;go_wp2;go_roundw
        case rel=>exact⟨b+1,by omega,by go_num,SY3.out,H2.out⟩
        case measure=>simp[intOf];omega
       case true.true=>
        have SY3:=hd_ (SY2.out rfl);clear F SY2;go_wp2;go_roundw
        case rel=>exact⟨b+1,by omega,by go_num,SY3.out,H2.out⟩
        case measure=>simp[intOf];omega
       all_goals
        have F:=hd_ (F.out (by simp));clear SY2;go_wp2;go_ret;exact⟨by rw[F.out];rfl,by rw[<-HP.out];exact H2.out.below⟩
      ·obtain rfl:a=b:=by omega
       have ALL2:Hid (∀c:Nat,c<a+1->nM n c=true):=hd_ fun c hc=>by
        by_cases q:c<a
        ·exact ALL.out c q
        ·obtain rfl:c=a:=by omega
         rw[SE.out,List.all_eq_true.2 fun d hd=>by rw[SY.out d (List.mem_range.1 hd)];simp]
         rfl
       go_wp2;go_roundw
       case rel=>exact⟨a+1,by omega,by go_num,ALL2.out,H.out⟩
       case measure=>simp[intOf];omega
    case l1=>
     intro e1;subst e1;clear K2;have F:=hd_ (tH hlt (by rw[SE.out];rfl));go_wp2
     refine aE 99 (.tk 0 6 (.alt 6 (.tk 7 4 (.alt 11 (.tk 12 7 (.alt 19 (.tk 20 3 .done) .nomore)) .nomore)) .nomore)) (fun w'=>aJ w' (b4L p1 (.slice (some ⟨g1,0,none⟩) 5 c1) (.slice (some ⟨g2,0,none⟩) 25 c2) (.slice x3 k3 c3) (.slice x4 5 c4)++[(⟨g1,a * 5,none⟩,.int .i64 nd.born),(⟨g2,q,none⟩,.bool u)])) (by kernel_rfl) (by kernel_rfl) (fun _ _ _ _ _ h=>h) (by rw[<-EW.out];exact C0.out) ?_
     rw[<-EW.out]
     repeat ((first|(refine aC (by rfl) (by rfl) ?_;apply Exists.intro;refine⟨fun w' hw'=>?_,?_⟩;(· ((try simp only[aJ,aF,b4L,b5L,b6L,b7L,bD,N.bR,and_true]at hw');go_simp;(try with_reducible rfl))))|(refine aB (by rfl) (by rfl) ?_));simp only[Act.put,List.getElem_toArray,List.getElem_cons_succ,pg3,pg4,pg5,pg6])
     refine aD (by rfl) (fun K' hK=>?_);go_simp;refine (K1.out W).mono ?_;rintro e' w' ⟨rfl,hw'⟩;rw[hw'];clear hw' w';refine hK _ _ (.inr C0.out) ?_;clear hK K'
     try simp only[Act.put,List.getElem_toArray,List.getElem_cons_succ,pg3,pg4,pg5,pg6]
     repeat ((first|(refine aC (by rfl) (by rfl) ?_;apply Exists.intro;refine⟨fun w' hw'=>?_,?_⟩;(· ((try simp only[aJ,aF,b4L,b5L,b6L,b7L,bD,N.bR,and_true]at hw');go_simp;(try with_reducible rfl))))|(refine aB (by rfl) (by rfl) ?_));simp only[Act.put,List.getElem_toArray,List.getElem_cons_succ,pg3,pg4,pg5,pg6])
     refine aD (by rfl) (fun K' hK=>?_);go_simp;refine hK _ _ (.inr C0.out) ?_;clear hK K'
     try simp only[Act.put,List.getElem_toArray,List.getElem_cons_succ,pg3,pg4,pg5,pg6]
     repeat ((first|(refine aC (by rfl) (by rfl) ?_;apply Exists.intro;refine⟨fun w' hw'=>?_,?_⟩;(· ((try simp only[aJ,aF,b4L,b5L,b6L,b7L,bD,N.bR,and_true]at hw');go_simp;(try with_reducible rfl))))|(refine aB (by rfl) (by rfl) ?_));simp only[Act.put,List.getElem_toArray,List.getElem_cons_succ,pg3,pg4,pg5,pg6])
     refine aD (by rfl) (fun K' hK=>?_);go_simp;refine hK _ _ (.inr C0.out) ?_;clear hK K'
     try simp only[Act.put,List.getElem_toArray,List.getElem_cons_succ,pg3,pg4,pg5,pg6]
     repeat ((first|(refine aC (by rfl) (by rfl) ?_;apply Exists.intro;refine⟨fun w' hw'=>?_,?_⟩;(· ((try simp only[aJ,aF,b4L,b5L,b6L,b7L,bD,N.bR,and_true]at hw');go_simp;(try with_reducible rfl))))|(refine aB (by rfl) (by rfl) ?_));simp only[Act.put,List.getElem_toArray,List.getElem_cons_succ,pg3,pg4,pg5,pg6])
     refine aI ?_;go_wp2;go_ret;exact⟨by rw[F.out];rfl,by rw[<-HP.out];exact H2.out.below⟩
    case l2=>
     intro e1 e2;subst e1 e2;have K2a:=hd_ (K2.out rfl);clear K2;have F:=hd_ (tH hlt (by rw[SE.out];rfl));go_wp2
     refine aE 99 (.tk 0 6 (.alt 6 (.tk 7 4 (.alt 11 (.tk 12 7 (.alt 19 (.tk 20 3 .done) .nomore)) .nomore)) .nomore)) (fun w'=>aJ w' (b4L p1 (.slice (some ⟨g1,0,none⟩) 5 c1) (.slice (some ⟨g2,0,none⟩) 25 c2) (.slice x3 k3 c3) (.slice x4 5 c4)++[(⟨g1,a * 5,none⟩,.int .i64 nd.born),(⟨g2,q,none⟩,.bool u)])) (by kernel_rfl) (by kernel_rfl) (fun _ _ _ _ _ h=>h) (by rw[<-EW.out];exact C0.out) ?_
     rw[<-EW.out]
     repeat ((first|(refine aC (by rfl) (by rfl) ?_;apply Exists.intro;refine⟨fun w' hw'=>?_,?_⟩;(· ((try simp only[aJ,aF,b4L,b5L,b6L,b7L,bD,N.bR,and_true]at hw');go_simp;(try with_reducible rfl))))|(refine aB (by rfl) (by rfl) ?_));simp only[Act.put,List.getElem_toArray,List.getElem_cons_succ,pg3,pg4,pg5,pg6])
     refine aD (by rfl) (fun K' hK=>?_);go_simp;refine (K1.out W).mono ?_;rintro e' w' ⟨rfl,hw'⟩;rw[hw'];clear hw' w';refine hK _ _ (.inr C0.out) ?_;clear hK K'
     try simp only[Act.put,List.getElem_toArray,List.getElem_cons_succ,pg3,pg4,pg5,pg6]
     repeat ((first|(refine aC (by rfl) (by rfl) ?_;apply Exists.intro;refine⟨fun w' hw'=>?_,?_⟩;(· ((try simp only[aJ,aF,b4L,b5L,b6L,b7L,bD,N.bR,and_true]at hw');go_simp;(try with_reducible rfl))))|(refine aB (by rfl) (by rfl) ?_));simp only[Act.put,List.getElem_toArray,List.getElem_cons_succ,pg3,pg4,pg5,pg6])
     refine aD (by rfl) (fun K' hK=>?_);go_simp;refine K2a.out.mono ?_;rintro e' w3 ⟨rfl,hb⟩;have C1:=hd_ (C0.out.below hb);have H3:=hd_ (H2.out.later hb);clear hb K2a;refine hK _ _ (.inr C1.out) ?_;clear hK K'
     try simp only[Act.put,List.getElem_toArray,List.getElem_cons_succ,pg3,pg4,pg5,pg6]
     repeat ((first|(refine aC (by rfl) (by rfl) ?_;apply Exists.intro;refine⟨fun w' hw'=>?_,?_⟩;(· ((try simp only[aJ,aF,b4L,b5L,b6L,b7L,bD,N.bR,and_true]at hw');go_simp;(try with_reducible rfl))))|(refine aB (by rfl) (by rfl) ?_));simp only[Act.put,List.getElem_toArray,List.getElem_cons_succ,pg3,pg4,pg5,pg6])
     refine aD (by rfl) (fun K' hK=>?_);go_simp;refine hK _ _ (.inr C1.out) ?_;clear hK K'
     try simp only[Act.put,List.getElem_toArray,List.getElem_cons_succ,pg3,pg4,pg5,pg6]
     repeat ((first|(refine aC (by rfl) (by rfl) ?_;apply Exists.intro;refine⟨fun w' hw'=>?_,?_⟩;(· ((try simp only[aJ,aF,b4L,b5L,b6L,b7L,bD,N.bR,and_true]at hw');go_simp;(try with_reducible rfl))))|(refine aB (by rfl) (by rfl) ?_));simp only[Act.put,List.getElem_toArray,List.getElem_cons_succ,pg3,pg4,pg5,pg6])
     refine aI ?_;go_wp2;go_ret;exact⟨by rw[F.out];rfl,by rw[<-HP.out];exact H3.out.below⟩
    case l3=>
     intro e1 e2 e3;subst e1 e2;obtain rfl:u=true:=by simpa using e3
     clear e3;have K2a:=hd_ (K2.out rfl);clear K2;have F:=hd_ (tH hlt (by rw[SE.out];rfl));go_wp2
     refine aE 99 (.tk 0 6 (.alt 6 (.tk 7 4 (.alt 11 (.tk 12 7 (.alt 19 (.tk 20 3 .done) .nomore)) .nomore)) .nomore)) (fun w'=>aJ w' (b4L p1 (.slice (some ⟨g1,0,none⟩) 5 c1) (.slice (some ⟨g2,0,none⟩) 25 c2) (.slice x3 k3 c3) (.slice x4 5 c4)++[(⟨g1,a * 5,none⟩,.int .i64 nd.born),(⟨g2,q,none⟩,.bool true)])) (by kernel_rfl) (by kernel_rfl) (fun _ _ _ _ _ h=>h) (by rw[<-EW.out];exact C0.out) ?_
     rw[<-EW.out]
     repeat ((first|(refine aC (by rfl) (by rfl) ?_;apply Exists.intro;refine⟨fun w' hw'=>?_,?_⟩;(· ((try simp only[aJ,aF,b4L,b5L,b6L,b7L,bD,N.bR,and_true]at hw');go_simp;(try with_reducible rfl))))|(refine aB (by rfl) (by rfl) ?_));simp only[Act.put,List.getElem_toArray,List.getElem_cons_succ,pg3,pg4,pg5,pg6])
     refine aD (by rfl) (fun K' hK=>?_);go_simp;refine (K1.out W).mono ?_;rintro e' w' ⟨rfl,hw'⟩;rw[hw'];clear hw' w';refine hK _ _ (.inr C0.out) ?_;clear hK K'
     try simp only[Act.put,List.getElem_toArray,List.getElem_cons_succ,pg3,pg4,pg5,pg6]
     repeat ((first|(refine aC (by rfl) (by rfl) ?_;apply Exists.intro;refine⟨fun w' hw'=>?_,?_⟩;(· ((try simp only[aJ,aF,b4L,b5L,b6L,b7L,bD,N.bR,and_true]at hw');go_simp;(try with_reducible rfl))))|(refine aB (by rfl) (by rfl) ?_));simp only[Act.put,List.getElem_toArray,List.getElem_cons_succ,pg3,pg4,pg5,pg6])
     refine aD (by rfl) (fun K' hK=>?_);go_simp;refine K2a.out.mono ?_;rintro e' w3 ⟨rfl,hb⟩;have C1:=hd_ (C0.out.below hb);have H3:=hd_ (H2.out.later hb);clear hb K2a;refine hK _ _ (.inr C1.out) ?_;clear hK K'
     try simp only[Act.put,List.getElem_toArray,List.getElem_cons_succ,pg3,pg4,pg5,pg6]
     repeat ((first|(refine aC (by rfl) (by rfl) ?_;apply Exists.intro;refine⟨fun w' hw'=>?_,?_⟩;(· ((try simp only[aJ,aF,b4L,b5L,b6L,b7L,bD,N.bR,and_true]at hw');go_simp;(try with_reducible rfl))))|(refine aB (by rfl) (by rfl) ?_));simp only[Act.put,List.getElem_toArray,List.getElem_cons_succ,pg3,pg4,pg5,pg6])
     refine aD (by rfl) (fun K' hK=>?_);go_simp;refine (K3.out w3).mono ?_;rintro e' w' ⟨rfl,hw'⟩;rw[<-hw'];clear hw' w';refine hK _ _ (.inr C1.out) ?_;clear hK K'
     try simp only[Act.put,List.getElem_toArray,List.getElem_cons_succ,pg3,pg4,pg5,pg6]
     repeat ((first|(refine aC (by rfl) (by rfl) ?_;apply Exists.intro;refine⟨fun w' hw'=>?_,?_⟩;(· ((try simp only[aJ,aF,b4L,b5L,b6L,b7L,bD,N.bR,and_true]at hw');go_simp;(try with_reducible rfl))))|(refine aB (by rfl) (by rfl) ?_));simp only[Act.put,List.getElem_toArray,List.getElem_cons_succ,pg3,pg4,pg5,pg6])
     refine aI ?_;go_wp2;go_ret;exact⟨by rw[F.out];rfl,by rw[<-HP.out];exact H3.out.below⟩
   ·obtain rfl:a=5:=by omega
    simp only[Int.cast_ofNat_Int];have SHP:=hd_ (aC3 E1.out.symm E4.out.symm ALL.out);clear hWB;go_wp2;go_loopw [5] (fun z wr=>∃a:Nat,a<=5/\z=.int .i64 (a:Int)/\(∀b:Nat,b<a->mN n b=true)/\M p1 w wr [bU p1 30 #[.slice x1 5 c1,.slice x2 25 c2,.slice x3 k3 c3,.slice x4 5 c4]]) (fun z _=>5 - (intOf z).toNat)
    case atStart=>exact⟨0,Nat.zero_le _,rfl,fun b h=>absurd h (Nat.not_lt_zero _),H.out⟩
    case round=>
     clear H;obtain⟨a,ha5,rfl,hnod,hm⟩:=hrel;have NOD:=hd_ hnod;have H:=hd_ hm;clear hnod hm;have hWB:Below w.heap.size w wr:=by have:=H.out.below;rwa[HP.out]at this
     by_cases hlt:a<5
     ·obtain⟨s1,hs1⟩:∃b,b=mN n (a:Int):=⟨_,rfl⟩
      have hborn:1<=(aG n (a:Int)).born:=by
       have:=ALL.out a hlt;unfold nM at this;simp only[Bool.and_eq_true,cL]at this;exact this.1.1
      have K1:=aDz wr (HN.out.below hWB lr_) SHP.out hlt hborn;rw[<-hs1]at K1;have KN:=hd_ K1;have k0:(0:Int)<=(a:Int):=by omega
      have k1':(a:Int)<5:=by omega
      obtain⟨a0,a1,a2,a3⟩:=H.out.cells4;have S1:=hd_ hs1;clear hs1 hborn K1 hWB
      go_wp2_with fail
      refine KN.out.mono ?_;rintro e' w3 ⟨rfl,hb⟩;have H3:=hd_ (H.out.later hb);clear hb KN a0 a1 a2 a3 H;cases s1 with
      |false=>
       have F:=hd_ (aI2 hlt S1.out.symm);go_wp2;go_ret;exact⟨by rw[F.out];rfl,by rw[<-HP.out];exact H3.out.below⟩
      |true=>
       have NOD2:Hid (∀c:Nat,c<a+1->mN n c=true):=hd_ fun c hc=>by
        by_cases q:c<a
        ·exact NOD.out c q
        ·obtain rfl:c=a:=by omega
         exact S1.out.symm
       go_wp2;go_roundw
       case rel=>exact⟨a+1,by omega,by go_num,NOD2.out,H3.out⟩
       case measure=>simp[intOf];omega
     ·obtain rfl:a=5:=by omega
      simp only[Int.cast_ofNat_Int];clear hWB;go_wp2;go_loopw [6] (fun z wr=>∃i:Nat,i<=k3/\z=.int .i64 (i:Int)/\(∀(b:Nat) (x:Wd),b<i->n.words[b]? =some x->gX n x=true)/\M p1 w wr [bU p1 30 #[.slice x1 5 c1,.slice x2 25 c2,.slice x3 k3 c3,.slice x4 5 c4]]) (fun z _=>k3 - (intOf z).toNat)
      case atStart=>exact⟨0,Nat.zero_le _,rfl,fun b x h=>absurd h (Nat.not_lt_zero _),H.out⟩
      case round=>
       clear H;obtain⟨i,hi3,rfl,hwd,hm⟩:=hrel;have WDS:=hd_ hwd;have H:=hd_ hm;clear hwd hm;have hWB:Below w.heap.size w wr:=by have:=H.out.below;rwa[HP.out]at this
       obtain⟨a0,a1,a2,a3⟩:=H.out.cells4
       by_cases hlt:i<k3
       ·obtain⟨x,hx⟩:∃x,n.words[i]? =some x:=⟨_,List.getElem?_eq_getElem (by rw[<-E3.out];exact hlt)⟩
        obtain⟨g3,xk,ck,fk,rfl,_,_,rk,_,_,y0,y1,y2,y3,y4,y5⟩:=tI N3.out hx;replace y0:=cell_later hWB y0;replace y1:=cell_later hWB y1;replace y2:=cell_later hWB y2;replace y3:=cell_later hWB y3;replace y4:=cell_later hWB y4;replace y5:=cell_later hWB y5;obtain⟨W,hW⟩:∃W,W=wr.drew:=⟨_,rfl⟩
        have h2:=H.out.drew;rw[<-hW]at h2;have EW:=hd_ hW;have H2:=hd_ h2;have hWB2:Below w.heap.size w W:=by have:=h2.below;rwa[HP.out]at this
        have C0:Hid (aJ W (b4L p1 (.slice x1 5 c1) (.slice x2 25 c2) (.slice (some ⟨g3,0,none⟩) k3 c3) (.slice x4 5 c4)++[(⟨g3,i * 6,none⟩,.int .i64 x.kind),(⟨g3,i * 6+1,none⟩,.int .i64 x.src),(⟨g3,i * 6+2,none⟩,.int .i64 x.dst),(⟨g3,i * 6+3,none⟩,.int .i64 x.beacon),(⟨g3,i * 6+4,none⟩,.int .i64 x.level),(⟨g3,i * 6+5,none⟩,.slice xk x.known.length ck)])):=hd_ (by
                  rw[hW]
                  exact⟨a0,a1,a2,a3,y0,y1,y2,y3,y4,y5,trivial⟩)
        obtain⟨s1,hs1⟩:∃b,b=gX n x:=⟨_,rfl⟩
        have K1:=aEn W (x:=x) (HN.out.below hWB2 lr_) SHP.out ((aP aU _ _).below rk hWB2 lr_);rw[<-hs1]at K1;have KN:=hd_ K1;have k0:(0:Int)<=(i:Int):=by omega
        have k1':(i:Int)<(k3:Int):=by omega
        have S1:=hd_ hs1;have HX:=hd_ hx;clear hs1 K1 hWB hWB2 hx y0 y1 y2 y3 y4 y5 h2 hW rk;go_wp2;clear a0 a1 a2 a3
        refine aE 99 (.tk 0 6 (.alt 6 (.take 7 .done) .nomore)) (fun w'=>aJ w' (b4L p1 (.slice x1 5 c1) (.slice x2 25 c2) (.slice (some ⟨g3,0,none⟩) k3 c3) (.slice x4 5 c4)++[(⟨g3,i * 6,none⟩,.int .i64 x.kind),(⟨g3,i * 6+1,none⟩,.int .i64 x.src),(⟨g3,i * 6+2,none⟩,.int .i64 x.dst),(⟨g3,i * 6+3,none⟩,.int .i64 x.beacon),(⟨g3,i * 6+4,none⟩,.int .i64 x.level),(⟨g3,i * 6+5,none⟩,.slice xk x.known.length ck)])) (by kernel_rfl) (by kernel_rfl) (fun _ _ _ _ _ h=>h) (by rw[<-EW.out];exact C0.out) ?_
        rw[<-EW.out]
        repeat ((first|(refine aC (by rfl) (by rfl) ?_;apply Exists.intro;refine⟨fun w' hw'=>?_,?_⟩;(· ((try simp only[aJ,aF,b4L,b5L,b6L,b7L,bD,N.bR,and_true]at hw');go_simp;(try with_reducible rfl))))|(refine aB (by rfl) (by rfl) ?_));simp only[Act.put,List.getElem_toArray,List.getElem_cons_succ,pg3,pg4,pg5,pg6])
        refine aD (by rfl) (fun K' hK=>?_);go_simp;refine KN.out.mono ?_;rintro e' w3 ⟨rfl,hb⟩;have C1:=hd_ (C0.out.below hb);have H3:=hd_ (H2.out.later hb);clear hb KN;refine hK _ _ (.inr C1.out) ?_;clear hK K'
        try simp only[Act.put,List.getElem_toArray,List.getElem_cons_succ,pg3,pg4,pg5,pg6]
        repeat ((first|(refine aC (by rfl) (by rfl) ?_;apply Exists.intro;refine⟨fun w' hw'=>?_,?_⟩;(· ((try simp only[aJ,aF,b4L,b5L,b6L,b7L,bD,N.bR,and_true]at hw');go_simp;(try with_reducible rfl))))|(refine aB (by rfl) (by rfl) ?_));simp only[Act.put,List.getElem_toArray,List.getElem_cons_succ,pg3,pg4,pg5,pg6])
        refine aI ?_;clear C0 C1 EW H H2;cases s1 with
        |false=>
         have F:=hd_ (aIJ HX.out S1.out.symm);go_wp2;go_ret;exact⟨by rw[F.out];rfl,by rw[<-HP.out];exact H3.out.below⟩
        |true=>
         have WDS2:Hid (∀(b:Nat) (y:Wd),b<i+1->n.words[b]? =some y->gX n y=true):=hd_ fun c y hc hy=>by
          by_cases q:c<i
          ·exact WDS.out c y q hy
          ·obtain rfl:c=i:=by omega
           rw[HX.out]at hy;cases hy;exact S1.out.symm
         go_wp2;go_roundw
         case rel=>exact⟨i+1,by omega,by go_num,WDS2.out,H3.out⟩
         case measure=>simp[intOf];omega
       ·obtain rfl:i=k3:=by omega
        have EQ:=hd_ (aKO (n:=n) (by rw[SB.out];rfl) ALL.out NOD.out (fun b x hx=>WDS.out b x (by rw[E3.out];exact (List.getElem?_eq_some_iff.1 hx).1) hx));obtain⟨r0,hr0⟩:∃nd,n.nodes[0]? =some nd:=⟨_,List.getElem?_eq_getElem (by rw[<-E1.out];decide)⟩
        have e0:aG n 0=r0:=by unfold aG;rw[List.getD_eq_getElem?_getD,show (0:Int).toNat=0 from rfl,hr0];rfl
        rw[e0]at EQ;obtain⟨g1,xk,ck,fk,rfl,_,_,_,_,_,z0,z1,z2,z3,z4⟩:=fQ N1.out hr0;replace z2:=cell_later hWB z2;simp only[Nat.zero_mul,Nat.zero_add]at z2;obtain⟨s1,hs1⟩:∃b,b=in6 r0.beacon 0 1000:=⟨_,rfl⟩
        rw[<-hs1]at EQ;have K1:=hd_ (oQ hs1);clear hs1 hr0 e0 z0 z1 z3 z4 hWB
        go_wp2_with fail
        refine (K1.out wr).mono ?_;rintro e' w' ⟨rfl,hw'⟩;rw[hw'];clear hw' w';go_wp2;go_ret;exact⟨by rw[EQ.out];rfl,by rw[<-HP.out];exact H.out.below⟩
 all_goals
  first
   |(intro e1 e2 e3 e4;subst e1 e2 e3 e4)
   |(intro e1 e2 e3;subst e1 e2 e3)
   |(intro e1 e2;subst e1 e2)
   |(intro e1;subst e1)
  have F:=hd_ (aIQ (n:=n) (by rw[SB.out];simp));go_wp2;go_ret;rw[<-hw1];exact⟨by rw[F.out];rfl,by rw[<-HP.out];exact H.out.below⟩
end N
end Go.Proofs.YtcblbdpdbggkbaaGreat
set_option linter.unusedVariables false
set_option linter.unusedSectionVars false
set_option linter.unusedSimpArgs false
namespace Go.Proofs.YtcblbdpdbggkbaaGreat
open Go.RowKit Go.Sort
namespace N
section
variable {B L m:Nat} {w0 w:World} {l:List Ch} {ps:List (Option Nat)} {ns:List (Option Nd)} {vw vp:Value}
end
def aAM (k:Int × Int):Value:=.agg #[.int .i64 k.1,.int .i64 k.2]
def uD (k:Int × Int):Prop:=(-9223372036854775808<=k.1/\k.1<9223372036854775808)/\(-9223372036854775808<=k.2/\k.2<9223372036854775808)
theorem aLR:aDi Tryz.prog 130 uD aAM:=by
 refine⟨Go.Maps.Keyed.of_law (deep_law_gate (by kernel_rfl) (by decide+kernel) (by decide+kernel) (by kernel_rfl) (by kernel_rfl)),fun k hk=>?_,fun x y h=>?_⟩
 ·obtain⟨⟨a0,a1⟩,b0,b1⟩:=hk
  have c2:Tryz.prog.cellsOf 130=2:=by kernel_rfl
  have c1:Tryz.prog.cellsOf 3=1:=by kernel_rfl
  have ht:Tryz.prog.keyType 130=true:=by kernel_rfl
  have hn:1<=Tryz.prog.types.size:=by decide+kernel
  obtain⟨d,hd⟩:∃d,Tryz.prog.types.size+1=d+2:=⟨Tryz.prog.types.size - 1,by omega⟩
  have w1:(Lit.int .i64 k.1).wf=true:=by simp[Lit.wf,IntKind.min,IntKind.max,IntKind.bits,IntKind.signed];omega
  have w2:(Lit.int .i64 k.2).wf=true:=by simp[Lit.wf,IntKind.min,IntKind.max,IntKind.bits,IntKind.signed];omega
  refine⟨.string (keyBytes [.int .i64 k.1,.int .i64 k.2]),?_⟩;have hl:Tryz.prog.keyLits (d+2) 130 [.int .i64 k.1,.int .i64 k.2]=some [.int .i64 k.1,.int .i64 k.2]:=by
   simp only[Program.keyLits,Tryz.underlying130,c2];simp[Program.keyLits,c1,Tryz.underlying3,w1,w2]
  have hf:(aAM k).formed Tryz.prog 130=true:=by unfold aAM Value.formed;simp only[Tryz.underlying130,c2];rfl
  have hc:(aAM k).cells.toList=[.int .i64 k.1,.int .i64 k.2]:=rfl;simp only[keyOf,Tryz.underlying130,ht,hf,hd,hc,hl,Bool.and_self,if_true,Option.map_some]
 ·unfold aAM at h
  injection h with h
  have h':=congrArg Array.toList h;simp at h';exact Prod.ext h'.1 h'.2
def qP (g:Int × Int->Option Value) (lk:Int->Int->Bool):Prop:=∀k,(g k).getD (.bool false)=.bool (lk k.1 k.2)
theorem aLU (w:World):(zeroValue 4).run Tryz.prog w=.ok (.bool false) w:=by
 obtain⟨i,hi,hz,_⟩:=info_parts aK9.info;simp[zeroValue,typeInfo,hi,hz]
theorem aHM {B m:Nat} {w0 w:World} {l:List Ch} {g:Int × Int->Option Value} {lk:Int->Int->Bool} (h:M B w0 w (wZ uD aAM m g::l)) (hlk:qP g lk) (a b:Int) (hk:uD (a,b)):
  (Instr.lookup 100 (.map (some m)) (.agg #[.int .i64 a,.int .i64 b]) false).run Tryz.prog w=.ok (.bool (lk a b)) w:=by
 have:=h.look aLR Tryz.underlying100 (aLU w) hk false;rw[hlk (a,b)]at this;exact this
theorem mQ (w:World) (a:Int) (h:in6 a 0 4=true):Calls Tryz.prog 95 #[.int .i64 a] w fun e w'=>e=.returned (.bool true)/\w=w':=by
 obtain⟨h0,h1⟩:0<=a/\a<=4:=by simpa[in6]using h
 have h2:a<5:=by omega
 clear h h1;go_enter Tryz.func95,Tryz.ntmps95;go_wp2;go_ret;exact⟨rfl,rfl⟩
theorem rX (w:World) (a:Int) (h:in6 a 0 4=false):Calls Tryz.prog 95 #[.int .i64 a] w fun e w'=>e=.returned (.bool false)/\w=w':=by
 have h':¬(0<=a/\a<=4):=by simpa[in6]using h
 clear h
 by_cases h0:0<=a
 ·have h1:decide (a<5)=false:=by simp;omega
  clear h';go_enter Tryz.func95,Tryz.ntmps95;go_wp2;go_ret;exact⟨rfl,rfl⟩
 ·have h1:decide (0<=a)=false:=by simp;omega
  clear h' h0;go_enter Tryz.func95,Tryz.ntmps95;go_wp2;go_ret;exact⟨rfl,rfl⟩
def two (a b:Int):Bool:=(in6 a 0 4&&in6 b 0 4)&&decide (a≠b)
theorem aBy (w:World) (a b:Int):Calls Tryz.prog 70 #[.int .i64 a,.int .i64 b] w fun e w'=>e=.returned (.bool (two a b))/\w=w':=by
 cases ga:in6 a 0 4 with
 |false=>
  have e1:two a b=false:=by unfold two;rw[ga];rfl
  rw[e1];have G:=hd_ ga;clear ga e1;go_enter Tryz.func70,Tryz.ntmps70
  go_wp2_with (go_at_call 95;(with_reducible refine (rX _ a G.out).mono ?_);rintro e w' ⟨rfl,rfl⟩)
  go_ret;exact⟨rfl,rfl⟩
 |true=>
  have GA:=hd_ ga;cases gb:in6 b 0 4 with
  |false=>
   have e1:two a b=false:=by unfold two;rw[ga,gb];rfl
   rw[e1];have GB:=hd_ gb;clear ga gb e1;go_enter Tryz.func70,Tryz.ntmps70
   go_wp2_with (first|(go_at_call 95;(with_reducible refine (mQ _ a GA.out).mono ?_);rintro e w' ⟨rfl,rfl⟩)|(go_at_call 95;(with_reducible refine (rX _ b GB.out).mono ?_);rintro e w' ⟨rfl,rfl⟩))
   go_ret;exact⟨rfl,rfl⟩
  |true=>
   have GB:=hd_ gb;have e1:two a b=decide (a≠b):=by unfold two;rw[ga,gb];rfl
   rw[e1];clear ga gb e1;go_enter Tryz.func70,Tryz.ntmps70
   go_wp2_with (first|(go_at_call 95;(with_reducible refine (mQ _ a GA.out).mono ?_);rintro e w' ⟨rfl,rfl⟩)|(go_at_call 95;(with_reducible refine (mQ _ b GB.out).mono ?_);rintro e w' ⟨rfl,rfl⟩))
   go_ret;exact⟨aL (by by_cases q:a=b<;>simp[q]),rfl⟩
theorem aBf (w:World) (p:Nat) (h:p<25):Calls Tryz.prog 149 #[.int .i64 p] w fun e w'=>e=.returned (.agg #[.int .i64 ((p / 5:Nat):Int),.int .i64 ((p % 5:Nat):Int)])/\Below w.heap.size w w':=by
 have h0:(0:Int)<=(p:Int):=by omega
 have h1:(p:Int)<25:=by omega
 have H:=hd_ ((M.start w).alloc #[.int .i64 ((p:Int) / 5),.int .i64 ((p:Int) % 5)] 130);clear h;go_enter Tryz.func149,Tryz.ntmps149;go_wp2;obtain⟨c0,c1⟩:=H.out.cells2;exact bodyPost_ret (v:=.agg #[.int .i64 ((p:Int) / 5),.int .i64 ((p:Int) % 5)]) (by simp[results,Tryz.results149,go_sem,c0,c1]) rfl ⟨by simp,H.out.below⟩
def upto {α:Type} (xs:List α):List (Option α):=xs.map some++List.replicate (5 - xs.length) none
end N
end Go.Proofs.YtcblbdpdbggkbaaGreat
set_option linter.unusedVariables false
set_option linter.unusedSectionVars false
set_option linter.unusedSimpArgs false
namespace Go.Proofs.YtcblbdpdbggkbaaGreat
open Go.RowKit Go.Sort
namespace N
def lkP (ls:List Bool) (k:Nat) (a b:Int):Bool:=decide ((0<=a/\a<=4)/\(0<=b/\b<=4)/\a * 5+b<k)&&ls.getD (a * 5+b).toNat false
theorem aJE (ls:List Bool) (a b:Int):lkP ls 0 a b=false:=by
 unfold lkP;rw[decide_eq_false (by omega)];rfl
theorem aH5 {ls:List Bool} {k:Nat} (hk:k<25) {u:Bool} (hu:ls.getD k false=u) (a b:Int):lkP ls (k+1) a b=if (a,b)=(((k:Int) / 5),((k:Int) % 5))then u else lkP ls k a b:=by
 by_cases h:(a,b)=(((k:Int) / 5),((k:Int) % 5))
 ·rw[if_pos h]
  simp only[Prod.mk.injEq]at h;obtain⟨rfl,rfl⟩:=h;unfold lkP;rw[decide_eq_true (by omega),Bool.true_and, <-hu]
  congr 1
  omega
 ·rw[if_neg h]
  simp only[Prod.mk.injEq]at h;unfold lkP
  congr 1
  exact decide_eq_decide.2 (by omega)
theorem aFx {g:Int × Int->Option Value} {ls:List Bool} {k:Nat} (hk:k<25) {u:Bool} (hu:ls.getD k false=u) (h:qP g (lkP ls k)):qP (fun y=>if y=(((k:Int) / 5),((k:Int) % 5))then some (.bool u)else g y) (lkP ls (k+1)):=fun y=>by
 rw[aH5 hk hu];simp only
 by_cases q:y=(((k:Int) / 5),((k:Int) % 5))
 ·rw[if_pos q,if_pos (by rw[<-q])];rfl
 ·rw[if_neg q,if_neg (show ¬(y.1,y.2)=_ from q)]
  exact h y
theorem aCn (w:World) {x:Option Addr} {c:Nat} {ls:List Bool} {f:List Nat} (h:pE TY w [.slice x 25 c] ls f):
  Calls Tryz.prog 89 #[.slice x 25 c] w fun r w'=>∃m g,r=.returned (.map (some m))/\M w.heap.size w w' [wZ uD aAM m g]/\qP g (lkP ls 25):=by
 have hl:25=ls.length:=(aO h).1;have H1:=hd_ h;have HL:=hd_ hl;clear h hl;have h0:=(M.start w).map uD aAM;have H0:=hd_ h0;clear h0;have hmm:=@run_makeMap Tryz.prog;go_enter Tryz.func89,Tryz.ntmps89;go_wp2;clear hmm;obtain⟨m,hm⟩:∃m,m=w.heap.size:=⟨_,rfl⟩
 have HM:=hd_ hm;rw[<-hm]at H0 ⊢;clear hm;generalize w.alloc (.map #[] 0)=w1 at H0 ⊢;have l0:(0:Int)<=25:=by decide
 go_loopw [9] (fun z wr=>∃(k:Nat) (g:Int × Int->Option Value),k<=25/\z=.int .i64 (k:Int)/\M m w wr [wZ uD aAM m g]/\qP g (lkP ls k)) (fun z _=>25 - (intOf z).toNat)
 case atStart=>exact⟨0,fun _=>none,Nat.zero_le _,rfl,H0.out,fun y=>by rw[aJE];rfl⟩
 case round=>
  clear H0;obtain⟨k,g,hk,rfl,hm,hg⟩:=hrel;have H:=hd_ hm;have HG:=hd_ hg;clear hm hg
  by_cases hlt:k<25
  ·obtain⟨u,hu⟩:∃u,ls[k]? =some u:=⟨_,List.getElem?_eq_getElem (by rw[<-HL.out];exact hlt)⟩
   obtain⟨g1,rfl,_,c0⟩:=nC H1.out hu;have HU:Hid (ls.getD k false=u):=hd_ (by rw[List.getD_eq_getElem?_getD,hu];rfl);replace c0:=cell_later (by have:=H.out.below;rwa[HM.out]at this) c0;have KE:=hd_ (fun W=>aBf W k hlt);have EO:=hd_ (show uD ((k:Int) / 5,(k:Int) % 5)from⟨⟨by simp;omega,by simp;omega⟩,⟨by simp;omega,by simp;omega⟩⟩);have k0:(0:Int)<=(k:Int):=by omega
   have k1:(k:Int)<25:=by omega
   clear hu
   go_wp2_with fail
   refine (KE.out _).mono ?_;rintro e w4 ⟨rfl,hb⟩;have H2:=hd_ (H.out.later hb);clear hb H KE c0
   go_wp2_with (at_mapUpdate;go_loud (refine aEm aLR Tryz.underlying100 H2.out EO.out rfl rfl rfl rfl rfl ?_))
   intro w5 h5 hs5;have H5:=hd_ h5;have G5:=hd_ (aFx hlt HU.out HG.out);clear h5 hs5 H2;go_wp2;go_roundw
   case rel=>exact⟨k+1,_,by omega,by go_num,H5.out,G5.out⟩
   case measure=>simp[intOf];omega
  ·obtain rfl:k=25:=by omega
   go_wp2;go_ret;exact⟨m,g,rfl,by rw[HM.out]at *;exact H.out,HG.out⟩
end N
end Go.Proofs.YtcblbdpdbggkbaaGreat
set_option linter.unusedVariables false
set_option linter.unusedSectionVars false
set_option linter.unusedSimpArgs false
namespace Go.Proofs.YtcblbdpdbggkbaaGreat
open Go.RowKit Go.Sort
namespace N
theorem aG3 (x y:Option Addr) (n m c d:Nat) (w:World) (h:n≠m\/(n=0/\m=0)):
  Calls Tryz.prog 256 #[.slice x n c,.slice y m d] w fun e w'=>e=.returned (.bool (decide (n=m)))/\Below w.heap.size w w':=by
 rcases h with h|⟨rfl,rfl⟩
 ·have hn:((n:Int) != (m:Int))=true:=by simp;omega
  go_enter Tryz.func256,Tryz.ntmps256;go_wp2;go_ret;exact⟨by simpa using h,Below.refl _ _⟩
 ·go_enter Tryz.func256,Tryz.ntmps256
  go_wp2;refine wp_loop_rounds 1 ?_;rw[rounds_succ];go_wp2;go_ret;exact⟨by simp,Below.refl _ _⟩
theorem aJD (w:World) {x y:Option Addr} {n m c d:Nat} {ps qs:List Int} (h1:cW w (.slice x n c) ps) (h2:cW w (.slice y m d) qs):
  Calls Tryz.prog 256 #[.slice x n c,.slice y m d] w fun e w'=>e=.returned (.bool (decide (ps=qs)))/\Below w.heap.size w w':=by
 obtain rfl:n=ps.length:=h1.len;obtain rfl:m=qs.length:=h2.len;have hm:=aAg h1;unfold maxLen at hm
 by_cases hs:ps.length≠qs.length\/(ps.length=0/\qs.length=0)
 ·refine (aG3 x y _ _ c d w hs).mono fun e w' ⟨he,hw⟩=>⟨?_,hw⟩
  rw[he];refine aL ?_;rcases hs with q|⟨q1,q2⟩
  ·rw[decide_eq_false q,decide_eq_false (fun e=>q (by rw[e]))]
  ·rw[List.eq_nil_of_length_eq_zero q1,List.eq_nil_of_length_eq_zero q2];simp
 have el:ps.length=qs.length:=by omega
 have g0:((ps.length:Int) != (qs.length:Int))=false:=by simp;omega
 have HL:=hd_ el;have R1:=hd_ h1;have R2:=hd_ h2;clear h1 h2 hs el;go_enter Tryz.func256,Tryz.ntmps256;go_wp2;clear g0;go_loopw [13] (fun i wr=>∃k:Nat,k<=ps.length/\i=.int .i64 k/\(∀j,j<k->ps.getD j 0=qs.getD j 0)/\Below w.heap.size w wr) (fun i _=>ps.length - (intOf i).toNat)
 case atStart=>exact⟨0,Nat.zero_le _,rfl,fun _ h=>absurd h (Nat.not_lt_zero _),Below.refl _ _⟩
 case round=>
  obtain⟨k,hk,rfl,heq,hb⟩:=hrel;have HE:=hd_ heq;have HB:=hd_ hb;clear heq hb
  by_cases hlt:k<ps.length
  ·obtain⟨b1,o1,rfl,ra1⟩:=uO (R1.out.below HB.out lr_) hlt
   obtain⟨b2,o2,rfl,ra2⟩:=uO (R2.out.below HB.out lr_) (j:=k) (by rw[<-HL.out];exact hlt);obtain⟨x1,hx1⟩:∃x,x=ps.getD k 0:=⟨_,rfl⟩
   obtain⟨x2,hx2⟩:∃x,x=qs.getD k 0:=⟨_,rfl⟩
   rw[<-hx1]at ra1;rw[<-hx2]at ra2;have X1:=hd_ hx1;have X2:=hd_ hx2;clear hx1 hx2;have k0:(0:Int)<=(k:Int):=by omega
   have k1:(k:Int)<(ps.length:Int):=by omega
   have k2:(k:Int)<(qs.length:Int):=by have:=HL.out;omega
   have B2:=hd_ (Below.drew HB.out);go_wp2;refine aE 99 (.tk 0 9 .done) (fun w'=>w'.cell? ⟨b1,o1+k,Option.none⟩=some (.int .i64 x1)/\w'.cell? ⟨b2,o2+k,Option.none⟩=some (.int .i64 x2)) (by kernel_rfl) (by kernel_rfl) (fun _ _ _ _ _ h=>h) ⟨ra1,ra2⟩ ?_;clear ra1 ra2
   by_cases eq:x1=x2
   case neg=>
    have F:=hd_ (show decide (ps=qs)=false from decide_eq_false fun e=>eq (by rw[X1.out,X2.out,e]));have ex:(x1 != x2)=true:=by simpa using eq
    clear eq
    repeat ((first|(refine aC (by rfl) (by rfl) ?_;apply Exists.intro;refine⟨fun w' hw'=>?_,?_⟩;(· ((try dsimp only at hw');go_simp;(try with_reducible rfl))))|(refine aB (by rfl) (by rfl) ?_));simp only[Act.put,List.getElem_toArray,List.getElem_cons_succ,pg3,pg4,pg5,pg6])
    refine aI ?_;go_wp2;go_ret;exact⟨by rw[F.out];rfl,B2.out⟩
   have HE2:Hid (∀j,j<k+1->ps.getD j 0=qs.getD j 0):=hd_ fun j hj=>by
    by_cases h:j<k
    ·exact HE.out j h
    ·obtain rfl:j=k:=by omega
     rw[<-X1.out, <-X2.out,eq]
   subst eq
   repeat ((first|(refine aC (by rfl) (by rfl) ?_;apply Exists.intro;refine⟨fun w' hw'=>?_,?_⟩;(· ((try dsimp only at hw');go_simp;(try with_reducible rfl))))|(refine aB (by rfl) (by rfl) ?_));simp only[Act.put,List.getElem_toArray,List.getElem_cons_succ,pg3,pg4,pg5,pg6])
   refine aI ?_;go_wp2;go_roundw
   case rel=>exact⟨k+1,by omega,by go_num,HE2.out,B2.out⟩
   case measure=>simp[intOf];omega
  ·have F:Hid (decide (ps=qs)=true):=hd_ (fY (d:=0) rfl HL.out.symm (fun i hi=>HE.out i (by omega)))
   have g:decide (k<ps.length)=false:=by simpa using hlt
   clear HE;go_wp2;go_ret;exact⟨by rw[F.out];rfl,HB.out⟩
theorem aAF (x y:Option Addr) (n m c d:Nat) (w:World) (h:n≠m\/(n=0/\m=0)):
  Calls Tryz.prog 257 #[.slice x n c,.slice y m d] w fun e w'=>e=.returned (.bool (decide (n=m)))/\Below w.heap.size w w':=by
 rcases h with h|⟨rfl,rfl⟩
 ·have hn:((n:Int) != (m:Int))=true:=by simp;omega
  go_enter Tryz.func257,Tryz.ntmps257;go_wp2;go_ret;exact⟨by simpa using h,Below.refl _ _⟩
 ·go_enter Tryz.func257,Tryz.ntmps257
  go_wp2;refine wp_loop_rounds 1 ?_;rw[rounds_succ];go_wp2;go_ret;exact⟨by simp,Below.refl _ _⟩
theorem aKn (w:World) {x y:Option Addr} {n m c d:Nat} {ps qs:List (Int × Int)} (h1:T.Prs w (.slice x n c) ps) (h2:T.Prs w (.slice y m d) qs):
  Calls Tryz.prog 257 #[.slice x n c,.slice y m d] w fun e w'=>e=.returned (.bool (decide (ps=qs)))/\Below w.heap.size w w':=by
 obtain⟨_,_,e1,l1,l2⟩:=h1.form;obtain⟨_,_,e2,_,_⟩:=h2.form;obtain rfl:n=ps.length:=(Value.slice.inj e1).2.1;obtain rfl:m=qs.length:=(Value.slice.inj e2).2.1;have hm:ps.length<=maxLen:=by omega
 unfold maxLen at hm;clear e1 e2 l1 l2
 by_cases hs:ps.length≠qs.length\/(ps.length=0/\qs.length=0)
 ·refine (aAF x y _ _ c d w hs).mono fun e w' ⟨he,hw⟩=>⟨?_,hw⟩
  rw[he];refine aL ?_;rcases hs with q|⟨q1,q2⟩
  ·rw[decide_eq_false q,decide_eq_false (fun e=>q (by rw[e]))]
  ·rw[List.eq_nil_of_length_eq_zero q1,List.eq_nil_of_length_eq_zero q2];simp
 have el:ps.length=qs.length:=by omega
 have g0:((ps.length:Int) != (qs.length:Int))=false:=by simp;omega
 have HL:=hd_ el;have R1:=hd_ h1;have R2:=hd_ h2;clear h1 h2 hs el;go_enter Tryz.func257,Tryz.ntmps257;go_wp2;clear g0;go_loopw [13] (fun i wr=>∃k:Nat,k<=ps.length/\i=.int .i64 k/\(∀j,j<k->T.pr ps j=T.pr qs j)/\Below w.heap.size w wr) (fun i _=>ps.length - (intOf i).toNat)
 case atStart=>exact⟨0,Nat.zero_le _,rfl,fun _ h=>absurd h (Nat.not_lt_zero _),Below.refl _ _⟩
 case round=>
  obtain⟨k,hk,rfl,heq,hb⟩:=hrel;have HE:=hd_ heq;have HB:=hd_ hb;clear heq hb
  by_cases hlt:k<ps.length
  ·obtain⟨b1,o1,rfl,_,ra1,rb1⟩:=(R1.out.below HB.out lr_).cells k hlt
   obtain⟨b2,o2,rfl,_,ra2,rb2⟩:=(R2.out.below HB.out lr_).cells k (by rw[<-HL.out];exact hlt);obtain⟨x1,hx1⟩:∃x,x=(T.pr ps k).1:=⟨_,rfl⟩
   obtain⟨y1,hy1⟩:∃x,x=(T.pr ps k).2:=⟨_,rfl⟩
   obtain⟨x2,hx2⟩:∃x,x=(T.pr qs k).1:=⟨_,rfl⟩
   obtain⟨y2,hy2⟩:∃x,x=(T.pr qs k).2:=⟨_,rfl⟩
   rw[<-hx1]at ra1;rw[<-hy1]at rb1;rw[<-hx2]at ra2;rw[<-hy2]at rb2;have EQ:Hid (T.pr ps k=T.pr qs k↔x1=x2/\y1=y2):=hd_ (by rw[hx1,hx2,hy1,hy2];exact Prod.ext_iff);clear hx1 hx2 hy1 hy2;have k0:(0:Int)<=(k:Int):=by omega
   have k1:(k:Int)<(ps.length:Int):=by omega
   have k2:(k:Int)<(qs.length:Int):=by have:=HL.out;omega
   have B2:=hd_ (Below.drew HB.out);go_wp2;refine aE 99 (.tk 0 9 .done) (fun w'=>w'.cell? ⟨b1,o1+k * 2,Option.none⟩=some (.int .i64 x1)/\w'.cell? ⟨b1,o1+k * 2+1,Option.none⟩=some (.int .i64 y1)/\w'.cell? ⟨b2,o2+k * 2,Option.none⟩=some (.int .i64 x2)/\w'.cell? ⟨b2,o2+k * 2+1,Option.none⟩=some (.int .i64 y2)) (by kernel_rfl) (by kernel_rfl) (fun _ _ _ _ _ h=>h) ⟨ra1,rb1,ra2,rb2⟩ ?_
   clear ra1 rb1 ra2 rb2
   by_cases eq:x1=x2/\y1=y2
   case neg=>
    have F:=hd_ (show decide (ps=qs)=false from decide_eq_false fun e=>eq (EQ.out.1 (by rw[e])))
    by_cases ex:x1=x2
    ·have ey:(y1==y2)=false:=by
      have:¬y1=y2:=fun e=>eq ⟨ex,e⟩
      simpa using this
     have ey':(y1 != y2)=true:=by simpa using ey
     subst ex;clear eq EQ
     repeat ((first|(refine aC (by rfl) (by rfl) ?_;apply Exists.intro;refine⟨fun w' hw'=>?_,?_⟩;(· ((try dsimp only at hw');go_simp;(try with_reducible rfl))))|(refine aB (by rfl) (by rfl) ?_));simp only[Act.put,List.getElem_toArray,List.getElem_cons_succ,pg3,pg4,pg5,pg6])
     refine aI ?_;go_wp2;go_ret;exact⟨by rw[F.out];rfl,B2.out⟩
    ·have ex':(x1==x2)=false:=by simpa using ex
     clear eq EQ ex
     repeat ((first|(refine aC (by rfl) (by rfl) ?_;apply Exists.intro;refine⟨fun w' hw'=>?_,?_⟩;(· ((try dsimp only at hw');go_simp;(try with_reducible rfl))))|(refine aB (by rfl) (by rfl) ?_));simp only[Act.put,List.getElem_toArray,List.getElem_cons_succ,pg3,pg4,pg5,pg6])
     refine aI ?_;go_wp2;go_ret;exact⟨by rw[F.out];rfl,B2.out⟩
   have HE2:Hid (∀j,j<k+1->T.pr ps j=T.pr qs j):=hd_ fun j hj=>by
    by_cases h:j<k
    ·exact HE.out j h
    ·obtain rfl:j=k:=by omega
     exact EQ.out.2 eq
   obtain⟨rfl,rfl⟩:=eq;clear EQ
   repeat ((first|(refine aC (by rfl) (by rfl) ?_;apply Exists.intro;refine⟨fun w' hw'=>?_,?_⟩;(· ((try dsimp only at hw');go_simp;(try with_reducible rfl))))|(refine aB (by rfl) (by rfl) ?_));simp only[Act.put,List.getElem_toArray,List.getElem_cons_succ,pg3,pg4,pg5,pg6])
   refine aI ?_;go_wp2;go_roundw
   case rel=>exact⟨k+1,by omega,by go_num,HE2.out,B2.out⟩
   case measure=>simp[intOf];omega
  ·have F:Hid (decide (ps=qs)=true):=hd_ (decide_eq_true (rW HL.out (fun i hi=>HE.out i (by omega))))
   have g:decide (k<ps.length)=false:=by simpa using hlt
   clear HE;go_wp2;go_ret;exact⟨by rw[F.out];rfl,HB.out⟩
theorem aAu (x y:Option Addr) (n m c d:Nat) (w:World) (h:n≠m\/(n=0/\m=0)):
  Calls Tryz.prog 258 #[.slice x n c,.slice y m d] w fun e w'=>e=.returned (.bool (decide (n=m)))/\Below w.heap.size w w':=by
 rcases h with h|⟨rfl,rfl⟩
 ·have hn:((n:Int) != (m:Int))=true:=by simp;omega
  go_enter Tryz.func258,Tryz.ntmps258;go_wp2;go_ret;exact⟨by simpa using h,Below.refl _ _⟩
 ·go_enter Tryz.func258,Tryz.ntmps258
  go_wp2;refine wp_loop_rounds 1 ?_;rw[rounds_succ];go_wp2;go_ret;exact⟨by simp,Below.refl _ _⟩
theorem aJ9 (w:World) {x y:Option Addr} {n m c d:Nat} {ps qs:List (Int × Int)} (h1:K.Prs w (.slice x n c) ps) (h2:K.Prs w (.slice y m d) qs):
  Calls Tryz.prog 258 #[.slice x n c,.slice y m d] w fun e w'=>e=.returned (.bool (decide (ps=qs)))/\Below w.heap.size w w':=by
 obtain⟨_,_,e1,l1,l2⟩:=h1.form;obtain⟨_,_,e2,_,_⟩:=h2.form;obtain rfl:n=ps.length:=(Value.slice.inj e1).2.1;obtain rfl:m=qs.length:=(Value.slice.inj e2).2.1;have hm:ps.length<=maxLen:=by omega
 unfold maxLen at hm;clear e1 e2 l1 l2
 by_cases hs:ps.length≠qs.length\/(ps.length=0/\qs.length=0)
 ·refine (aAu x y _ _ c d w hs).mono fun e w' ⟨he,hw⟩=>⟨?_,hw⟩
  rw[he];refine aL ?_;rcases hs with q|⟨q1,q2⟩
  ·rw[decide_eq_false q,decide_eq_false (fun e=>q (by rw[e]))]
  ·rw[List.eq_nil_of_length_eq_zero q1,List.eq_nil_of_length_eq_zero q2];simp
 have el:ps.length=qs.length:=by omega
 have g0:((ps.length:Int) != (qs.length:Int))=false:=by simp;omega
 have HL:=hd_ el;have R1:=hd_ h1;have R2:=hd_ h2;clear h1 h2 hs el;go_enter Tryz.func258,Tryz.ntmps258;go_wp2;clear g0;go_loopw [13] (fun i wr=>∃k:Nat,k<=ps.length/\i=.int .i64 k/\(∀j,j<k->K.pr ps j=K.pr qs j)/\Below w.heap.size w wr) (fun i _=>ps.length - (intOf i).toNat)
 case atStart=>exact⟨0,Nat.zero_le _,rfl,fun _ h=>absurd h (Nat.not_lt_zero _),Below.refl _ _⟩
 case round=>
  obtain⟨k,hk,rfl,heq,hb⟩:=hrel;have HE:=hd_ heq;have HB:=hd_ hb;clear heq hb
  by_cases hlt:k<ps.length
  ·obtain⟨b1,o1,rfl,_,ra1,rb1⟩:=(R1.out.below HB.out lr_).cells k hlt
   obtain⟨b2,o2,rfl,_,ra2,rb2⟩:=(R2.out.below HB.out lr_).cells k (by rw[<-HL.out];exact hlt);obtain⟨x1,hx1⟩:∃x,x=(K.pr ps k).1:=⟨_,rfl⟩
   obtain⟨y1,hy1⟩:∃x,x=(K.pr ps k).2:=⟨_,rfl⟩
   obtain⟨x2,hx2⟩:∃x,x=(K.pr qs k).1:=⟨_,rfl⟩
   obtain⟨y2,hy2⟩:∃x,x=(K.pr qs k).2:=⟨_,rfl⟩
   rw[<-hx1]at ra1;rw[<-hy1]at rb1;rw[<-hx2]at ra2;rw[<-hy2]at rb2;have EQ:Hid (K.pr ps k=K.pr qs k↔x1=x2/\y1=y2):=hd_ (by rw[hx1,hx2,hy1,hy2];exact Prod.ext_iff);clear hx1 hx2 hy1 hy2;have k0:(0:Int)<=(k:Int):=by omega
   have k1:(k:Int)<(ps.length:Int):=by omega
   have k2:(k:Int)<(qs.length:Int):=by have:=HL.out;omega
   have B2:=hd_ (Below.drew HB.out);go_wp2;refine aE 99 (.tk 0 9 .done) (fun w'=>w'.cell? ⟨b1,o1+k * 2,Option.none⟩=some (.int .i64 x1)/\w'.cell? ⟨b1,o1+k * 2+1,Option.none⟩=some (.int .i64 y1)/\w'.cell? ⟨b2,o2+k * 2,Option.none⟩=some (.int .i64 x2)/\w'.cell? ⟨b2,o2+k * 2+1,Option.none⟩=some (.int .i64 y2)) (by kernel_rfl) (by kernel_rfl) (fun _ _ _ _ _ h=>h) ⟨ra1,rb1,ra2,rb2⟩ ?_
   clear ra1 rb1 ra2 rb2
   by_cases eq:x1=x2/\y1=y2
   case neg=>
    have F:=hd_ (show decide (ps=qs)=false from decide_eq_false fun e=>eq (EQ.out.1 (by rw[e])))
    by_cases ex:x1=x2
    ·have ey:(y1==y2)=false:=by
      have:¬y1=y2:=fun e=>eq ⟨ex,e⟩
      simpa using this
     have ey':(y1 != y2)=true:=by simpa using ey
     subst ex;clear eq EQ
     repeat ((first|(refine aC (by rfl) (by rfl) ?_;apply Exists.intro;refine⟨fun w' hw'=>?_,?_⟩;(· ((try dsimp only at hw');go_simp;(try with_reducible rfl))))|(refine aB (by rfl) (by rfl) ?_));simp only[Act.put,List.getElem_toArray,List.getElem_cons_succ,pg3,pg4,pg5,pg6])
     refine aI ?_;go_wp2;go_ret;exact⟨by rw[F.out];rfl,B2.out⟩
    ·have ex':(x1==x2)=false:=by simpa using ex
     clear eq EQ ex
     repeat ((first|(refine aC (by rfl) (by rfl) ?_;apply Exists.intro;refine⟨fun w' hw'=>?_,?_⟩;(· ((try dsimp only at hw');go_simp;(try with_reducible rfl))))|(refine aB (by rfl) (by rfl) ?_));simp only[Act.put,List.getElem_toArray,List.getElem_cons_succ,pg3,pg4,pg5,pg6])
     refine aI ?_;go_wp2;go_ret;exact⟨by rw[F.out];rfl,B2.out⟩
   have HE2:Hid (∀j,j<k+1->K.pr ps j=K.pr qs j):=hd_ fun j hj=>by
    by_cases h:j<k
    ·exact HE.out j h
    ·obtain rfl:j=k:=by omega
     exact EQ.out.2 eq
   obtain⟨rfl,rfl⟩:=eq;clear EQ
   repeat ((first|(refine aC (by rfl) (by rfl) ?_;apply Exists.intro;refine⟨fun w' hw'=>?_,?_⟩;(· ((try dsimp only at hw');go_simp;(try with_reducible rfl))))|(refine aB (by rfl) (by rfl) ?_));simp only[Act.put,List.getElem_toArray,List.getElem_cons_succ,pg3,pg4,pg5,pg6])
   refine aI ?_;go_wp2;go_roundw
   case rel=>exact⟨k+1,by omega,by go_num,HE2.out,B2.out⟩
   case measure=>simp[intOf];omega
  ·have F:Hid (decide (ps=qs)=true):=hd_ (decide_eq_true (rW HL.out (fun i hi=>HE.out i (by omega))))
   have g:decide (k<ps.length)=false:=by simpa using hlt
   clear HE;go_wp2;go_ret;exact⟨by rw[F.out];rfl,HB.out⟩
theorem aGZ (x y:Option Addr) (n m c d:Nat) (w:World) (h:n≠m\/(n=0/\m=0)):
  Calls Tryz.prog 255 #[.slice x n c,.slice y m d,.func (.func 256) #[] #[]] w fun e w'=>e=.returned (.bool (decide (n=m)))/\Below w.heap.size w w':=by
 rcases h with h|⟨rfl,rfl⟩
 ·have hn:((n:Int) != (m:Int))=true:=by simp;omega
  go_enter Tryz.func255,Tryz.ntmps255;go_wp2;go_ret;exact⟨by simpa using h,Below.refl _ _⟩
 ·go_enter Tryz.func255,Tryz.ntmps255
  go_wp2;refine wp_loop_rounds 1 ?_;rw[rounds_succ];go_wp2;go_ret;exact⟨by simp,Below.refl _ _⟩
theorem aLD (w:World) {x y:Option Addr} {n m c d:Nat} {ps qs:List (List Int)} (h1:Rws w (.slice x n c) ps) (h2:Rws w (.slice y m d) qs):
  Calls Tryz.prog 255 #[.slice x n c,.slice y m d,.func (.func 256) #[] #[]] w fun e w'=>e=.returned (.bool (decide (ps=qs)))/\Below w.heap.size w w':=by
 obtain rfl:n=ps.length:=h1.len;obtain rfl:m=qs.length:=h2.len;have hm:=aFW h1;unfold maxLen at hm
 by_cases hs:ps.length≠qs.length\/(ps.length=0/\qs.length=0)
 ·refine (aGZ x y _ _ c d w hs).mono fun e w' ⟨he,hw⟩=>⟨?_,hw⟩
  rw[he];refine aL ?_;rcases hs with q|⟨q1,q2⟩
  ·rw[decide_eq_false q,decide_eq_false (fun e=>q (by rw[e]))]
  ·rw[List.eq_nil_of_length_eq_zero q1,List.eq_nil_of_length_eq_zero q2];simp
 have el:ps.length=qs.length:=by omega
 have g0:((ps.length:Int) != (qs.length:Int))=false:=by simp;omega
 have HL:=hd_ el;have R1:=hd_ h1;have R2:=hd_ h2;clear h1 h2 hs el;go_enter Tryz.func255,Tryz.ntmps255;go_wp2;clear g0;go_loopw [17] (fun i wr=>∃k:Nat,k<=ps.length/\i=.int .i64 k/\(∀j,j<k->ps.getD j []=qs.getD j [])/\Below w.heap.size w wr) (fun i _=>ps.length - (intOf i).toNat)
 case atStart=>exact⟨0,Nat.zero_le _,rfl,fun _ h=>absurd h (Nat.not_lt_zero _),Below.refl _ _⟩
 case round=>
  obtain⟨k,hk,rfl,heq,hb⟩:=hrel;have HE:=hd_ heq;have HB:=hd_ hb;clear heq hb
  by_cases hlt:k<ps.length
  ·obtain⟨b1,o1,u1,rfl,ra1,i1⟩:=aCi (R1.out.below HB.out lr_) hlt
   obtain⟨b2,o2,u2,rfl,ra2,i2⟩:=aCi (R2.out.below HB.out lr_) (k:=k) (by rw[<-HL.out];exact hlt);obtain⟨⟨z1,c1,rfl⟩,_⟩:=i1.cases;obtain⟨⟨z2,c2,rfl⟩,_⟩:=i2.cases;have KE:=hd_ (aJD wr i1 i2);obtain⟨x1,hx1⟩:∃x,x=ps.getD k []:=⟨_,rfl⟩
   obtain⟨x2,hx2⟩:∃x,x=qs.getD k []:=⟨_,rfl⟩
   rw[<-hx1]at ra1 KE;rw[<-hx2]at ra2 KE;have X1:=hd_ hx1;have X2:=hd_ hx2;clear hx1 hx2 i1 i2;generalize x1.length=n1 at ra1 KE;generalize x2.length=n2 at ra2 KE;have k0:(0:Int)<=(k:Int):=by omega
   have k1:(k:Int)<(ps.length:Int):=by omega
   have k2:(k:Int)<(qs.length:Int):=by have:=HL.out;omega
   by_cases eq:x1=x2
   case neg=>
    have F:=hd_ (show decide (ps=qs)=false from decide_eq_false fun e=>eq (by rw[X1.out,X2.out,e]));rw[decide_eq_false eq]at KE;clear eq
    go_wp2_with fail
    refine KE.out.mono ?_;rintro e w3 ⟨rfl,hb⟩;have B2:=hd_ (HB.out.trans (hb.mono HB.out.size));clear KE hb HB ra1 ra2;go_wp2;go_ret;exact⟨by rw[F.out];rfl,B2.out⟩
   rw[decide_eq_true eq]at KE;have HE2:Hid (∀j,j<k+1->ps.getD j []=qs.getD j []):=hd_ fun j hj=>by
    by_cases h:j<k
    ·exact HE.out j h
    ·obtain rfl:j=k:=by omega
     rw[<-X1.out, <-X2.out,eq]
   clear eq
   go_wp2_with fail
   refine KE.out.mono ?_;rintro e w3 ⟨rfl,hb⟩;have B2:=hd_ (HB.out.trans (hb.mono HB.out.size));clear KE hb HB ra1 ra2;go_wp2;go_roundw
   case rel=>exact⟨k+1,by omega,by go_num,HE2.out,B2.out⟩
   case measure=>simp[intOf];omega
  ·have F:Hid (decide (ps=qs)=true):=hd_ (fY (d:=[]) rfl HL.out.symm (fun i hi=>HE.out i (by omega)))
   have g:decide (k<ps.length)=false:=by simpa using hlt
   clear HE;go_wp2;go_ret;exact⟨by rw[F.out];rfl,HB.out⟩
theorem uK (w:World) {V1 V2:SV} {s1 s2:Sm} (h1:RdS w V1 s1) (h2:RdS w V2 s2):
  Calls Tryz.prog 199 #[.agg #[.slice V1.xr V1.nr V1.cr,.slice V1.xf V1.nf V1.cf,.slice V1.xt V1.nt V1.ct,.int .i64 s1.lo,.int .i64 s1.al,.slice V1.xk V1.nk V1.ck,.int .i64 s1.ka],.agg #[.slice V2.xr V2.nr V2.cr,.slice V2.xf V2.nf V2.cf,.slice V2.xt V2.nt V2.ct,.int .i64 s2.lo,.int .i64 s2.al,.slice V2.xk V2.nk V2.ck,.int .i64 s2.ka]] w fun e w'=>e=.returned (.bool (kS s1 s2))/\Below w.heap.size w w':=by
 have H0:=((M.start w).alloc #[.slice V1.xr V1.nr V1.cr,.slice V1.xf V1.nf V1.cf,.slice V1.xt V1.nt V1.ct,.int .i64 s1.lo,.int .i64 s1.al,.slice V1.xk V1.nk V1.ck,.int .i64 s1.ka] 46).alloc #[.slice V2.xr V2.nr V2.cr,.slice V2.xf V2.nf V2.cf,.slice V2.xt V2.nt V2.ct,.int .i64 s2.lo,.int .i64 s2.al,.slice V2.xk V2.nk V2.ck,.int .i64 s2.ka] 46;simp only[World.size_alloc]at H0
 obtain⟨p1,hp1⟩:∃p,p=w.heap.size:=⟨_,rfl⟩
 obtain⟨p2,hp2⟩:∃p,p=w.heap.size+1:=⟨_,rfl⟩
 have HP:=hd_ hp1;have HP2:=hd_ hp2
 obtain⟨w1,hw1⟩:∃W,W=(w.alloc (.cells #[.slice V1.xr V1.nr V1.cr,.slice V1.xf V1.nf V1.cf,.slice V1.xt V1.nt V1.ct,.int .i64 s1.lo,.int .i64 s1.al,.slice V1.xk V1.nk V1.ck,.int .i64 s1.ka] 46)).alloc (.cells #[.slice V2.xr V2.nr V2.cr,.slice V2.xf V2.nf V2.cf,.slice V2.xt V2.nt V2.ct,.int .i64 s2.lo,.int .i64 s2.al,.slice V2.xk V2.nk V2.ck,.int .i64 s2.ka] 46):=⟨_,rfl⟩
 rw[<-hp2, <-hp1, <-hw1]at H0;have R1:=hd_ h1;have R2:=hd_ h2;have H:=hd_ H0;obtain⟨b0,hb0⟩:∃b,b=decide (s1.rs=s2.rs):=⟨_,rfl⟩
 obtain⟨b1,hb1⟩:∃b,b=decide (s1.zs=s2.zs):=⟨_,rfl⟩
 obtain⟨b2,hb2⟩:∃b,b=decide (s1.ps=s2.ps):=⟨_,rfl⟩
 obtain⟨b3,hb3⟩:∃b,b=(s1.lo==s2.lo):=⟨_,rfl⟩
 obtain⟨b4,hb4⟩:∃b,b=(s1.al==s2.al):=⟨_,rfl⟩
 obtain⟨b5,hb5⟩:∃b,b=decide (s1.ks=s2.ks):=⟨_,rfl⟩
 obtain⟨b6,hb6⟩:∃b,b=(s1.ka==s2.ka):=⟨_,rfl⟩
 have SS:Hid (kS s1 s2=(b0&&(b1&&(b2&&(b3&&(b4&&(b5&&b6))))))):=hd_ (by
    unfold kS
    rw[hb0,hb1,hb2,hb3,hb4,hb5,hb6]
    rfl)
 have K0:=hd_ (fun W (hb:Below w.heap.size w W)=>aLD W (R1.out.r.below hb lr_) (R2.out.r.below hb lr_));have K1:=hd_ (fun W (hb:Below w.heap.size w W)=>aJD W (R1.out.f.below hb lr_) (R2.out.f.below hb lr_));have K2:=hd_ (fun W (hb:Below w.heap.size w W)=>aKn W (R1.out.t.below hb lr_) (R2.out.t.below hb lr_))
 have K5:=hd_ (fun W (hb:Below w.heap.size w W)=>aJ9 W (R1.out.k.below hb lr_) (R2.out.k.below hb lr_));rw[<-hb0]at K0;rw[<-hb1]at K1;rw[<-hb2]at K2;rw[<-hb5]at K5;have g3:=hb3.symm;have g4:=hb4.symm;have g6:=hb6.symm;obtain⟨c0,c1,c2,c3,c4,c5,c6⟩:=H0.p1.cells7;obtain⟨d0,d1,d2,d3,d4,d5,d6⟩:=H0.cells7;rw[hw1,hp1]at c0 c1 c2 c3 c4 c5 c6;rw[hw1,hp2]at d0 d1 d2 d3 d4 d5 d6
 clear h1 h2 H0 hb0 hb1 hb2 hb3 hb4 hb5 hb6;go_enter Tryz.func199,Tryz.ntmps199
 go_wp2_with fail
 rw[<-hw1, <-hp2, <-hp1];clear hw1 hp1 hp2 c0 c1 c2 c3 c4 c5 c6 d0 d1 d2 d3 d4 d5 d6;refine (K0.out _ (by have:=H.out.below;rwa[HP.out]at this)).mono ?_;rintro e w2 ⟨rfl,hb⟩;replace H:=hd_ (H.out.later hb);clear hb K0;rcases b0 with _|_
 case false=>
  obtain⟨c0,c1,c2,c3,c4,c5,c6⟩:=H.out.p1.cells7;obtain⟨d0,d1,d2,d3,d4,d5,d6⟩:=H.out.cells7;go_wp2;go_ret;exact⟨by rw[SS.out];rfl,by have:=H.out.below;rwa[HP.out]at this⟩
 obtain⟨c0,c1,c2,c3,c4,c5,c6⟩:=H.out.p1.cells7;obtain⟨d0,d1,d2,d3,d4,d5,d6⟩:=H.out.cells7
 go_wp2_with fail
 clear c0 c1 c2 c3 c4 c5 c6 d0 d1 d2 d3 d4 d5 d6;refine (K1.out _ (by have:=H.out.below;rwa[HP.out]at this)).mono ?_;rintro e w2 ⟨rfl,hb⟩;replace H:=hd_ (H.out.later hb);clear hb K1;rcases b1 with _|_
 case false=>
  obtain⟨c0,c1,c2,c3,c4,c5,c6⟩:=H.out.p1.cells7;obtain⟨d0,d1,d2,d3,d4,d5,d6⟩:=H.out.cells7;go_wp2;go_ret;exact⟨by rw[SS.out];rfl,by have:=H.out.below;rwa[HP.out]at this⟩
 obtain⟨c0,c1,c2,c3,c4,c5,c6⟩:=H.out.p1.cells7;obtain⟨d0,d1,d2,d3,d4,d5,d6⟩:=H.out.cells7
 go_wp2_with fail
 clear c0 c1 c2 c3 c4 c5 c6 d0 d1 d2 d3 d4 d5 d6;refine (K2.out _ (by have:=H.out.below;rwa[HP.out]at this)).mono ?_;rintro e w2 ⟨rfl,hb⟩;replace H:=hd_ (H.out.later hb);clear hb K2;rcases b2 with _|_
 case false=>
  obtain⟨c0,c1,c2,c3,c4,c5,c6⟩:=H.out.p1.cells7;obtain⟨d0,d1,d2,d3,d4,d5,d6⟩:=H.out.cells7;go_wp2;go_ret;exact⟨by rw[SS.out];rfl,by have:=H.out.below;rwa[HP.out]at this⟩
 obtain⟨c0,c1,c2,c3,c4,c5,c6⟩:=H.out.p1.cells7;obtain⟨d0,d1,d2,d3,d4,d5,d6⟩:=H.out.cells7;rcases b3 with _|_
 case false=>
  go_wp2;go_ret;exact⟨by rw[SS.out];rfl,by have:=H.out.below;rwa[HP.out]at this⟩
 rcases b4 with _|_
 case false=>
  go_wp2;go_ret;exact⟨by rw[SS.out];rfl,by have:=H.out.below;rwa[HP.out]at this⟩
 go_wp2_with fail
 clear c0 c1 c2 c3 c4 c5 c6 d0 d1 d2 d3 d4 d5 d6;refine (K5.out _ (by have:=H.out.below;rwa[HP.out]at this)).mono ?_;rintro e w2 ⟨rfl,hb⟩;replace H:=hd_ (H.out.later hb);clear hb K5;rcases b5 with _|_
 case false=>
  obtain⟨c0,c1,c2,c3,c4,c5,c6⟩:=H.out.p1.cells7;obtain⟨d0,d1,d2,d3,d4,d5,d6⟩:=H.out.cells7;go_wp2;go_ret;exact⟨by rw[SS.out];rfl,by have:=H.out.below;rwa[HP.out]at this⟩
 obtain⟨c0,c1,c2,c3,c4,c5,c6⟩:=H.out.p1.cells7;obtain⟨d0,d1,d2,d3,d4,d5,d6⟩:=H.out.cells7;rcases b6 with _|_
 case false=>
  go_wp2;go_ret;exact⟨by rw[SS.out];rfl,by have:=H.out.below;rwa[HP.out]at this⟩
 go_wp2;go_ret;exact⟨by rw[SS.out];rfl,by have:=H.out.below;rwa[HP.out]at this⟩
end N
end Go.Proofs.YtcblbdpdbggkbaaGreat
set_option linter.unusedVariables false
set_option linter.unusedSectionVars false
set_option linter.unusedSimpArgs false
namespace Go.Proofs.YtcblbdpdbggkbaaGreat
open Go.RowKit Go.Sort
namespace N
theorem aBY (w:World) {xk:Option Addr} {k ck:Nat} {es:List En} {f:List Nat} (h:eF TY w [.slice xk k ck] es f) (i:Int):
  Calls Tryz.prog 155 #[.slice xk k ck,.int .i64 i] w fun r w'=>(∃u,r=.returned u/\((∃e V,kX es i=some e/\RdS w V e.s/\u=aAH V e)\/(kX es i=none/\u=aCj)))/\Below w.heap.size w w':=by
 obtain rfl:k=es.length:=(aO h).1;obtain⟨_,_,e1,q1,q2⟩:=aS h;have hm:es.length<=maxLen:=Nat.le_trans q1 q2;unfold maxLen at hm;clear e1 q1 q2;have H1:=hd_ h;clear h;have H0:=hd_ ((M.start w).alloc #[.int .i64 0,.int .i64 0,.int .i64 0,.slice none 0 0,.slice none 0 0,.slice none 0 0,.int .i64 0,.int .i64 0,.slice none 0 0,.int .i64 0] 64);go_enter Tryz.func155,Tryz.ntmps155;go_wp2
 obtain⟨p1,hp1⟩:∃p,p=w.heap.size:=⟨_,rfl⟩
 have HP:=hd_ hp1;rw[<-hp1]at H0;rw[<-hp1];clear hp1;generalize (w.alloc (.cells #[.int .i64 0,.int .i64 0,.int .i64 0,.slice none 0 0,.slice none 0 0,.slice none 0 0,.int .i64 0,.int .i64 0,.slice none 0 0,.int .i64 0] 64))=w1 at H0 ⊢
 go_loopw [9] (fun z wr=>∃j:Nat,j<=es.length/\z=.int .i64 j/\(∀(a:Nat) (x:En),a<j->es[a]? =some x->x.node≠i)/\M p1 w wr [bU p1 64 #[.int .i64 0,.int .i64 0,.int .i64 0,.slice none 0 0,.slice none 0 0,.slice none 0 0,.int .i64 0,.int .i64 0,.slice none 0 0,.int .i64 0]]) (fun z _=>es.length - (intOf z).toNat)
 case atStart=>exact⟨0,Nat.zero_le _,rfl,fun a x h=>absurd h (Nat.not_lt_zero _),H0.out⟩
 case round=>
  clear H0;obtain⟨j,hj,rfl,hno,hm'⟩:=hrel;have NO:=hd_ hno;have H:=hd_ hm';clear hno hm';have hWB:=H.out.below;rw[HP.out]at hWB;obtain⟨d0,d1,d2,d3,d4,d5,d6,d7,d8,d9⟩:=H.out.cells10
  by_cases hlt:j<es.length
  ·obtain⟨x,hx⟩:∃x,es[j]? =some x:=⟨_,List.getElem?_eq_getElem hlt⟩
   obtain⟨g,V,fe,rfl,_,_,sr,ca0,ca1,ca2,cas⟩:=iO H1.out hx;have RV:=hd_ (aCM sr);replace ca0:=cell_later hWB ca0;replace ca1:=cell_later hWB ca1;replace ca2:=cell_later hWB ca2;have ca3:=cell_later hWB (cas 0 _ rfl);have ca4:=cell_later hWB (cas 1 _ rfl);have ca5:=cell_later hWB (cas 2 _ rfl);have ca6:=cell_later hWB (cas 3 _ rfl);have ca7:=cell_later hWB (cas 4 _ rfl)
   have ca8:=cell_later hWB (cas 5 _ rfl);have ca9:=cell_later hWB (cas 6 _ rfl);clear cas hWB sr;have k0:(0:Int)<=(j:Int):=by omega
   have k1:(j:Int)<(es.length:Int):=by omega
   have h2:=H.out.alloc #[.int .i64 x.node,.int .i64 x.born,.int .i64 x.num,.slice V.xr V.nr V.cr,.slice V.xf V.nf V.cf,.slice V.xt V.nt V.ct,.int .i64 (x.s).lo,.int .i64 (x.s).al,.slice V.xk V.nk V.ck,.int .i64 (x.s).ka] 64
   by_cases eq:x.node=i
   ·have g0:(x.node==i)=true:=by simpa using eq
    have F:=hd_ (aGc NO.out hx eq);have ef:=h2.p1.free;have N:=hd_ (h2.p1.set10 (.int .i64 x.node) (.int .i64 x.born) (.int .i64 x.num) (.slice V.xr V.nr V.cr) (.slice V.xf V.nf V.cf) (.slice V.xt V.nt V.ct) (.int .i64 x.s.lo) (.int .i64 x.s.al) (.slice V.xk V.nk V.ck) (.int .i64 x.s.ka));obtain⟨y0,y1,y2,y3,y4,y5,y6,y7,y8,y9⟩:=h2.cells10;obtain⟨z0,z1,z2,z3,z4,z5,z6,z7,z8,z9⟩:=h2.p1.cells10
    clear eq NO hx h2;go_wp2;obtain⟨e0,e1,e2,e3,e4,e5,e6,e7,e8,e9⟩:=N.out.cells10;exact bodyPost_ret (v:=aAH V x) (by simp[results,Tryz.results155,go_sem,e0,e1,e2,e3,e4,e5,e6,e7,e8,e9]) rfl ⟨⟨_,rfl,.inl ⟨x,V,F.out,RV.out,rfl⟩⟩,by rw[<-HP.out];exact N.out.below⟩
   ·have g0:(x.node==i)=false:=by simpa using eq
    have NO2:Hid (∀(a:Nat) (y:En),a<j+1->es[a]? =some y->y.node≠i):=hd_ fun a y ha hy=>by
     by_cases q:a<j
     ·exact NO.out a y q hy
     ·obtain rfl:a=j:=by omega
      rw[hx]at hy;cases hy;exact eq
    have H2:=hd_ h2.p1;obtain⟨y0,y1,y2,y3,y4,y5,y6,y7,y8,y9⟩:=h2.cells10;clear eq NO hx h2;go_wp2;go_roundw
    case rel=>exact⟨j+1,by omega,by go_num,NO2.out,H2.out.p1.drop⟩
    case measure=>simp[intOf];omega
  ·have F:=hd_ (aF3 (es:=es) (i:=i) fun a x hx=>NO.out a x (by have:=(List.getElem?_eq_some_iff.1 hx).1;omega) hx)
   have ef:=H.out.free;have N:=hd_ (H.out.set10 (.int .i64 0) (.int .i64 0) (.int .i64 0) (.slice Option.none 0 0) (.slice Option.none 0 0) (.slice Option.none 0 0) (.int .i64 0) (.int .i64 0) (.slice Option.none 0 0) (.int .i64 0));have g:decide (j<es.length)=false:=by simpa using hlt
   clear NO hWB;go_wp2;obtain⟨e0,e1,e2,e3,e4,e5,e6,e7,e8,e9⟩:=N.out.cells10;exact bodyPost_ret (v:=aCj) (by simp[results,Tryz.results155,go_sem,e0,e1,e2,e3,e4,e5,e6,e7,e8,e9]) rfl ⟨⟨_,rfl,.inr ⟨F.out,rfl⟩⟩,by rw[<-HP.out];exact N.out.below⟩
end N
end Go.Proofs.YtcblbdpdbggkbaaGreat
set_option linter.unusedVariables false
set_option linter.unusedSectionVars false
set_option linter.unusedSimpArgs false
namespace Go.Proofs.YtcblbdpdbggkbaaGreat
open Go.RowKit Go.Sort
namespace N
theorem aGY {a:Int} {b:Bool} (h:b=in6 a 0 4) (w:World):Calls Tryz.prog 95 #[.int .i64 a] w fun e w'=>e=.returned (.bool b)/\w'=w:=by
 cases b with
 |true=>exact (mQ w a h.symm).mono fun e w' ⟨h1,h2⟩=>⟨h1,h2.symm⟩
 |false=>exact (rX w a h.symm).mono fun e w' ⟨h1,h2⟩=>⟨h1,h2.symm⟩
def yY (n:Nt) (e:En):Bool:=in6 e.node 0 4&&(in6 e.born 1 (aG n e.node).born&&in6 e.num 0 (bZ n e.node e.born).length)
theorem aJP (w:World) {x1 x4:Option Addr} {k1 c1 k4 c4:Nat} {v2 v3:Value} {n:Nt} (V:SV) (e:En) (hn:iL w (.slice x1 k1 c1) v2 v3 (.slice x4 k4 c4) n) (hs:nK n):
  Calls Tryz.prog 103 #[.agg #[.slice x1 k1 c1,v2,v3,.slice x4 k4 c4],aAH V e] w fun r w'=>r=.returned (.bool (yY n e))/\Below w.heap.size w w':=by
 obtain⟨f1,n1⟩:=hn.nodes;obtain⟨f4,n4⟩:=hn.past;obtain rfl:k1=5:=(aO n1).1.trans hs.nodes;obtain rfl:k4=5:=(aO n4).1.trans hs.past;obtain⟨node,born,num,s⟩:=e;have WB:Hid (yY n ⟨node,born,num,s⟩=(in6 node 0 4&&(in6 born 1 (aG n node).born&&in6 num 0 (bZ n node born).length))):=hd_ rfl
 have H0:=((M.start w).alloc #[.slice x1 5 c1,v2,v3,.slice x4 5 c4] 30).alloc #[.int .i64 node,.int .i64 born,.int .i64 num,.slice V.xr V.nr V.cr,.slice V.xf V.nf V.cf,.slice V.xt V.nt V.ct,.int .i64 s.lo,.int .i64 s.al,.slice V.xk V.nk V.ck,.int .i64 s.ka] 64;simp only[World.size_alloc]at H0
 obtain⟨w1,hw1⟩:∃W,W=((w.alloc (.cells #[.slice x1 5 c1,v2,v3,.slice x4 5 c4] 30)).alloc (.cells #[.int .i64 node,.int .i64 born,.int .i64 num,.slice V.xr V.nr V.cr,.slice V.xf V.nf V.cf,.slice V.xt V.nt V.ct,.int .i64 s.lo,.int .i64 s.al,.slice V.xk V.nk V.ck,.int .i64 s.ka] 64)):=⟨_,rfl⟩
 obtain⟨p1,hp1⟩:∃p,p=w.heap.size:=⟨_,rfl⟩
 obtain⟨p2,hp2⟩:∃p,p=w.heap.size+1:=⟨_,rfl⟩
 rw[<-hw1, <-hp2, <-hp1]at H0;have HP:=hd_ hp1;have HS:=hd_ hs;have H1:=H0.drew;obtain⟨W,hW⟩:∃W,W=w1.drew:=⟨_,rfl⟩
 rw[<-hW]at H1;have EW:=hd_ hW;have H:=hd_ H1;have hWB:Below w.heap.size w W:=by have:=H1.below;rwa[hp1]at this
 obtain⟨d0,d1,d2,d3,d4,d5,d6,d7,d8,d9⟩:=H1.cells10;obtain⟨a0,a1,a2,a3⟩:=H1.p1.cells4;clear H0 H1 hW hs hn;go_enter Tryz.func103,Tryz.ntmps103;go_wp2;rw[<-hw1, <-hp2, <-hp1];clear hw1 hp1 hp2;obtain⟨b1,hb1⟩:∃b,b=in6 node 0 4:=⟨_,rfl⟩
 rw[<-hb1]at WB;have K1:=hd_ (aGY hb1);cases b1 with
 |false=>
  clear hb1;refine aE 99 (.tk 0 2 (.alt 2 (.tk 3 18 .done) .nomore)) (fun w'=>aJ w' (b4L p1 (.slice x1 5 c1) v2 v3 (.slice x4 5 c4)++bD p2 node born num V s)) (by kernel_rfl) (by kernel_rfl) (fun _ _ _ _ _ h=>h) (by rw[<-EW.out];exact⟨a0,a1,a2,a3,d0,d1,d2,d3,d4,d5,d6,d7,d8,d9,trivial⟩) ?_;rw[<-EW.out]
  repeat ((first|(refine aC (by rfl) (by rfl) ?_;apply Exists.intro;refine⟨fun w' hw'=>?_,?_⟩;(· ((try simp only[aJ,aF,b4L,b5L,b6L,b7L,bD,N.bR,and_true]at hw');go_simp;(try with_reducible rfl))))|(refine aB (by rfl) (by rfl) ?_));simp only[Act.put,List.getElem_toArray,List.getElem_cons_succ,pg3,pg4,pg5,pg6])
  refine aD (by rfl) (fun K' hK=>?_);go_simp;refine (K1.out W).mono ?_;rintro e' w' ⟨rfl,hw'⟩;rw[hw'];clear hw' w';refine hK _ _ (.inr ⟨a0,a1,a2,a3,d0,d1,d2,d3,d4,d5,d6,d7,d8,d9,trivial⟩) ?_;clear hK K'
  try simp only[Act.put,List.getElem_toArray,List.getElem_cons_succ,pg3,pg4,pg5,pg6]
  repeat ((first|(refine aC (by rfl) (by rfl) ?_;apply Exists.intro;refine⟨fun w' hw'=>?_,?_⟩;(· ((try simp only[aJ,aF,b4L,b5L,b6L,b7L,bD,N.bR,and_true]at hw');go_simp;(try with_reducible rfl))))|(refine aB (by rfl) (by rfl) ?_));simp only[Act.put,List.getElem_toArray,List.getElem_cons_succ,pg3,pg4,pg5,pg6])
  refine aI ?_;go_wp2;go_ret;exact⟨by rw[WB.out];rfl,by have:=H.out.below;rwa[HP.out]at this⟩
 |true=>
  obtain⟨iA,iB⟩:=cL.1 hb1.symm;obtain⟨i,rfl⟩:∃i:Nat,node=i:=⟨node.toNat,by omega⟩
  have i5:i<5:=by omega
  obtain⟨nd,hnd⟩:∃nd,n.nodes[i]? =some nd:=⟨_,List.getElem?_eq_getElem (by rw[HS.out.nodes];exact i5)⟩
  obtain⟨rs,hrs⟩:∃rs,n.past[i]? =some rs:=⟨_,List.getElem?_eq_getElem (by rw[HS.out.past];exact i5)⟩
  have eN:aG n (i:Int)=nd:=by unfold aG;rw[List.getD_eq_getElem?_getD,Int.toNat_natCast,hnd];rfl
  have eR:cS n (i:Int)=rs:=by unfold cS;rw[List.getD_eq_getElem?_getD,Int.toNat_natCast,hrs];rfl
  have eL:=HS.out.rows i i5;rw[eN,eR]at eL;rw[eN]at WB;obtain⟨g1,xk,ck,fk,rfl,_,_,_,_,_,b0,_⟩:=fQ n1 hnd;obtain⟨g4,xr,cr,fr,rfl,_,_,rr,_,_,y0⟩:=lP n4 hrs;replace b0:=cell_later hWB b0;replace y0:=cell_later hWB y0;have ER:=hd_ eR;have EL:=hd_ eL;clear hb1 iA iB hnd hrs eN eR eL n1 n4;have i0:(0:Int)<=(i:Int):=by omega
  have i5':(i:Int)<5:=by omega
  have bad:∀(hf:in6 born 1 nd.born=false),yY n ⟨(i:Int),born,num,s⟩=false:=fun hf=>by rw[WB.out,hf];rfl
  have BAD:=hd_ bad;clear bad;have C0:Hid (aJ W (b4L p1 (.slice (some ⟨g1,0,none⟩) 5 c1) v2 v3 (.slice (some ⟨g4,0,none⟩) 5 c4)++(bD p2 (i:Int) born num V s++[(⟨g1,i * 5,none⟩,.int .i64 nd.born),(⟨g4,i,none⟩,.slice xr rs.length cr)]))):=hd_ ⟨a0,a1,a2,a3,d0,d1,d2,d3,d4,d5,d6,d7,d8,d9,b0,y0,trivial⟩;clear a0 a1 a2 a3 d0 d1 d2 d3 d4 d5 d6 d7 d8 d9 b0 y0
  obtain⟨q1,hq1⟩:∃b,b=decide (born<1):=⟨_,rfl⟩
  obtain⟨q2,hq2⟩:∃b,b=decide (nd.born<born):=⟨_,rfl⟩
  have g1':=hq1.symm;have g2':=hq2.symm;have Q1:=hd_ hq1;have Q2:=hd_ hq2;clear hq1 hq2;rcases q1 with _|_
  case true=>
   have F:=hd_ (BAD.out (decide_eq_false (by have:=of_decide_eq_true Q1.out.symm;omega)))
   refine aE 99 (.tk 0 2 (.alt 2 (.tk 3 18 .done) .nomore)) (fun w'=>aJ w' (b4L p1 (.slice (some ⟨g1,0,none⟩) 5 c1) v2 v3 (.slice (some ⟨g4,0,none⟩) 5 c4)++(bD p2 (i:Int) born num V s++[(⟨g1,i * 5,none⟩,.int .i64 nd.born),(⟨g4,i,none⟩,.slice xr rs.length cr)]))) (by kernel_rfl) (by kernel_rfl) (fun _ _ _ _ _ h=>h) (by rw[<-EW.out];exact C0.out) ?_;rw[<-EW.out]
   repeat ((first|(refine aC (by rfl) (by rfl) ?_;apply Exists.intro;refine⟨fun w' hw'=>?_,?_⟩;(· ((try simp only[aJ,aF,b4L,b5L,b6L,b7L,bD,N.bR,and_true]at hw');go_simp;(try with_reducible rfl))))|(refine aB (by rfl) (by rfl) ?_));simp only[Act.put,List.getElem_toArray,List.getElem_cons_succ,pg3,pg4,pg5,pg6])
   refine aD (by rfl) (fun K' hK=>?_);go_simp;refine (K1.out W).mono ?_;rintro e' w' ⟨rfl,hw'⟩;rw[hw'];clear hw' w';refine hK _ _ (.inr C0.out) ?_;clear hK K'
   try simp only[Act.put,List.getElem_toArray,List.getElem_cons_succ,pg3,pg4,pg5,pg6]
   repeat ((first|(refine aC (by rfl) (by rfl) ?_;apply Exists.intro;refine⟨fun w' hw'=>?_,?_⟩;(· ((try simp only[aJ,aF,b4L,b5L,b6L,b7L,bD,N.bR,and_true]at hw');go_simp;(try with_reducible rfl))))|(refine aB (by rfl) (by rfl) ?_));simp only[Act.put,List.getElem_toArray,List.getElem_cons_succ,pg3,pg4,pg5,pg6])
   refine aI ?_;go_wp2;go_ret;exact⟨by rw[F.out];rfl,by have:=H.out.below;rwa[HP.out]at this⟩
  have R1:=hd_ (fun (F:Prop) (h1:(born<1)->F)=>h1)
  refine aE 99 (.tk 0 2 (.alt 2 (.tk 3 18 .done) .nomore)) (fun w'=>aJ w' (b4L p1 (.slice (some ⟨g1,0,none⟩) 5 c1) v2 v3 (.slice (some ⟨g4,0,none⟩) 5 c4)++(bD p2 (i:Int) born num V s++[(⟨g1,i * 5,none⟩,.int .i64 nd.born),(⟨g4,i,none⟩,.slice xr rs.length cr)]))) (by kernel_rfl) (by kernel_rfl) (fun _ _ _ _ _ h=>h) (by rw[<-EW.out];exact C0.out) ?_;rw[<-EW.out]
  repeat ((first|(refine aC (by rfl) (by rfl) ?_;apply Exists.intro;refine⟨fun w' hw'=>?_,?_⟩;(· ((try simp only[aJ,aF,b4L,b5L,b6L,b7L,bD,N.bR,and_true]at hw');go_simp;(try with_reducible rfl))))|(refine aB (by rfl) (by rfl) ?_));simp only[Act.put,List.getElem_toArray,List.getElem_cons_succ,pg3,pg4,pg5,pg6])
  refine aD (by rfl) (fun K' hK=>?_);go_simp;refine (K1.out W).mono ?_;rintro e' w' ⟨rfl,hw'⟩;rw[hw'];clear hw' w';refine hK _ _ (.inr C0.out) ?_;clear hK K'
  try simp only[Act.put,List.getElem_toArray,List.getElem_cons_succ,pg3,pg4,pg5,pg6]
  repeat ((first|(refine aC (by rfl) (by rfl) ?_;apply Exists.intro;refine⟨fun w' hw'=>?_,?_⟩;(· ((try simp only[aJ,aF,b4L,b5L,b6L,b7L,bD,N.bR,and_true]at hw');go_simp;(try with_reducible rfl))))|(refine aB (by rfl) (by rfl) ?_));simp only[Act.put,List.getElem_toArray,List.getElem_cons_succ,pg3,pg4,pg5,pg6])
  refine aI ?_;rcases q2 with _|_
  case true=>
   have F:=hd_ (BAD.out (decide_eq_false (by have:=of_decide_eq_true Q2.out.symm;omega)));go_wp2;go_ret;exact⟨by rw[F.out];rfl,by have:=H.out.below;rwa[HP.out]at this⟩
  have o1:=of_decide_eq_false Q1.out.symm;have o2:=of_decide_eq_false Q2.out.symm;obtain⟨j,rfl⟩:∃j:Nat,born=j:=⟨born.toNat,by omega⟩
  have jr:j<rs.length:=by have:=EL.out;omega
  obtain⟨lp,hlp⟩:∃lp,rs[j]? =some lp:=⟨_,List.getElem?_eq_getElem jr⟩
  have EP:Hid (bZ n (i:Int) (j:Int)=lp):=hd_ (by unfold bZ;rw[ER.out,List.getD_eq_getElem?_getD,Int.toNat_natCast,hlp];rfl);obtain⟨g5,xl,cl,fl,rfl,_,_,_,lc,lm,y1⟩:=lE rr hlp;replace y1:=cell_later hWB y1;have WB2:Hid (yY n ⟨(i:Int),(j:Int),num,s⟩=in6 num 0 (lp.length:Int)):=hd_ (by rw[WB.out,EP.out,show in6 (j:Int) 1 nd.born=true from decide_eq_true (by omega)];rfl)
  have j0:(0:Int)<=(j:Int):=by omega
  have j1:(j:Int)<(rs.length:Int):=by omega
  have C1:=hd_ (show aJ W.drew (b4L p1 (.slice (some ⟨g1,0,none⟩) 5 c1) v2 v3 (.slice (some ⟨g4,0,none⟩) 5 c4)++(bD p2 (i:Int) (j:Int) num V s++[(⟨g4,i,none⟩,.slice (some ⟨g5,0,none⟩) rs.length cr),(⟨g5,j,none⟩,.slice xl lp.length cl)])) by
      refine aJ.below (W:=W) ?_ (Below.drew (Below.refl _ _))
      obtain⟨c0,c1,c2,c3,e0,e1,e2,e3,e4,e5,e6,e7,e8,e9,_,t0,_⟩:=C0.out
      exact⟨c0,c1,c2,c3,e0,e1,e2,e3,e4,e5,e6,e7,e8,e9,t0,y1,trivial⟩)
  clear o1 o2 hlp rr lc lm y1 jr C0 BAD WB Q1 Q2 K1;obtain⟨q3,hq3⟩:∃b,b=decide (0<=num):=⟨_,rfl⟩
  obtain⟨q4,hq4⟩:∃b,b=decide (num<=(lp.length:Int)):=⟨_,rfl⟩
  have WB3:Hid (yY n ⟨(i:Int),(j:Int),num,s⟩=(q3&&q4)):=hd_ (by
      rw[WB2.out,hq3,hq4]
      unfold in6
      by_cases x:0<=num<;>by_cases y:num<=(lp.length:Int)<;>simp[x,y])
  have g3':=hq3.symm;have g4':=hq4.symm;clear hq3 hq4 WB2;have H2:=hd_ H.out.drew;rcases q3 with _|_
  all_goals
   go_wp2;refine aE 99 (.tk 0 19 (.alt 19 .done .nomore)) (fun w'=>aJ w' (b4L p1 (.slice (some ⟨g1,0,none⟩) 5 c1) v2 v3 (.slice (some ⟨g4,0,none⟩) 5 c4)++(bD p2 (i:Int) (j:Int) num V s++[(⟨g4,i,none⟩,.slice (some ⟨g5,0,none⟩) rs.length cr),(⟨g5,j,none⟩,.slice xl lp.length cl)]))) (by kernel_rfl) (by kernel_rfl) (fun _ _ _ _ _ h=>h) C1.out ?_
   repeat ((first|(refine aC (by rfl) (by rfl) ?_;apply Exists.intro;refine⟨fun w' hw'=>?_,?_⟩;(· ((try simp only[aJ,aF,b4L,b5L,b6L,b7L,bD,N.bR,and_true]at hw');go_simp;(try with_reducible rfl))))|(refine aB (by rfl) (by rfl) ?_));simp only[Act.put,List.getElem_toArray,List.getElem_cons_succ,pg3,pg4,pg5,pg6])
   refine aD (by rfl) (fun K' hK=>?_);go_simp;refine hK _ _ (.inr C1.out) ?_;clear hK K';refine aI ?_;go_wp2;go_ret;exact⟨by rw[WB3.out];rfl,by have:=H2.out.below;rwa[HP.out]at this⟩
end N
end Go.Proofs.YtcblbdpdbggkbaaGreat
set_option linter.unusedVariables false
set_option linter.unusedSectionVars false
set_option linter.unusedSimpArgs false
namespace Go.Proofs.YtcblbdpdbggkbaaGreat
open Go.RowKit Go.Sort Go.ChangeMaps
namespace N
def moV (k:Int × Int × Int):Value:=.agg #[.int .i64 k.1,.int .i64 k.2.1,.int .i64 k.2.2]
def aIc (x:Int):Prop:= -9223372036854775808<=x/\x<9223372036854775808
def aEe (k:Int × Int × Int):Prop:=aIc k.1/\aIc k.2.1/\aIc k.2.2
theorem moT:aDi Tryz.prog 234 aEe moV:=by
 refine⟨Go.Maps.Keyed.of_law (deep_law_gate (by kernel_rfl) (by decide+kernel) (by decide+kernel) (by kernel_rfl) (by kernel_rfl)),fun k hk=>?_,fun x y h=>?_⟩
 ·obtain⟨⟨a0,a1⟩,⟨b0,b1⟩,c0,c1'⟩:=hk
  have c3:Tryz.prog.cellsOf 234=3:=by kernel_rfl
  have c1:Tryz.prog.cellsOf 3=1:=by kernel_rfl
  have ht:Tryz.prog.keyType 234=true:=by kernel_rfl
  have hn:1<=Tryz.prog.types.size:=by decide+kernel
  obtain⟨d,hd⟩:∃d,Tryz.prog.types.size+1=d+2:=⟨Tryz.prog.types.size - 1,by omega⟩
  have w1:(Lit.int .i64 k.1).wf=true:=by simp[Lit.wf,IntKind.min,IntKind.max,IntKind.bits,IntKind.signed];omega
  have w2:(Lit.int .i64 k.2.1).wf=true:=by simp[Lit.wf,IntKind.min,IntKind.max,IntKind.bits,IntKind.signed];omega
  have w3:(Lit.int .i64 k.2.2).wf=true:=by simp[Lit.wf,IntKind.min,IntKind.max,IntKind.bits,IntKind.signed];omega
  refine⟨.string (keyBytes [.int .i64 k.1,.int .i64 k.2.1,.int .i64 k.2.2]),?_⟩;have hl:Tryz.prog.keyLits (d+2) 234 [.int .i64 k.1,.int .i64 k.2.1,.int .i64 k.2.2]=some [.int .i64 k.1,.int .i64 k.2.1,.int .i64 k.2.2]:=by
   simp only[Program.keyLits,Tryz.underlying234,c3];simp[Program.keyLits,c1,Tryz.underlying3,w1,w2,w3]
  have hf:(moV k).formed Tryz.prog 234=true:=by unfold moV Value.formed;simp only[Tryz.underlying234,c3];rfl
  have hc:(moV k).cells.toList=[.int .i64 k.1,.int .i64 k.2.1,.int .i64 k.2.2]:=rfl;simp only[keyOf,Tryz.underlying234,ht,hf,hd,hc,hl,Bool.and_self,if_true,Option.map_some]
 ·unfold moV at h
  injection h with h
  have h':=congrArg Array.toList h;simp at h';exact Prod.ext h'.1 (Prod.ext h'.2.1 h'.2.2)
theorem aJj:(Tryz.prog.info? 46).map (fun i=>(i.zero,i.size,i.bytes))=some (some (.agg #[.slice none 0 0,.slice none 0 0,.slice none 0 0,.int .i64 0,.int .i64 0,.slice none 0 0,.int .i64 0]),7,120):=by kernel_rfl
theorem aL5 (w:World):(zeroValue 46).run Tryz.prog w=.ok (.agg #[.slice none 0 0,.slice none 0 0,.slice none 0 0,.int .i64 0,.int .i64 0,.slice none 0 0,.int .i64 0]) w:=by
 obtain⟨i,hi,hz,_⟩:=info_parts aJj;simp[zeroValue,typeInfo,hi,hz]
abbrev aL4 (V:SV) (s:Sm):Ch:=bC.ch [.slice V.xr V.nr V.cr,.slice V.xf V.nf V.cf,.slice V.xt V.nt V.ct,.int .i64 s.lo,.int .i64 s.al,.slice V.xk V.nk V.ck,.int .i64 s.ka] s
def yS (m:Nat) (S:Int × Int × Int->Sm) (g:Int × Int × Int->Option Value) (w:World) (f:List Nat):Prop:=(∀b ∈ f,b<w.heap.size)/\m ∈ f/\zU aEe moV w m g/\∀k v,g k=some v->∃V:SV,∃fp:List Nat,v=.agg #[.slice V.xr V.nr V.cr,.slice V.xf V.nf V.cf,.slice V.xt V.nt V.ct,.int .i64 (S k).lo,.int .i64 (S k).al,.slice V.xk V.nk V.ck,.int .i64 (S k).ka]/\pC w [.slice V.xr V.nr V.cr,.slice V.xf V.nf V.cf,.slice V.xt V.nt V.ct,.int .i64 (S k).lo,.int .i64 (S k).al,.slice V.xk V.nk V.ck,.int .i64 (S k).ka] (S k) fp/\∀b ∈ fp,b ∈ f/\b≠m
theorem yS.keep {m:Nat} {S:Int × Int × Int->Sm} {g:Int × Int × Int->Option Value} {w w':World} {f:List Nat} (h:yS m S g w f) (hk:∀b ∈ f,w'.heap[b]? =w.heap[b]?) (hs:w.heap.size<=w'.heap.size):yS m S g w' f:=by
 obtain⟨lt,hm,⟨es,c,hb,r⟩,hg⟩:=h;refine⟨fun b hb=>Nat.lt_of_lt_of_le (lt b hb) hs,hm,⟨es,c,(hk m hm).trans hb,r⟩,fun k v hv=>?_⟩;obtain⟨V,fp,e,hr,hf⟩:=hg k v hv;exact⟨V,fp,e,bC.keep hr (fun b hb=>hk b (hf b hb).1) hs,hf⟩
def aJv (m:Nat) (S:Int × Int × Int->Sm) (g:Int × Int × Int->Option Value):Ch:=⟨fun w f=>yS m S g w f,fun h=>h.1,fun h=>h.keep⟩
def jR (m:Nat) (S:Int × Int × Int->Sm):Ch:=Ch.ex (aJv m S)
def tR (m:Nat) (V:SV) (s:Sm) (w:World) (f:List Nat):Prop:=∃fp:List Nat,pC w [.slice V.xr V.nr V.cr,.slice V.xf V.nf V.cf,.slice V.xt V.nt V.ct,.int .i64 s.lo,.int .i64 s.al,.slice V.xk V.nk V.ck,.int .i64 s.ka] s fp/\∀b ∈ fp,b ∈ f/\b≠m
theorem tR.keep {m:Nat} {V:SV} {s:Sm} {w w':World} {f:List Nat} (h:tR m V s w f) (hk:∀b ∈ f,w'.heap[b]? =w.heap[b]?) (hs:w.heap.size<=w'.heap.size):tR m V s w' f:=by
 obtain⟨fp,hr,hf⟩:=h;exact⟨fp,bC.keep hr (fun b hb=>hk b (hf b hb).1) hs,hf⟩
def aF8 (m:Nat) (S:Int × Int × Int->Sm) (V:SV) (s:Sm) (g:Int × Int × Int->Option Value):Ch:=⟨fun w f=>yS m S g w f/\tR m V s w f,fun h=>h.1.1,fun h hk hs=>⟨h.1.keep hk hs,h.2.keep hk hs⟩⟩
def pZ (m:Nat) (S:Int × Int × Int->Sm) (V:SV) (s:Sm):Ch:=Ch.ex (aF8 m S V s)
section
variable {B m:Nat} {w w0:World} {l:List Ch} {S:Int × Int × Int->Sm} {k:Int × Int × Int} {V:SV} {s:Sm}
theorem aIk (h:M B w0 w l) (S:Int × Int × Int->Sm):M B w0 (w.alloc (.map #[] 0)) (jR w.heap.size S::l):=
 M.in (c:=aJv w.heap.size S) (fun _=>none) ((h.map aEe moV).to fun f hf nd=>by
    obtain⟨hm,rfl⟩:=hf
    exact⟨_,⟨fun b hb=>by rw[List.mem_singleton.1 hb];simp,List.mem_singleton_self _,hm,fun k v hv=>by cases hv⟩,nd,fun b hb=>hb⟩)
theorem qL (h:M B w0 w (pZ m S V s::l)):M B w0 w (jR m S::l):=by
 obtain⟨g,h⟩:=M.ex h;exact M.in (c:=aJv m S) g (h.to fun f hf nd=>⟨f,hf.1,nd,fun b hb=>hb⟩)
theorem aCH (h:M B w0 w (pZ m S V s::l)):RdS w V s:=by
 obtain⟨g,h⟩:=M.ex h;obtain⟨f,⟨_,fp,hr,_⟩,_⟩:=h.first;exact aCM hr
theorem aEj (h:M B w0 w (aL4 V s::jR m S::l)):M B w0 w (pZ m S V s::l):=by
 obtain⟨g,h⟩:=M.ex (M.p1 h);exact M.in (c:=aF8 m S V s) g ((M.sep h).to fun f hf nd=>by
    obtain⟨f2,f1,rfl,h2,h1⟩:=hf
    obtain⟨n1,n2,n3⟩:=List.nodup_append.1 nd
    have l1:=bC.lt h1
    obtain⟨lt,hm,hmap,hg⟩:=h2
    refine⟨f2++f1,⟨⟨fun b hb=>?_,List.mem_append_left _ hm,hmap,fun k v hv=>?_⟩,f1,h1,fun b hb=>⟨List.mem_append_right _ hb,fun e=>n3 m hm b hb e.symm⟩⟩,nd,fun b hb=>hb⟩
    · rcases List.mem_append.1 hb with q|q
      · exact lt b q
      · exact l1 b q
    · obtain⟨V',fp,e,hr,hf⟩:=hg k v hv
      exact⟨V',fp,e,hr,fun b hb=>⟨List.mem_append_left _ (hf b hb).1,(hf b hb).2⟩⟩)
theorem aGG (h:M B w0 w (jR m S::l)) (hk:aEe k):∃(b:Bool) (V:SV) (s:Sm),(Instr.lookup 118 (.map (some m)) (moV k) true).run Tryz.prog w=.ok (.tuple #[.agg #[.slice V.xr V.nr V.cr,.slice V.xf V.nf V.cf,.slice V.xt V.nt V.ct,.int .i64 s.lo,.int .i64 s.al,.slice V.xk V.nk V.ck,.int .i64 s.ka],.bool b]) w/\(b=true->s=S k/\M B w0 w (pZ m S V s::l)):=by
 obtain⟨g,h⟩:=M.ex h;obtain⟨f,hf,_⟩:=h.first;have hr:=hf.2.2.1.look moT Tryz.underlying118 (aL5 w) hk true;cases hgk:g k with
 |none=>
  rw[hgk]at hr;exact⟨false,SV.none,nT,hr,fun e=>by cases e⟩
 |some v=>
  obtain⟨V,fp,rfl,hs,hfp⟩:=hf.2.2.2 k v hgk;rw[hgk]at hr;refine⟨true,V,S k,hr,fun _=>⟨rfl,M.in (c:=aF8 m S V (S k)) g (h.to fun f' hf' nd=>?_)⟩⟩;obtain⟨V',fp',e',hs',hfp'⟩:=hf'.2.2.2 k _ hgk;obtain rfl:V=V':=aCF (s:=S k) (by simpa using e');exact⟨f',⟨hf',fp',hs',hfp'⟩,nd,fun b hb=>hb⟩
theorem aJF (h:M B w0 w (pZ m S V (S k)::l)) (hk:aEe k):∃w',(Instr.mapUpdate 118 (.map (some m)) (moV k) (.agg #[.slice V.xr V.nr V.cr,.slice V.xf V.nf V.cf,.slice V.xt V.nt V.ct,.int .i64 (S k).lo,.int .i64 (S k).al,.slice V.xk V.nk V.ck,.int .i64 (S k).ka])).run Tryz.prog w=.ok () w'/\M B w0 w' (pZ m S V (S k)::l)/\w'.heap.size=w.heap.size:=by
 obtain⟨g,h⟩:=M.ex h;obtain⟨f0,hf0,_⟩:=h.first;obtain⟨es,c,hr,hm⟩:=hf0.1.2.2.1.store moT Tryz.underlying118 hk (.agg #[.slice V.xr V.nr V.cr,.slice V.xf V.nf V.cf,.slice V.xt V.nt V.ct,.int .i64 (S k).lo,.int .i64 (S k).al,.slice V.xk V.nk V.ck,.int .i64 (S k).ka])
 refine⟨_,hr,M.in (c:=aF8 m S V (S k)) (fun y=>if y=k then some (.agg #[.slice V.xr V.nr V.cr,.slice V.xf V.nf V.cf,.slice V.xt V.nt V.ct,.int .i64 (S k).lo,.int .i64 (S k).al,.slice V.xk V.nk V.ck,.int .i64 (S k).ka])else g y) (h.turn fun f hf nd lo=>?_),by simp[setBlock]⟩;obtain⟨⟨lt,hm0,_,hg⟩,fp,hs,hfp⟩:=hf;have sz:(setBlock w m (.map es c)).heap.size=w.heap.size:=by simp[setBlock]
 have other:∀q,q≠m->(setBlock w m (.map es c)).heap[q]? =w.heap[q]? :=fun q hq=>by
  have ne:¬m=q:=fun e=>hq e.symm
  simp[setBlock,Array.getElem?_setIfInBounds,ne]
 have keep:∀{V2:SV} {s2:Sm} {fp':List Nat},pC w [.slice V2.xr V2.nr V2.cr,.slice V2.xf V2.nf V2.cf,.slice V2.xt V2.nt V2.ct,.int .i64 s2.lo,.int .i64 s2.al,.slice V2.xk V2.nk V2.ck,.int .i64 s2.ka] s2 fp'->(∀b ∈ fp',b ∈ f/\b≠m)->pC (setBlock w m (.map es c)) [.slice V2.xr V2.nr V2.cr,.slice V2.xf V2.nf V2.cf,.slice V2.xt V2.nt V2.ct,.int .i64 s2.lo,.int .i64 s2.al,.slice V2.xk V2.nk V2.ck,.int .i64 s2.ka] s2 fp':=fun hr' hf'=>bC.keep hr' (fun b hb=>other b (hf' b hb).2) (Nat.le_of_eq sz.symm)
 refine⟨⟨rfl,rfl,rfl,Nat.le_of_eq sz.symm,fun q _ hq=>other q fun e=>hq (by rw[e];exact hm0)⟩,f,⟨⟨fun b hb=>by rw[sz];exact lt b hb,hm0,hm,fun y v hv=>?_⟩,fp,keep hs hfp,hfp⟩,nd,fun b hb=>.inl hb⟩
 by_cases e:y=k
 ·subst e
  obtain rfl:(.agg #[.slice V.xr V.nr V.cr,.slice V.xf V.nf V.cf,.slice V.xt V.nt V.ct,.int .i64 (S y).lo,.int .i64 (S y).al,.slice V.xk V.nk V.ck,.int .i64 (S y).ka])=v:=by simpa using hv
  exact⟨V,fp,rfl,keep hs hfp,hfp⟩
 ·replace hv:=(if_neg e).symm.trans hv
  obtain⟨V',fp',e1,hr',hf'⟩:=hg y v hv;exact⟨V',fp',e1,keep hr' hf',hf'⟩
theorem aKH {K:Act->World->Prop} {o:Oper} {a:Act} {Q:Exit->Act->World->Prop} {mo ko vo:Operand} (h:M B w0 w (pZ m S V s::l)) (hk:aEe k) (es:s=S k) (hop:o.op=.mapUpdate 118 mo ko vo) {x y:Value}
  (hm:a.eval mo=.map (some m)) (hx:a.eval ko=x) (hy:a.eval vo=y) (ex:x=moV k) (ey:y=.agg #[.slice V.xr V.nr V.cr,.slice V.xf V.nf V.cf,.slice V.xt V.nt V.ct,.int .i64 s.lo,.int .i64 s.al,.slice V.xk V.nk V.ck,.int .i64 s.ka]) (n:∀w',M B w0 w' (pZ m S V s::l)->K (a.put o.dst undef) w'):o.wp Tryz.prog a w K Q:=by
 subst es;obtain⟨w',hr,hM,hs⟩:=aJF h hk;rw[<-ex, <-ey]at hr;clear ex ey;unfold Oper.wp;simp[execOp,hop,hm,hx,hy,hr,Result.andThen,Oper.upon];exact n w' hM
theorem aD0 {ops:Array Oper} {rest:List Oper} {o:Oper} {a:Act} {Q:Exit->Act->World->Prop} {mo ko vo:Operand} (h:M B w0 w (pZ m S V s::l)) (hk:aEe k) (es:s=S k) (hgd:o.guard=none) (hop:o.op=.mapUpdate 118 mo ko vo) {x y:Value}
  (hm:a.eval mo=.map (some m)) (hx:a.eval ko=x) (hy:a.eval vo=y) (ex:x=moV k) (ey:y=.agg #[.slice V.xr V.nr V.cr,.slice V.xf V.nf V.cf,.slice V.xt V.nt V.ct,.int .i64 s.lo,.int .i64 s.al,.slice V.xk V.nk V.ck,.int .i64 s.ka]) (n:∀w',M B w0 w' (pZ m S V s::l)->wpList Tryz.prog ops Q rest (a.put o.dst undef) w'):wpList Tryz.prog ops Q (o::rest) a w:=
 wpList_plain hgd fun _ hK=>aKH h hk es hop hm hx hy ex ey fun w' h1=>hK _ _ (n w' h1)
end
end N
end Go.Proofs.YtcblbdpdbggkbaaGreat
set_option linter.unusedVariables false
namespace Go.Proofs.YtcblbdpdbggkbaaGreat
open Go.RowKit Go.Sort
def aAt (V:SV):Value:=.iface 36 (.agg #[.slice V.xr V.nr V.cr])
def aAp (V:SV):Value:=.iface 38 (.agg #[.slice V.xf V.nf V.cf])
def aAA (V:SV) (s:Sm):Value:=.iface 41 (.agg #[.slice V.xt V.nt V.ct,.int .i64 s.lo,.int .i64 s.al])
def aAO (V:SV) (s:Sm):Value:=.iface 44 (.agg #[.slice V.xk V.nk V.ck,.int .i64 s.ka])
theorem aH1 (w:World) (x:Option Addr) (n c:Nat) (rs:List (List Int)) (h:Rws w (.slice x n c) rs):
  Calls Tryz.prog 352 #[.agg #[.slice x n c]] w fun e w'=>e=.returned (.bool (okB rs))/\Below w.heap.size w w':=by
 have hA:=(Below.refl w.heap.size w).alloc lr_ (.cells #[.slice x n c] 36);have K:=hd_ (aKz _ _ rs (h.below hA lr_));have HA:=hd_ hA;clear h hA;go_enter Tryz.func352,Tryz.ntmps352
 go_wp2_with fail
 refine K.out.mono ?_;rintro e w1 ⟨rfl,hb⟩;go_wp2;go_ret;exact⟨rfl,HA.out.trans (hb.mono HA.out.size)⟩
theorem aJX (w:World) (x:Option Addr) (n c:Nat) (zs:List Int) (h:cW w (.slice x n c) zs):
  Calls Tryz.prog 353 #[.agg #[.slice x n c]] w fun e w'=>e=.returned (.bool (eK zs))/\Below w.heap.size w w':=by
 have hA:=(Below.refl w.heap.size w).alloc lr_ (.cells #[.slice x n c] 38);have K:=hd_ (mC _ _ zs (h.below hA lr_));have HA:=hd_ hA;clear h hA;go_enter Tryz.func353,Tryz.ntmps353
 go_wp2_with fail
 refine K.out.mono ?_;rintro e w1 ⟨rfl,hb⟩;go_wp2;go_ret;exact⟨rfl,HA.out.trans (hb.mono HA.out.size)⟩
theorem aJr (w:World) (x:Option Addr) (n c:Nat) (ps:List T.Pr) (lo al:Int) (h:T.Prs w (.slice x n c) ps):
  Calls Tryz.prog 354 #[.agg #[.slice x n c,.int .i64 lo,.int .i64 al]] w fun e w'=>e=.returned (.bool (T.cV ps lo al))/\Below w.heap.size w w':=by
 have hA:=(Below.refl w.heap.size w).alloc lr_ (.cells #[.slice x n c,.int .i64 lo,.int .i64 al] 41);have K:=hd_ (T.mO _ _ ps lo al (h.below hA lr_));have HA:=hd_ hA;clear h hA;go_enter Tryz.func354,Tryz.ntmps354
 go_wp2_with fail
 refine K.out.mono ?_;rintro e w1 ⟨rfl,hb⟩;go_wp2;go_ret;exact⟨rfl,HA.out.trans (hb.mono HA.out.size)⟩
theorem aIL (w:World) (x:Option Addr) (n c:Nat) (ps:List K.Pr) (al:Int) (h:K.Prs w (.slice x n c) ps):
  Calls Tryz.prog 355 #[.agg #[.slice x n c,.int .i64 al]] w fun e w'=>e=.returned (.bool (K.cP ps al))/\Below w.heap.size w w':=by
 have hA:=(Below.refl w.heap.size w).alloc lr_ (.cells #[.slice x n c,.int .i64 al] 44);have K:=hd_ (K.kV _ _ ps al (h.below hA lr_));have HA:=hd_ hA;clear h hA;go_enter Tryz.func355,Tryz.ntmps355
 go_wp2_with fail
 refine K.out.mono ?_;rintro e w1 ⟨rfl,hb⟩;go_wp2;go_ret;exact⟨rfl,HA.out.trans (hb.mono HA.out.size)⟩
theorem vY (w:World) (V:SV) (s:Sm):
  Calls Tryz.prog 105 #[.agg #[.slice V.xr V.nr V.cr,.slice V.xf V.nf V.cf,.slice V.xt V.nt V.ct,.int .i64 s.lo,.int .i64 s.al,.slice V.xk V.nk V.ck,.int .i64 s.ka]] w fun e w'=>e=.returned (.agg #[aAt V,aAp V,aAA V s,aAO V s])/\Below w.heap.size w w':=by
 obtain⟨xr,nr,cr,xf,nf,cf,xt,nt,ct,xk,nk,ck⟩:=V;obtain⟨rs,zs,ps,lo,al,ks,ka⟩:=s;unfold aAt aAp aAA aAO;simp only;go_enter Tryz.func105,Tryz.ntmps105;go_wp2
 go_returns
 exact⟨rfl,((Below.refl _ _).alloc lr_ _).alloc (by simp) _⟩
theorem vH (a b c d:Value) (w:World):(Instr.index 143 (.agg #[a,b,c,d]) (.int .i64 0)).run Tryz.prog w=.ok a w/\(Instr.index 143 (.agg #[a,b,c,d]) (.int .i64 1)).run Tryz.prog w=.ok b w/\
  (Instr.index 143 (.agg #[a,b,c,d]) (.int .i64 2)).run Tryz.prog w=.ok c w/\(Instr.index 143 (.agg #[a,b,c,d]) (.int .i64 3)).run Tryz.prog w=.ok d w:=
 ⟨by kernel_rfl,by kernel_rfl,by kernel_rfl,by kernel_rfl⟩
end Go.Proofs.YtcblbdpdbggkbaaGreat
set_option linter.unusedVariables false
namespace Go.Proofs.YtcblbdpdbggkbaaGreat
open Go.RowKit Go.Sort
def aID (s:Sm) (j:Nat):Prop:=(0<j->okB s.rs=true)/\(1<j->eK s.zs=true)/\(2<j->T.cV s.ps s.lo s.al=true)/\(3<j->K.cP s.ks s.ka=true)
theorem iV (w:World) (V:SV) (s:Sm) (h:RdS w V s):
  Calls Tryz.prog 41 #[.agg #[.slice V.xr V.nr V.cr,.slice V.xf V.nf V.cf,.slice V.xt V.nt V.ct,.int .i64 s.lo,.int .i64 s.al,.slice V.xk V.nk V.ck,.int .i64 s.ka]] w fun e w'=>e=.returned (.bool (okS s))/\Below w.heap.size w w':=by
 have hA:=(Below.refl w.heap.size w).alloc lr_ (.cells #[.slice V.xr V.nr V.cr,.slice V.xf V.nf V.cf,.slice V.xt V.nt V.ct,.int .i64 s.lo,.int .i64 s.al,.slice V.xk V.nk V.ck,.int .i64 s.ka] 46);have X0:=aM.new w 46 (.slice V.xr V.nr V.cr) (.slice V.xf V.nf V.cf) (.slice V.xt V.nt V.ct) (.int .i64 s.lo) (.int .i64 s.al) (.slice V.xk V.nk V.ck) (.int .i64 s.ka);have HA:=hd_ hA
 have R0:=hd_ (h.below hA lr_);have KW:=hd_ (vY (w.alloc (.cells #[.slice V.xr V.nr V.cr,.slice V.xf V.nf V.cf,.slice V.xt V.nt V.ct,.int .i64 s.lo,.int .i64 s.al,.slice V.xk V.nk V.ck,.int .i64 s.ka] 46)) V s);have fl:=hd_ h.lens.2.1;clear h hA;go_enter Tryz.func41,Tryz.ntmps41
 go_wp2_with fail
 refine KW.out.mono ?_;rintro e w1 ⟨rfl,hb1⟩;have X1:=X0.later hb1;have R1:=hd_ (R0.out.later hb1);have B1:=hd_ (HA.out.trans (hb1.mono HA.out.size));clear hb1 X0 R0 HA KW;go_wp2;go_loopw [8] (fun i wr=>∃j:Nat,i=.int .i64 j/\j<=4/\aID s j/\Below w1.heap.size w1 wr) (fun i _=>4 - (intOf i).toNat)
 case atStart=>exact⟨0,rfl,by omega,by simp[aID],Below.refl _ _⟩
 case round=>
  obtain⟨j,rfl,hj,hu,hbl⟩:=hrel;have HU:=hd_ hu;have HB:=hd_ hbl;have R2:=hd_ (R1.out.below hbl lr_);have X2:=X1.later hbl;clear hu hbl;have IW:=fun w=>vH (aAt V) (aAp V) (aAA V s) (aAO V s) w
  unfold aAt aAp aAA aAO at IW ⊢;rcases (by omega:j=4\/j=0\/j=1\/j=2\/j=3)with rfl|rfl|rfl|rfl|rfl
  ·clear IW
   have u:=HU.out;have r1:=u.1 (by omega);have f1:=u.2.1 (by omega);have t1:=u.2.2.1 (by omega);have k1:=u.2.2.2 (by omega);have hok:okS s=(decide (cX s.rs=s.al)&&(decide (s.al=s.ka)&&decide (0<s.zs.length↔0<s.al))):=by
    unfold okS;rw[r1,f1,t1,k1]
    rfl
   have HOK:=hd_ hok;have KA:=hd_ (qY wr _ s.rs R2.out.r);obtain⟨A,hA⟩:∃A,A=cX s.rs:=⟨_,rfl⟩
   rw[<-hA]at KA;have HAA:=hd_ hA;clear u r1 f1 t1 k1 hok hA HU;obtain⟨c0,c1,c2,c3,c4,c5,c6⟩:=X2.cells
   go_wp2_with fail
   refine KA.out.mono ?_;rintro e w2 ⟨rfl,hb2⟩;have X3:=X2.later hb2;have HB2:=hd_ (HB.out.trans (hb2.mono HB.out.size));clear hb2 c0 c1 c2 c3 c4 c5 c6 X2 R2 KA;obtain⟨c0,c1,c2,c3,c4,c5,c6⟩:=X3.cells;rw[<-HAA.out]at HOK;have hn:=fl.out;go_wp2
   all_goals
    go_ret;refine⟨?_,B1.out.trans (HB2.out.mono B1.out.size)⟩;rw[HOK.out];refine congrArg (fun b=>Ending.returned (Value.bool b)) ?_;rw[Bool.eq_iff_iff];simp;omega
  ·have I1:=fun w=>(IW w).1
   clear IW;have KI:=hd_ (aH1 wr _ _ _ s.rs R2.out.r);obtain⟨ok,hok⟩:∃ok,ok=okB s.rs:=⟨_,rfl⟩
   rw[<-hok]at KI;have HOK:=hd_ hok;clear hok
   go_wp2_with fail
   refine KI.out.mono ?_;rintro e w2 ⟨rfl,hb2⟩;have HB2:=hd_ (HB.out.trans (hb2.mono HB.out.size));clear hb2 KI;cases ok with
   |false=>
    go_wp2;go_ret;refine⟨?_,B1.out.trans (HB2.out.mono B1.out.size)⟩;have u:=HU.out;have q:=HOK.out;unfold okS;rw[<-q];simp
   |true=>
    go_wp2;go_roundw
    case rel=>exact⟨1,rfl,by omega,⟨fun _=>HOK.out.symm,fun q=>by omega,fun q=>by omega,fun q=>by omega⟩,HB2.out⟩
    case measure=>simp[intOf]
  ·have I1:=fun w=>(IW w).2.1
   clear IW;have KI:=hd_ (aJX wr _ _ _ s.zs R2.out.f);obtain⟨ok,hok⟩:∃ok,ok=eK s.zs:=⟨_,rfl⟩
   rw[<-hok]at KI;have HOK:=hd_ hok;clear hok
   go_wp2_with fail
   refine KI.out.mono ?_;rintro e w2 ⟨rfl,hb2⟩;have HB2:=hd_ (HB.out.trans (hb2.mono HB.out.size));clear hb2 KI;cases ok with
   |false=>
    go_wp2;go_ret;refine⟨?_,B1.out.trans (HB2.out.mono B1.out.size)⟩;have u:=HU.out;have q:=HOK.out;unfold okS;rw[<-q];simp
   |true=>
    go_wp2;go_roundw
    case rel=>exact⟨2,rfl,by omega,⟨fun _=>HU.out.1 (by omega),fun _=>HOK.out.symm,fun q=>by omega,fun q=>by omega⟩,HB2.out⟩
    case measure=>simp[intOf]
  ·have I1:=fun w=>(IW w).2.2.1
   clear IW;have KI:=hd_ (aJr wr _ _ _ s.ps s.lo s.al R2.out.t);obtain⟨ok,hok⟩:∃ok,ok=T.cV s.ps s.lo s.al:=⟨_,rfl⟩
   rw[<-hok]at KI;have HOK:=hd_ hok;clear hok
   go_wp2_with fail
   refine KI.out.mono ?_;rintro e w2 ⟨rfl,hb2⟩;have HB2:=hd_ (HB.out.trans (hb2.mono HB.out.size));clear hb2 KI;cases ok with
   |false=>
    go_wp2;go_ret;refine⟨?_,B1.out.trans (HB2.out.mono B1.out.size)⟩;have u:=HU.out;have q:=HOK.out;unfold okS;rw[<-q];simp
   |true=>
    go_wp2;go_roundw
    case rel=>exact⟨3,rfl,by omega,⟨fun _=>HU.out.1 (by omega),fun _=>HU.out.2.1 (by omega),fun _=>HOK.out.symm,fun q=>by omega⟩,HB2.out⟩
    case measure=>simp[intOf]
  ·have I1:=fun w=>(IW w).2.2.2
   clear IW;have KI:=hd_ (aIL wr _ _ _ s.ks s.ka R2.out.k);obtain⟨ok,hok⟩:∃ok,ok=K.cP s.ks s.ka:=⟨_,rfl⟩
   rw[<-hok]at KI;have HOK:=hd_ hok;clear hok
   go_wp2_with fail
   refine KI.out.mono ?_;rintro e w2 ⟨rfl,hb2⟩;have HB2:=hd_ (HB.out.trans (hb2.mono HB.out.size));clear hb2 KI;cases ok with
   |false=>
    go_wp2;go_ret;refine⟨?_,B1.out.trans (HB2.out.mono B1.out.size)⟩;have u:=HU.out;have q:=HOK.out;unfold okS;rw[<-q];simp
   |true=>
    go_wp2;go_roundw
    case rel=>exact⟨4,rfl,by omega,⟨fun _=>HU.out.1 (by omega),fun _=>HU.out.2.1 (by omega),fun _=>HU.out.2.2.1 (by omega),fun _=>HOK.out.symm⟩,HB2.out⟩
    case measure=>simp[intOf]
end Go.Proofs.YtcblbdpdbggkbaaGreat
set_option linter.unusedVariables false
namespace Go.Proofs.YtcblbdpdbggkbaaGreat
open Go.RowKit Go.Sort
theorem aKm (t:Int):qE t=⟨wD jJ t 1,kK [] t,(T.gO [] 0 0 t).1,(T.gO [] 0 0 t).2.1,(T.gO [] 0 0 t).2.2,(K.mK [] 0 t).1,(K.mK [] 0 t).2⟩:=by
 by_cases h:0<=t/\t<=63
 ·have A:=yL (s:=eC) (t:=t) (by rw[oE];exact decide_eq_true h)
  unfold qE;rw[mP (by rw[oE];exact decide_eq_true h)];unfold aAl wD;rw[show mW jJ t 1=true from A.r]
  rfl
 ·rw[aJl h]
  have a:mW jJ t 1=false:=by
   cases q:mW jJ t 1 with
   |false=>rfl
   |true=>have:=(jH _ _ _).1 q;omega
  have b:eJ [] t=false:=by
   unfold eJ iM;rw[decide_eq_false (by omega)];cases eK []<;>rfl
  have c:T.gV [] 0 0 t=false:=by
   unfold T.gV T.isT;rw[decide_eq_false (by omega)];cases T.cV [] 0 0<;>rfl
  have d:K.fC [] 0 t=false:=by
   unfold K.fC;rw[decide_eq_false (by omega)];cases K.cP [] 0<;>rfl
  unfold wD;rw[a,aCq b,T.aFU c,K.aBO d]
  rfl
theorem aJQ (w:World) (t:Int):
  Calls Tryz.prog 174 #[.int .i64 t] w fun e w'=>∃V,e=.returned (.agg #[.slice V.xr V.nr V.cr,.slice V.xf V.nf V.cf,.slice V.xt V.nt V.ct,.int .i64 (qE t).lo,.int .i64 (qE t).al,.slice V.xk V.nk V.ck,.int .i64 (qE t).ka])/\bH w' w.heap.size w'.heap.size V (qE t)/\Below w.heap.size w w':=by
 obtain⟨A,hAA⟩:∃A,A=wD jJ t 1:=⟨_,rfl⟩
 have HAA:=hd_ hAA;clear hAA;have hA:=(Below.refl w.heap.size w).alloc lr_ (.cells #[.slice none 0 0,.slice none 0 0,.slice none 0 0,.int .i64 0,.int .i64 0,.slice none 0 0,.int .i64 0] 46);have B:=hd_ (hA);clear hA;have R:=aM.new w 46 (.slice none 0 0) (.slice none 0 0) (.slice none 0 0) (.int .i64 0) (.int .i64 0) (.slice none 0 0) (.int .i64 0)
 have S0:Hid ((w.alloc (.cells #[.slice none 0 0,.slice none 0 0,.slice none 0 0,.int .i64 0,.int .i64 0,.slice none 0 0,.int .i64 0] 46)).heap.size=w.heap.size+1):=by show _=_;simp
 go_enter Tryz.func174,Tryz.ntmps174
 go_wp2_with fail
 refine (zL _).mono ?_;rintro e w1 ⟨u,G,C,rfl,ho,hb⟩;obtain⟨x1,c1,rfl⟩:=ho.form;replace B:=hd_ (B.out.trans (hb.mono B.out.size));replace R:=R.later hb;have P1:=hd_ (ho.rws);clear hb;clear ho;have KA:=aJ6 w1 _ jJ t 1 P1.out;rw[<-HAA.out]at KA;generalize mW jJ t 1=o1 at KA
 go_wp2_with fail
 refine (KA).mono ?_;rintro e w2 ⟨x2,c2,rfl,ho,hb⟩;obtain⟨n2,hn2⟩:∃n,n=A.length:=⟨_,rfl⟩
 rw[<-hn2]at ho ⊢;have L2:=hd_ B.out.size;have S2:=hd_ hb.size;clear hn2 KA;clear P1;replace B:=hd_ (B.out.trans (hb.mono B.out.size));replace R:=R.later hb;have O2:=hd_ (ho);clear hb;obtain⟨W2,hW⟩:∃W,W=(w2.alloc (.cells #[.slice x2 n2 c2] 36)):=⟨_,rfl⟩
 replace B:=hd_ ((B.out).alloc (Nat.le_trans B.out.size (by simp)) (.cells #[.slice x2 n2 c2] 36));rw[<-hW]at B;replace R:=R.alloc (.cells #[.slice x2 n2 c2] 36);rw[<-hW]at R;replace O2:=hd_ (O2.out.alloc (.cells #[.slice x2 n2 c2] 36));rw[<-hW]at O2;have X2:=Go.Boxed.new w2 36 (.slice x2 n2 c2);rw[<-hW]at X2
 go_wp2_with fail
 rw[<-hW];clear hW;clear ho;have KA:=aDM W2 (.slice none 0 0) [] t (.inl ⟨rfl,rfl⟩);obtain⟨F,hF⟩:∃F,F=kK [] t:=⟨_,rfl⟩
 rw[<-hF]at KA;have HF:=hd_ hF;generalize eJ [] t=o2 at KA;clear hF
 go_wp2_with fail
 refine (KA).mono ?_;rintro e w3 ⟨v,rfl,ho,hb⟩;obtain⟨x3,c3,rfl⟩:=ho.form';obtain⟨n3,hn3⟩:∃n,n=F.length:=⟨_,rfl⟩
 rw[<-hn3]at ho ⊢;have T2:=hd_ O2.out.top;have L3':=hd_ (Nat.le_trans L2.out (show w1.heap.size<=w2.heap.size from S2.out));clear hn3 KA;replace B:=hd_ (B.out.trans (hb.mono B.out.size));replace R:=R.later hb;replace O2:=hd_ (O2.out.below hb);replace X2:=lA X2 hb;have O3:=hd_ (ho);clear hb;obtain⟨W3,hW⟩:∃W,W=(w3.alloc (.cells #[.slice x3 n3 c3] 38)):=⟨_,rfl⟩
 replace B:=hd_ ((B.out).alloc (Nat.le_trans B.out.size (by simp)) (.cells #[.slice x3 n3 c3] 38));rw[<-hW]at B;replace R:=R.alloc (.cells #[.slice x3 n3 c3] 38);rw[<-hW]at R;replace O2:=hd_ (O2.out.alloc (.cells #[.slice x3 n3 c3] 38));rw[<-hW]at O2;replace X2:=X2.alloc (.cells #[.slice x3 n3 c3] 38);rw[<-hW]at X2;replace O3:=hd_ (O3.out.alloc (.cells #[.slice x3 n3 c3] 38));rw[<-hW]at O3
 have X3:=Go.Boxed.new w3 38 (.slice x3 n3 c3);rw[<-hW]at X3
 go_wp2_with fail
 rw[<-hW];clear hW;clear ho;have KA:=T.aDR W3 (.slice none 0 0) [] 0 0 t (.inl ⟨rfl,rfl⟩);obtain⟨TT,hF⟩:∃F,F=T.gO [] 0 0 t:=⟨_,rfl⟩
 rw[<-hF]at KA;have HT:=hd_ hF;generalize T.gV [] 0 0 t=o3 at KA;obtain⟨tp,tl,ta⟩:=TT;simp only at KA;clear hF
 go_wp2_with fail
 refine (KA).mono ?_;rintro e w4 ⟨v,rfl,ho,hb⟩;obtain⟨x4,c4,rfl⟩:=ho.form';obtain⟨n4,hn4⟩:∃n,n=tp.length:=⟨_,rfl⟩
 rw[<-hn4]at ho ⊢;have T3:=hd_ O3.out.lt;have L4:=hd_ B.out.size;clear hn4 KA;replace B:=hd_ (B.out.trans (hb.mono B.out.size));replace R:=R.later hb;replace O2:=hd_ (O2.out.below hb);replace X2:=lA X2 hb;replace O3:=hd_ (O3.out.below hb);replace X3:=lA X3 hb;have O4:=hd_ (ho);clear hb;obtain⟨W4,hW⟩:∃W,W=(w4.alloc (.cells #[.slice x4 n4 c4,.int .i64 tl,.int .i64 ta] 41)):=⟨_,rfl⟩
 replace B:=hd_ ((B.out).alloc (Nat.le_trans B.out.size (by simp)) (.cells #[.slice x4 n4 c4,.int .i64 tl,.int .i64 ta] 41));rw[<-hW]at B;replace R:=R.alloc (.cells #[.slice x4 n4 c4,.int .i64 tl,.int .i64 ta] 41);rw[<-hW]at R;replace O2:=hd_ (O2.out.alloc (.cells #[.slice x4 n4 c4,.int .i64 tl,.int .i64 ta] 41));rw[<-hW]at O2
 replace X2:=X2.alloc (.cells #[.slice x4 n4 c4,.int .i64 tl,.int .i64 ta] 41);rw[<-hW]at X2;replace O3:=hd_ (O3.out.alloc (.cells #[.slice x4 n4 c4,.int .i64 tl,.int .i64 ta] 41));rw[<-hW]at O3;replace X3:=X3.alloc (.cells #[.slice x4 n4 c4,.int .i64 tl,.int .i64 ta] 41);rw[<-hW]at X3;replace O4:=hd_ (O4.out.alloc (.cells #[.slice x4 n4 c4,.int .i64 tl,.int .i64 ta] 41));rw[<-hW]at O4
 have X4:=T.bN.new w4 41 (.slice x4 n4 c4) (.int .i64 tl) (.int .i64 ta);rw[<-hW]at X4
 go_wp2_with fail
 rw[<-hW];clear hW;clear ho;have KA:=K.aCt W4 (.slice none 0 0) [] 0 t (.inl ⟨rfl,rfl⟩);obtain⟨TT,hF⟩:∃F,F=K.mK [] 0 t:=⟨_,rfl⟩
 rw[<-hF]at KA;have HK:=hd_ hF;generalize K.fC [] 0 t=o4 at KA;obtain⟨kp,ka⟩:=TT;simp only at KA;clear hF
 go_wp2_with fail
 refine (KA).mono ?_;rintro e w5 ⟨v,rfl,ho,hb⟩;obtain⟨x5,c5,rfl⟩:=ho.form';obtain⟨n5,hn5⟩:∃n,n=kp.length:=⟨_,rfl⟩
 rw[<-hn5]at ho ⊢;have T4:=hd_ (fun k e=>(World.ownsRow.lt O4.out k e).2);have L5:=hd_ B.out.size;clear hn5 KA;replace B:=hd_ (B.out.trans (hb.mono B.out.size));replace R:=R.later hb;replace O2:=hd_ (O2.out.below hb);replace X2:=lA X2 hb;replace O3:=hd_ (O3.out.below hb);replace X3:=lA X3 hb;replace O4:=hd_ (O4.out.below hb);replace X4:=X4.later hb;have O5:=hd_ (ho);clear hb
 obtain⟨W5,hW⟩:∃W,W=(w5.alloc (.cells #[.slice x5 n5 c5,.int .i64 ka] 44)):=⟨_,rfl⟩
 have ax20:=((X2.alloc (.cells #[.slice x5 n5 c5,.int .i64 ka] 44))).cell;have ax30:=((X3.alloc (.cells #[.slice x5 n5 c5,.int .i64 ka] 44))).cell;have ax40:=((X4.alloc (.cells #[.slice x5 n5 c5,.int .i64 ka] 44))).cell0;have ax41:=((X4.alloc (.cells #[.slice x5 n5 c5,.int .i64 ka] 44))).cell1;have ax42:=((X4.alloc (.cells #[.slice x5 n5 c5,.int .i64 ka] 44))).cell2
 obtain⟨ar0,ar1,ar2,ar3,ar4,ar5,ar6⟩:=((R.alloc (.cells #[.slice x5 n5 c5,.int .i64 ka] 44))).cells;have frr:=(R.alloc (.cells #[.slice x5 n5 c5,.int .i64 ka] 44)).free;replace B:=hd_ ((B.out).alloc (Nat.le_trans B.out.size (by simp)) (.cells #[.slice x5 n5 c5,.int .i64 ka] 44));rw[<-hW]at B;replace R:=R.alloc (.cells #[.slice x5 n5 c5,.int .i64 ka] 44);rw[<-hW]at R
 replace O2:=hd_ (O2.out.alloc (.cells #[.slice x5 n5 c5,.int .i64 ka] 44));rw[<-hW]at O2;replace X2:=X2.alloc (.cells #[.slice x5 n5 c5,.int .i64 ka] 44);rw[<-hW]at X2;replace O3:=hd_ (O3.out.alloc (.cells #[.slice x5 n5 c5,.int .i64 ka] 44));rw[<-hW]at O3;replace X3:=X3.alloc (.cells #[.slice x5 n5 c5,.int .i64 ka] 44);rw[<-hW]at X3
 replace O4:=hd_ (O4.out.alloc (.cells #[.slice x5 n5 c5,.int .i64 ka] 44));rw[<-hW]at O4;replace X4:=X4.alloc (.cells #[.slice x5 n5 c5,.int .i64 ka] 44);rw[<-hW]at X4;replace O5:=hd_ (O5.out.alloc (.cells #[.slice x5 n5 c5,.int .i64 ka] 44));rw[<-hW]at O5;have X5:=K.aY.new w5 44 (.slice x5 n5 c5) (.int .i64 ka);rw[<-hW]at X5;clear ho;have e1:=aKm t;rw[<-HAA.out, <-HF.out, <-HT.out, <-HK.out]at e1
 have E1:=hd_ e1;clear e1;have F1:=HF;clear HF;have fin:=R.set (.slice x2 n2 c2) (.slice x3 n3 c3) (.slice x4 n4 c4) (.int .i64 tl) (.int .i64 ta) (.slice x5 n5 c5) (.int .i64 ka)
 have OF:=bH.box7 (bH.make (V:=⟨x2,n2,c2,x3,n3,c3,x4,n4,c4,x5,n5,c5⟩) (s:=⟨A,F,tp,tl,ta,kp,ka⟩) O2.out O3.out O4.out O5.out L2.out L3'.out T2.out L4.out L5.out) R (.slice x2 n2 c2) (.slice x3 n3 c3) (.slice x4 n4 c4) (.int .i64 tl) (.int .i64 ta) (.slice x5 n5 c5) (.int .i64 ka)
 have BF:=aW B.out lr_ (.slice x2 n2 c2) (.slice x3 n3 c3) (.slice x4 n4 c4) (.int .i64 tl) (.int .i64 ta) (.slice x5 n5 c5) (.int .i64 ka);have SF:=cG W5 w.heap.size (.slice x2 n2 c2) (.slice x3 n3 c3) (.slice x4 n4 c4) (.int .i64 tl) (.int .i64 ta) (.slice x5 n5 c5) (.int .i64 ka);have HF:=hd_ (And.intro (bH.base OF lr_ (Nat.le_of_eq SF.symm) lr_) BF);have HY:=hd_ fin
 clear fin OF BF SF;go_wp2;rw[<-hW];clear hW ax20 ax30 ax40 ax41 ax42 ar0 ar1 ar2 ar3 ar4 ar5 ar6 frr;show bodyPost _ _ _ _ _ (set7 W5 w.heap.size (.slice x2 n2 c2) (.slice x3 n3 c3) (.slice x4 n4 c4) (.int .i64 tl) (.int .i64 ta) (.slice x5 n5 c5) (.int .i64 ka))
 obtain⟨d0,d1,d2,d3,d4,d5,d6⟩:=HY.out.cells;generalize set7 W5 w.heap.size (.slice x2 n2 c2) (.slice x3 n3 c3) (.slice x4 n4 c4) (.int .i64 tl) (.int .i64 ta) (.slice x5 n5 c5) (.int .i64 ka)=WF at HF d0 d1 d2 d3 d4 d5 d6 ⊢
 refine bodyPost_ret (v:=.agg #[.slice x2 n2 c2,.slice x3 n3 c3,.slice x4 n4 c4,.int .i64 tl,.int .i64 ta,.slice x5 n5 c5,.int .i64 ka]) (by simp[results,Tryz.results174,go_sem,d0,d1,d2,d3,d4,d5,d6]) rfl ?_;rw[E1.out];exact⟨⟨x2,n2,c2,x3,n3,c3,x4,n4,c4,x5,n5,c5⟩,rfl,HF.out⟩
end Go.Proofs.YtcblbdpdbggkbaaGreat
set_option linter.unusedVariables false
namespace Go.Proofs.YtcblbdpdbggkbaaGreat
open Go.RowKit Go.Sort
theorem aLG (v:Value) (w:World):(Instr.typeAssert (.iface 36 v) 142 36 true).run Tryz.prog w=.ok (.tuple #[v,.bool true]) w:=by kernel_rfl
theorem aKY (v:Value) (w:World):(Instr.typeAssert (.iface 38 v) 142 36 true).run Tryz.prog w=.ok (.tuple #[.agg #[.slice none 0 0],.bool false]) w/\
  (Instr.typeAssert (.iface 38 v) 142 38 true).run Tryz.prog w=.ok (.tuple #[v,.bool true]) w:=⟨by kernel_rfl,by kernel_rfl⟩
theorem aIr (v:Value) (w:World):(Instr.typeAssert (.iface 41 v) 142 36 true).run Tryz.prog w=.ok (.tuple #[.agg #[.slice none 0 0],.bool false]) w/\
  (Instr.typeAssert (.iface 41 v) 142 38 true).run Tryz.prog w=.ok (.tuple #[.agg #[.slice none 0 0],.bool false]) w/\
  (Instr.typeAssert (.iface 41 v) 142 41 true).run Tryz.prog w=.ok (.tuple #[v,.bool true]) w:=⟨by kernel_rfl,by kernel_rfl,by kernel_rfl⟩
theorem aF7 (v:Value) (w:World):(Instr.typeAssert (.iface 44 v) 142 36 true).run Tryz.prog w=.ok (.tuple #[.agg #[.slice none 0 0],.bool false]) w/\
  (Instr.typeAssert (.iface 44 v) 142 38 true).run Tryz.prog w=.ok (.tuple #[.agg #[.slice none 0 0],.bool false]) w/\
  (Instr.typeAssert (.iface 44 v) 142 41 true).run Tryz.prog w=.ok (.tuple #[.agg #[.slice none 0 0,.int .i64 0,.int .i64 0],.bool false]) w/\
  (Instr.typeAssert (.iface 44 v) 142 44 true).run Tryz.prog w=.ok (.tuple #[v,.bool true]) w:=⟨by kernel_rfl,by kernel_rfl,by kernel_rfl,by kernel_rfl⟩
end Go.Proofs.YtcblbdpdbggkbaaGreat
