/-
  What the law FnExactNetList needs of the texts before it, part 4.
-/
import Derived.BigQuiet
import Derived.Carry
import Derived.ChangeSame
import Derived.Deep.DeepCutAuto
import Derived.Deep.Fields
import Derived.Deep.Matrix
import Derived.Deep.MidRow
import Derived.Deep.OwnRows
import Derived.Deep.RegionWith
import Derived.Deep.Slices
import Derived.Lib.QuietBelow
import Derived.Lib.SmallJoins
import Derived.WalkSmall
import Derived.Test.YtcblbdpdbggkbaaGreatSFnExactNetList3
set_option maxRecDepth 100000
set_option maxHeartbeats 16000000
set_option linter.unusedVariables false
set_option linter.unusedSectionVars false
set_option linter.unusedSimpArgs false
set_option linter.unusedVariables false
namespace Go.Proofs.YtcblbdpdbggkbaaGreat.K
open Go.RowKit Go.ChangeShapes Go.WideShapes Go.ChangeAt Go.Deep Go.Joins
def ArgP (w:World) (v:Value) (ps:List Pr):Prop:=
 (ps=[]/\∃x c,v=.slice x 0 c)\/
 ∃b o c,v=.slice (some ⟨b,o,none⟩) ps.length c/\0<ps.length/\ps.length<=maxLen/\b<w.heap.size/\
  ∀i,i<ps.length->w.cell? ⟨b,o+i * 2,none⟩=some (.int .i64 (pr ps i).1)/\w.cell? ⟨b,o+i * 2+1,none⟩=some (.int .i64 (pr ps i).2)
theorem ArgP.below {w w':World} {v:Value} {ps:List Pr} (h:ArgP w v ps) {B:Nat} (hb:Below B w w') (hB:w.heap.size<=B):ArgP w' v ps:=by
 rcases h with h|⟨b,o,c,e,h0,h1,h2,h3⟩
 ·exact .inl h
 ·exact .inr ⟨b,o,c,e,h0,h1,Nat.lt_of_lt_of_le h2 hb.size,fun i hi=>by
      rw[hb.cell (p:=⟨b,o+i * 2,none⟩) (by show b<B;omega),hb.cell (p:=⟨b,o+i * 2+1,none⟩) (by show b<B;omega)];exact h3 i hi⟩
theorem ArgP.form {w:World} {v:Value} {ps:List Pr} (h:ArgP w v ps):∃x c,v=.slice x ps.length c:=by
 rcases h with ⟨rfl,x,c,e⟩|⟨b,o,c,e,_⟩
 ·exact⟨x,c,e⟩
 ·exact⟨_,c,e⟩
theorem ArgP.len {w:World} {v:Value} {ps:List Pr} (h:ArgP w v ps):ps.length<=maxLen:=by
 rcases h with ⟨rfl,_⟩|⟨b,o,c,e,h0,h1,_⟩
 ·exact Nat.zero_le _
 ·exact h1
theorem ArgP.cells {w:World} {x:Option Addr} {n c:Nat} {ps:List Pr} (h:ArgP w (.slice x n c) ps):∀i,i<ps.length->∃b o,x=some ⟨b,o,none⟩/\b<w.heap.size/\w.cell? ⟨b,o+i * 2,none⟩=some (.int .i64 (pr ps i).1)/\w.cell? ⟨b,o+i * 2+1,none⟩=some (.int .i64 (pr ps i).2):=fun i hi=>by
 rcases h with ⟨rfl,_⟩|⟨b,o,c,e,h0,h1,h2,h3⟩
 ·cases hi
 ·exact⟨b,o,(Value.slice.inj e).1,h2,h3 i hi⟩
def szV (left:Int) (n:Nat):Int:=if left<n then -1 else left - n
theorem szV_in {left:Int} {n:Nat} (h:(n:Int)<=left):szV left n=left - n:=if_neg (by omega)
theorem szV_out {left:Int} {n:Nat} (h:left<n):szV left n= -1:=if_pos h
theorem open_pairs {H:Type} {enc:TypeId × Value->H} {w:World} {fuel:Nat} {u:Value} {y:DataW H × List MemPlace} (h:DataW.trod enc Tryz.prog w 0 (fun _=>true) true fuel 177 [u]=some y):∃ps,ArgP w u ps:=by
 have hC:Tryz.prog.cellsOf 320=2:=by kernel_rfl
 have hC0:Tryz.prog.cellsOf 3=1:=by kernel_rfl
 rcases open_slice Tryz.underlying177 h with ⟨e,_⟩|⟨a,len,cap,m,n,D,Pl,e,_,hl,hm,hmm,_,hi⟩
 ·simp at e
  exact⟨[],.inl ⟨rfl,_,_,e⟩⟩
 ·simp at e
  simp only[if_true]at hmm;subst e;rw[hC]at hi;have key:∀i,i<len->∃p:Pr,w.cell? (a.add (i * 2))=some (.int .i64 p.1)/\w.cell? (a.add (i * 2+1))=some (.int .i64 p.2):=fun i hlt=>by
   obtain⟨cs,hc,ht⟩:=hi i (by omega);obtain⟨y0,y1,k,_,hlen,h0,h1⟩:=trod_struct2 Tryz.underlying320 ht;obtain⟨_,hcl,hat⟩:=World.cells?_some hc;obtain⟨l0,l1,rfl⟩:∃l0 l1,cs=[l0,l1]:=by
    match cs,hcl with
    | [l0,l1],_=>exact⟨l0,l1,rfl⟩
   simp[hC0]at h0 h1;obtain⟨t,e0,_⟩:=DataW.trod_int Tryz.underlying3 h0;obtain⟨z,e1,_⟩:=DataW.trod_int Tryz.underlying3 h1;simp at e0 e1;have a0:=hat 0 (by omega);have a1:=hat 1 (by omega);rw[Go.Deep.add_add]at a0 a1;exact⟨(t,z),by simpa[e0]using a0,by simpa[e1]using a1⟩
  by_cases h0:len=0
  ·subst h0
   exact⟨[],.inl ⟨rfl,_,_,rfl⟩⟩
  obtain⟨b,o,sp⟩:=a;have f:∀i,∃p:Pr,i<len->w.cell? ((⟨b,o,sp⟩:Addr).add (i * 2))=some (.int .i64 p.1)/\w.cell? ((⟨b,o,sp⟩:Addr).add (i * 2+1))=some (.int .i64 p.2):=fun i=>by
   by_cases hlt:i<len
   ·obtain⟨p,hp⟩:=key i hlt
    exact⟨p,fun _=>hp⟩
   ·exact⟨(0,0),fun hc=>absurd hc hlt⟩
  have f':∃F:Nat->Pr,∀i,i<len->w.cell? ((⟨b,o,sp⟩:Addr).add (i * 2))=some (.int .i64 (F i).1)/\w.cell? ((⟨b,o,sp⟩:Addr).add (i * 2+1))=some (.int .i64 (F i).2):=⟨fun i=>Classical.choose (f i),fun i=>Classical.choose_spec (f i)⟩
  obtain⟨F,hF⟩:=f';have c0:=(hF 0 (by omega)).1;have hs:sp=none:=by simpa[Addr.add]using World.cell?_spot c0
  subst hs;have e:((List.range len).map F).length=len:=by simp
  refine⟨(List.range len).map F,.inr ⟨b,o,cap,by rw[e],by omega,by omega,by simpa[Addr.add]using World.block_lt_of_cell? _ _ c0,fun i hi=>?_⟩⟩;rw[e]at hi;have eg:pr ((List.range len).map F) i=F i:=by simp[pr,hi]
  rw[eg];have:=hF i hi;rw[addr_plus,addr_plus, <-Nat.add_assoc]at this;exact this
theorem szKnotS_at (w:World) (v:Value) (ps:List Pr) (left:Int) (h:ArgP w v ps) (h0:0<=left) (h1:left<=1048576):
  Calls Tryz.prog 281 #[v,.int .i64 left] w fun e w'=>e=.returned (.int .i64 (szV left ps.length))/\w=w':=by
 obtain⟨x,c,hx⟩:=h.form;have hl:=h.len;obtain⟨n,hn⟩:∃n,n=ps.length:=⟨_,rfl⟩
 rw[<-hn]at hx hl ⊢;subst hx;unfold maxLen at hl;clear h hn
 by_cases hle:left<n
 ·rw[szV_out hle]
  have h2:left - (n:Int)<0:=by omega
  go_enter Tryz.func281,Tryz.ntmps281;go_wp2;go_ret;exact⟨rfl,rfl⟩
 ·rw[szV_in (by omega)]
  have h2:¬left - (n:Int)<0:=by omega
  go_enter Tryz.func281,Tryz.ntmps281;go_wp2;go_ret;exact⟨rfl,rfl⟩
theorem szRank_at (w:World) (u:Value) (ps:List Pr) (all left:Int) (h:ArgP w u ps) (h0:0<=left) (h1:left<=1048576):
  Calls Tryz.prog 242 #[.agg #[u,.int .i64 all],.int .i64 left] w fun e w'=>e=.returned (.int .i64 (szV left ps.length))/\Below w.heap.size w w':=by
 have hA:=(Below.refl w.heap.size w).alloc lr_ (.cells #[u,.int .i64 all] 179);have K:=hd_ (szKnotS_at _ u ps left (h.below hA lr_) h0 h1);have HA:=hd_ hA;obtain⟨x,c,hx⟩:=h.form;obtain⟨n,hn⟩:∃n,n=ps.length:=⟨_,rfl⟩
 rw[<-hn]at hx K ⊢;subst hx;clear h hn hA
 by_cases hle:left<n
 ·rw[szV_out hle]at K ⊢
  go_enter Tryz.func242,Tryz.ntmps242
  go_wp2_with fail
  refine K.out.mono ?_;rintro e w1 ⟨rfl,rfl⟩;go_wp2;go_ret;exact⟨rfl,HA.out⟩
 ·rw[szV_in (by omega)]at K ⊢
  have h2:¬left - (n:Int)<0:=by omega
  go_enter Tryz.func242,Tryz.ntmps242
  go_wp2_with fail
  refine K.out.mono ?_;rintro e w1 ⟨rfl,rfl⟩;go_wp2;go_ret;exact⟨rfl,HA.out⟩
end Go.Proofs.YtcblbdpdbggkbaaGreat.K
namespace Go.Proofs.YtcblbdpdbggkbaaGreat.K
open Go.RowKit Go.Sort
theorem prs_zero (n:Nat):prs (List.replicate n (0,0))=List.replicate (n * 2) (.int .i64 0):=by
 induction n with
 |zero=>rfl
 |succ n ih=>rw[List.replicate_succ,prs_cons,ih,show (n+1) * 2=n * 2+1+1 by omega,List.replicate_succ,List.replicate_succ]
theorem made_pairs (n:Nat):(madeCells #[.int .i64 0,.int .i64 0] (n * 2)).toList=prs (List.replicate n (0,0)):=by
 rw[prs_zero];apply List.ext_getElem?;intro j
 by_cases hj:j<n * 2
 ·have h2:j % 2=0\/j % 2=1:=by omega
  rcases h2 with h|h<;>simp[madeCells,hj,h]
 ·simp[madeCells,hj]
theorem pair_make (n:Nat) (hn:n<=1048576):∀w,(Instr.makeSlice 42 (.int .i64 (n:Int)) (.int .i64 (n:Int))).run Tryz.prog w=.ok (.slice (some ⟨w.heap.size,0,none⟩) n n) (w.alloc (.cells (madeCells #[.int .i64 0,.int .i64 0] (n * 2)) 152)):=fun w=>by
 obtain⟨i0,hi,hz0,hz1,hz2⟩:=info_parts pair_info;have h:=run_make (P:=Tryz.prog) w 42 152 i0 (.agg #[.int .i64 0,.int .i64 0]) Tryz.underlying42 hi hz0 .i64 .i64 n n (by omega) (Int.le_refl _) (by rw[hz2];omega) (by omega);simp only[Int.toNat_natCast,hz1]at h;exact h
theorem prs_set2 (ps:List Pr) (k:Nat) (t z:Int) (h:k<ps.length):((prs ps).set (k * 2) (.int .i64 t)).set (k * 2+1) (.int .i64 z)=prs (ps.set k (t,z)):=by
 induction ps generalizing k with
 |nil=>cases h
 |cons p ps ih=>
  cases k with
  |zero=>rfl
  |succ k=>
   have:=ih k (by simpa using h);rw[List.set_cons_succ,prs_cons,prs_cons, <-this,show (k+1) * 2=k * 2+1+1 by omega];simp
theorem toKnot_at (w:World) (t z:Int):Calls Tryz.prog 300 #[.agg #[.int .i64 t,.int .i64 z]] w fun e w'=>e=.returned (.agg #[.int .i64 t,.int .i64 z])/\Below w.heap.size w w':=by
 go_enter Tryz.func300,Tryz.ntmps300;go_wp2;refine bodyPost_ret (v:=.agg #[.int .i64 t,.int .i64 z]) (by simp[results,Tryz.results300,go_sem]) rfl ⟨rfl,?_⟩;exact (((Below.refl _ _).alloc lr_ _).alloc (by simp) _).alloc (by simp;omega) _
theorem toKnotS_at (w:World) (v:Value) (ps:List Pr) (h:ArgP w v ps) (hn:ps.length<=1048576):
  Calls Tryz.prog 283 #[v] w fun e w'=>e=.returned (.slice (some ⟨w.heap.size,0,none⟩) ps.length ps.length)/\OwnP w' w.heap.size (.slice (some ⟨w.heap.size,0,none⟩) ps.length ps.length) ps/\Below w.heap.size w w':=by
 obtain⟨x,c,hx⟩:=h.form;obtain⟨n,hn'⟩:∃n,n=ps.length:=⟨_,rfl⟩
 have HZ:Hid (∀i,i<n->∃b o,x=some ⟨b,o,none⟩/\b<w.heap.size/\w.cell? ⟨b,o+i * 2,none⟩=some (.int .i64 (pr ps i).1)/\w.cell? ⟨b,o+i * 2+1,none⟩=some (.int .i64 (pr ps i).2)):=fun i hi=>by
  rw[hx]at h;exact h.cells i (by rw[<-hn'];exact hi)
 have HN:=hd_ hn';rw[<-hn']at hx hn ⊢;have hmk:=pair_make n hn;have own0:OwnP (w.alloc (.cells (madeCells #[.int .i64 0,.int .i64 0] (n * 2)) 152)) w.heap.size (.slice (some ⟨w.heap.size,0,none⟩) n n) (List.replicate n (0,0)):=by
  have:=World.ownsRow_lit (base:=w.heap.size) (e:=152) (size:=2) w (madeCells #[.int .i64 0,.int .i64 0] (n * 2)) n lr_ (by unfold maxLen;omega) (by rw[size_madeCells]);rw[made_pairs]at this;unfold OwnP;rw[List.length_replicate];exact this
 have O0:=hd_ own0;subst hx;clear h hn' own0;go_enter Tryz.func283,Tryz.ntmps283;go_wp2;go_loopw [4] (fun i wr=>∃(k:Nat) (ys:List Pr),k<=n/\i=.int .i64 k/\ys.length=n/\(∀i,i<k->pr ys i=pr ps i)/\OwnP wr w.heap.size (.slice (some ⟨w.heap.size,0,none⟩) n n) ys/\Below w.heap.size w wr) (fun i _=>n - (intOf i).toNat)
 case atStart=>exact⟨0,List.replicate n (0,0),Nat.zero_le _,rfl,by simp,fun _ h=>absurd h (Nat.not_lt_zero _),O0.out,(Below.refl _ _).alloc lr_ _⟩
 case round=>
  obtain⟨k,ys,hk,rfl,hy,hys,hown,hbl⟩:=hrel;have HY:=hd_ hy;have HYS:=hd_ hys;have HB:=hd_ hbl;have HO:=hd_ hown;clear hy hys hbl hown
  by_cases hlt:k<n
  ·obtain⟨b,o,rfl,hb,h1,h2⟩:=HZ.out k hlt
   rw[<-HB.out.cell (p:=⟨b,o+k * 2,none⟩) hb]at h1;rw[<-HB.out.cell (p:=⟨b,o+k * 2+1,none⟩) hb]at h2;obtain⟨y,hyk⟩:∃y,pr ps k=y:=⟨_,rfl⟩
   rw[hyk]at h1 h2;have HK:=hd_ hyk;obtain⟨t,z⟩:=y;simp only at h1 h2;have k0:(0:Int)<=(k:Int):=by omega
   have kn:(k:Int)<(n:Int):=by omega
   clear hyk
   go_wp2_with fail
   refine (toKnot_at wr t z).mono ?_;rintro e w1 ⟨rfl,hb1⟩;have ho:w1.ownsRow w.heap.size 152 2 (.slice (some ⟨w.heap.size,0,none⟩) n n) n (prs ys):=by have h:=HO.out.below hb1;unfold OwnP at h;rw[HY.out]at h;exact h
   have hl:=prs_len ys;rw[HY.out]at hl;obtain⟨u0,hc0⟩:∃u,w1.cell? ⟨w.heap.size,k * 2,none⟩=some u:=by
    rw[ho.cellAt (k * 2) (by omega)];exact⟨_,List.getElem?_eq_getElem (by omega)⟩
   obtain⟨u1,hc1⟩:∃u,w1.cell? ⟨w.heap.size,k * 2+1,none⟩=some u:=by
    rw[ho.cellAt (k * 2+1) (by omega)];exact⟨_,List.getElem?_eq_getElem (by omega)⟩
   have hf0:=ho.frozenAt (k * 2);have hf1:=ho.frozenAt (k * 2+1);have hs:=((ho.stored (k * 2) (.int .i64 t)).1.stored (k * 2+1) (.int .i64 z)).1;rw[prs_set2 ys k t z (by rw[HY.out];exact hlt)]at hs;have HS:=hd_ hs;have B1:=hd_ (HB.out.trans (hb1.mono HB.out.size));clear hs ho hl hb1 h1 h2;go_wp2;go_roundw
   case rel=>
    refine⟨k+1,ys.set k (t,z),by omega,by go_num,by simpa using HY.out,fun i hi=>?_,?_,(B1.out.setCell lr_ _).setCell lr_ _⟩
    ·by_cases e:i=k
     ·subst e
      rw[HK.out];simp[pr,HY.out,hlt]
     ·have e1:pr (ys.set k (t,z)) i=pr ys i:=by simp[pr,Ne.symm e]
      rw[e1];exact HYS.out i (by omega)
    ·unfold OwnP
     rw[List.length_set,HY.out];exact HS.out
   case measure=>simp[intOf];omega
  ·obtain rfl:k=n:=by omega
   have fin0:ys=ps:=by
    apply List.ext_getElem (by rw[HY.out,HN.out]);intro i h1 h2;have:=HYS.out i (by rw[<-HY.out];exact h1);simpa[pr,h1,h2]using this
   have fin:=hd_ fin0;clear fin0;go_wp2;go_ret;refine⟨rfl,?_,HB.out⟩;rw[<-fin.out];exact HO.out
theorem toRank_at (w:World) (u:Value) (ps:List Pr) (all:Int) (h:ArgP w u ps) (hn:ps.length<=1048576):
  Calls Tryz.prog 246 #[.agg #[u,.int .i64 all]] w fun e w'=>∃g,e=.returned (.agg #[.slice (some ⟨g,0,none⟩) ps.length ps.length,.int .i64 all])/\OwnP w' w.heap.size (.slice (some ⟨g,0,none⟩) ps.length ps.length) ps/\Below w.heap.size w w':=by
 obtain⟨W,hW⟩:∃W,W=((w.alloc (.cells #[u,.int .i64 all] 179)).alloc (.cells #[.slice none 0 0,.int .i64 0] 44)).alloc (.cells #[.slice none 0 0,.int .i64 0] 44):=⟨_,rfl⟩
 have hA:Below w.heap.size w W:=by rw[hW];exact (((Below.refl _ _).alloc lr_ _).alloc (by simp) _).alloc (by simp;omega) _
 have sW:W.heap.size=w.heap.size+3:=by rw[hW];simp
 have A:Box2 W w.heap.size 179 u (.int .i64 all):=by rw[hW];exact ((Box2.new w _ _ _).alloc _).alloc _
 have X:Box2 W (w.heap.size+1) 44 (.slice none 0 0) (.int .i64 0):=by
  rw[hW];have:=Box2.new (w.alloc (.cells #[u,.int .i64 all] 179)) 44 (.slice none 0 0) (.int .i64 0);rw[World.size_alloc]at this;exact this.alloc _
 have Y:Box2 W (w.heap.size+1+1) 44 (.slice none 0 0) (.int .i64 0):=by
  rw[hW];have:=Box2.new ((w.alloc (.cells #[u,.int .i64 all] 179)).alloc (.cells #[.slice none 0 0,.int .i64 0] 44)) 44 (.slice none 0 0) (.int .i64 0);rw[World.size_alloc,World.size_alloc]at this;exact this
 have K:=hd_ (toKnotS_at W u ps (h.below hA lr_) hn);obtain⟨x,c,hx⟩:=h.form;obtain⟨n,hn'⟩:∃n,n=ps.length:=⟨_,rfl⟩
 rw[<-hn']at hx K hn ⊢;subst hx;have HA:=hd_ hA;have HS:=hd_ sW;clear h hn' hA sW;go_enter Tryz.func246,Tryz.ntmps246
 go_wp2_with fail
 rw[<-hW];clear hW;refine K.out.mono ?_;rintro e w1 ⟨rfl,ho,hb1⟩;have A1:=A.later hb1;have X1:=X.later hb1;have Y1:=Y.later hb1;have L1:=hd_ (HA.out.trans (hb1.mono HA.out.size));rw[HS.out]at ho ⊢;clear hb1 A X Y
 -- the copy,filled field by field
 have gy:=(grownBy_setCell w1 ⟨w.heap.size+1+1,0,none⟩ (.slice (some ⟨w.heap.size+3,0,none⟩) n n)).trans (grownBy_setCell _ ⟨w.heap.size+1+1,1,none⟩ (.int .i64 all));have Yb:=Y1.set (.slice (some ⟨w.heap.size+3,0,none⟩) n n) (.int .i64 all);have Xb:=X1.kept gy (by simp);have o1:=ho.set2 (b:=w.heap.size+1+1) (Y1.not_row (by decide) ho) (.slice (some ⟨w.heap.size+3,0,none⟩) n n) (.int .i64 all)
 have o2:=hd_ ((o1.set2 (b:=w.heap.size+1) (Xb.not_row (by decide) o1) (.slice (some ⟨w.heap.size+3,0,none⟩) n n) (.int .i64 all)).base (B':=w.heap.size) (by omega));have L2:=hd_ (below_set2 (b:=w.heap.size+1) (below_set2 (b:=w.heap.size+1+1) L1.out (by omega) (.slice (some ⟨w.heap.size+3,0,none⟩) n n) (.int .i64 all)) (by omega) (.slice (some ⟨w.heap.size+3,0,none⟩) n n) (.int .i64 all))
 have Xc:=Xb.set (.slice (some ⟨w.heap.size+3,0,none⟩) n n) (.int .i64 all);have a0:=A1.cell0;have a1:=A1.cell1;have y0:=Y1.cell0;have y1:=Y1.cell1;have yf:=Y1.free;have yb0:=Yb.cell0;have yb1:=Yb.cell1;have xb0:=Xb.cell0;have xb1:=Xb.cell1;have xbf:=Xb.free;have xc0:=Xc.cell0;have xc1:=Xc.cell1;clear A1 X1 Y1 gy Yb Xb Xc o1 ho K;go_wp2
 exact bodyPost_ret (v:=.agg #[.slice (some ⟨w.heap.size+3,0,none⟩) n n,.int .i64 all]) (by simp[results,Tryz.results246,go_sem,xc0,xc1]) rfl ⟨_,rfl,o2.out,L2.out⟩
theorem eqKnot_same (w:World) (t z:Int):Calls Tryz.prog 238 #[.agg #[.int .i64 t,.int .i64 z],.agg #[.int .i64 t,.int .i64 z]] w fun e w'=>e=.returned (.bool true)/\Below w.heap.size w w':=by
 have e1:(t != t)=false:=by simp
 have e2:(z != z)=false:=by simp
 have e3:decide (t=t)=true:=by simp
 have e4:decide (z=z)=true:=by simp
 go_enter Tryz.func238,Tryz.ntmps238;go_wp2;go_ret;exact⟨rfl,((Below.refl _ _).alloc lr_ _).alloc (by simp) _⟩
theorem eqKnotS_in (w:World) (x:Option Addr) (c:Nat) (y:Option Addr) (d n:Nat) (ps:List Pr) (hl:ps.length=n) (hp:Prs w (.slice x n c) ps) (hq:Prs w (.slice y n d) ps) (hn:n<=1048576):
  Calls Tryz.prog 192 #[.slice x n c,.slice y n d] w fun e w'=>e=.returned (.bool true)/\Below w.heap.size w w':=by
 have PC:=hd_ hp.cells;have QC:=hd_ hq.cells;have HL:=hd_ hl;have e3:((n:Int) != (n:Int))=false:=by simp
 have e6:decide ((n:Int)=(n:Int))=true:=by simp
 clear hp hq hl;go_enter Tryz.func192,Tryz.ntmps192;go_wp2;go_loopw [5] (fun i wr=>∃k:Nat,k<=n/\i=.int .i64 k/\Below w.heap.size w wr) (fun i _=>n - (intOf i).toNat)
 case atStart=>exact⟨0,Nat.zero_le _,rfl,Below.refl _ _⟩
 case round=>
  obtain⟨k,hk,rfl,hb0⟩:=hrel;have BB:=hd_ hb0;clear hb0
  by_cases hlt:k<n
  ·obtain⟨b,o,rfl,hb,h1,h2⟩:=PC.out k (by rw[HL.out];exact hlt)
   obtain⟨b',o',rfl,hb',h3,h4⟩:=QC.out k (by rw[HL.out];exact hlt);rw[<-BB.out.cell (p:=⟨b,o+k * 2,none⟩) hb]at h1;rw[<-BB.out.cell (p:=⟨b,o+k * 2+1,none⟩) hb]at h2;rw[<-BB.out.cell (p:=⟨b',o'+k * 2,none⟩) hb']at h3;rw[<-BB.out.cell (p:=⟨b',o'+k * 2+1,none⟩) hb']at h4;generalize pr ps k=q at h1 h2 h3 h4;obtain⟨t,z⟩:=q;have k0:(0:Int)<=(k:Int):=by omega
   have k1:(k:Int)<(n:Int):=by omega
   have KE:=hd_ (fun W=>eqKnot_same W t z);go_wp2
   go_region_with (first
        |(go_at_call 238;refine (KE.out _).mono ?_;rintro e w1 ⟨rfl,hb1⟩))
   all_goals
    have B1:=hd_ ((BB.out.trans (Below.drew (Below.refl _ _))).trans (hb1.mono BB.out.size));clear hb1;go_wp2;go_roundw
    case rel=>exact⟨k+1,by omega,by go_num,B1.out⟩
    case measure=>simp[intOf];omega
  ·obtain rfl:k=n:=by omega
   go_wp2;go_ret;exact⟨by first|rfl|simp,BB.out⟩
theorem eqKnotS_same (w:World) (u v:Value) (ps:List Pr) (hp:Prs w u ps) (hq:Prs w v ps) (hn:ps.length<=1048576):
  Calls Tryz.prog 192 #[u,v] w fun e w'=>e=.returned (.bool true)/\Below w.heap.size w w':=by
 obtain⟨x,c,rfl,_,_⟩:=hp.form;obtain⟨y,d,rfl,_,_⟩:=hq.form;exact eqKnotS_in w x c y d _ ps rfl hp hq hn
theorem eqRank_same (w:World) (u v:Value) (ps:List Pr) (all:Int) (hp:Prs w u ps) (hq:Prs w v ps) (hn:ps.length<=1048576):
  Calls Tryz.prog 138 #[.agg #[u,.int .i64 all],.agg #[v,.int .i64 all]] w fun e w'=>e=.returned (.bool true)/\Below w.heap.size w w':=by
 obtain⟨W,hW⟩:∃W,W=(w.alloc (.cells #[u,.int .i64 all] 44)).alloc (.cells #[v,.int .i64 all] 44):=⟨_,rfl⟩
 have B0:Below w.heap.size w W:=by rw[hW];exact ((Below.refl _ _).alloc lr_ _).alloc (by simp) _
 have X:Box2 W w.heap.size 44 u (.int .i64 all):=by rw[hW];exact (Box2.new w _ _ _).alloc _
 have Y:Box2 W (w.heap.size+1) 44 v (.int .i64 all):=by rw[hW];have:=Box2.new (w.alloc (.cells #[u,.int .i64 all] 44)) 44 v (.int .i64 all);rwa[World.size_alloc]at this
 have K:=hd_ (eqKnotS_same W u v ps (hp.below B0 lr_) (hq.below B0 lr_) hn);obtain⟨x,c,rfl,_,_⟩:=hp.form;obtain⟨y,d,rfl,_,_⟩:=hq.form;obtain⟨n,hn'⟩:∃n,n=ps.length:=⟨_,rfl⟩
 rw[<-hn']at K X Y hW ⊢;have BB:=hd_ B0;have e2:(all != all)=false:=by simp
 have e5:decide (all=all)=true:=by simp
 clear hp hq hn' B0;go_enter Tryz.func138,Tryz.ntmps138
 go_wp2_with fail
 rw[<-hW];clear hW;refine K.out.mono ?_;rintro e w1 ⟨rfl,hb1⟩;have X1:=X.later hb1;have Y1:=Y.later hb1;have x1:=X1.cell1;have y1:=Y1.cell1;go_wp2;go_ret;exact⟨by first|rfl|simp,BB.out.trans (hb1.mono BB.out.size)⟩
def mkP (k:Int) (n:Nat):List Pr:=(List.range n).map fun (i:Nat)=>(k+2 * (i:Int),k+2 * (i:Int)+1)
theorem mkP_len (k:Int) (n:Nat):(mkP k n).length=n:=by simp[mkP]
theorem mark_setP (k:Int) (ps:List Pr) (j:Nat) (hj:j<ps.length):
  (mkP k j++ps.drop j).set j (k+2 * (j:Int),k+2 * (j:Int)+1)=mkP k (j+1)++ps.drop (j+1):=by
 apply List.ext_getElem?;intro i;simp only[List.getElem?_set,List.length_append,mkP_len,List.length_drop];rcases Nat.lt_trichotomy i j with h|h|h
 ·rw[if_neg (by omega),List.getElem?_append_left (by rw[mkP_len];exact h),List.getElem?_append_left (by rw[mkP_len];omega)]
  simp[mkP,h,show i<j+1 by omega]
 ·subst h
  rw[if_pos rfl,if_pos (by omega),List.getElem?_append_left (by rw[mkP_len];omega)];simp[mkP]
 ·rw[if_neg (by omega),List.getElem?_append_right (by rw[mkP_len];omega),List.getElem?_append_right (by rw[mkP_len];omega),mkP_len,mkP_len]
  simp only[List.getElem?_drop];rw[show j+(i - j)=i by omega,show j+1+(i - (j+1))=i by omega]
theorem markKnotS_nil (w:World) (k:Int):Calls Tryz.prog 131 #[.slice none 0 0,.int .i64 k] w fun e w'=>e=.returned (.int .i64 k)/\w=w':=by
 go_enter Tryz.func131,Tryz.ntmps131;go_wp2;refine wp_loop_rounds 1 ?_;rw[rounds_succ];go_wp2;go_ret;exact⟨rfl,rfl⟩
theorem markKnotS_in (w:World) (B g c n:Nat) (ps:List Pr) (k:Int) (hl:ps.length=n) (hn:n<=100000000) (hk:0<=k) (hk':k<=1000000000000)
  (h:w.ownsRow B 152 2 (.slice (some ⟨g,0,none⟩) n c) n (prs ps)):
  Calls Tryz.prog 131 #[.slice (some ⟨g,0,none⟩) n c,.int .i64 k] w fun e w'=>
   e=.returned (.int .i64 (k+2 * (n:Int)))/\w'.ownsRow B 152 2 (.slice (some ⟨g,0,none⟩) n c) n (prs (mkP k n))/\w.grownBy w' (some g):=by
 have HL:=hd_ hl;have H:=hd_ h;clear hl h;go_enter Tryz.func131,Tryz.ntmps131;go_wp2;go_loopw [1,5] (fun q i wr=>∃j:Nat,j<=n/\i=.int .i64 j/\q=.int .i64 (k+2 * (j:Int))/\wr.ownsRow B 152 2 (.slice (some ⟨g,0,none⟩) n c) n (prs (mkP k j++ps.drop j))/\w.grownBy wr (some g)) (fun _ i _=>n - (intOf i).toNat)
 case atStart=>exact⟨0,Nat.zero_le _,rfl,by go_num,by simpa[mkP]using H.out,grownBy_refl _ _⟩
 case round=>
  obtain⟨j,hj,rfl,rfl,hown,hg⟩:=hrel;have HO:=hd_ hown;have HG:=hd_ hg;clear hown hg
  by_cases hlt:j<n
  ·have hl2:(prs (mkP k j++ps.drop j)).length=n * 2:=by rw[prs_len];simp[mkP_len,HL.out];omega
   obtain⟨x0,hc0⟩:∃x,wr.cell? ⟨g,j * 2,none⟩=some x:=by
    rw[HO.out.cellAt (j * 2) (by omega)];exact⟨_,List.getElem?_eq_getElem (by omega)⟩
   obtain⟨x1,hc1⟩:∃x,wr.cell? ⟨g,j * 2+1,none⟩=some x:=by
    rw[HO.out.cellAt (j * 2+1) (by omega)];exact⟨_,List.getElem?_eq_getElem (by omega)⟩
   have hf0:=HO.out.frozenAt (j * 2);have hf1:=HO.out.frozenAt (j * 2+1);have s1:=HO.out.stored (j * 2) (.int .i64 (k+2 * (j:Int)));have s2:=s1.1.stored (j * 2+1) (.int .i64 (k+2 * (j:Int)+1));rw[prs_set2 _ j _ _ (by simp[mkP_len,HL.out];omega),mark_setP k ps j (by rw[HL.out];exact hlt)]at s2;have G:=hd_ (grownBy_trans HG.out (grownBy_trans s1.2 s2.2));have HS:=hd_ s2.1
   have j0:(0:Int)<=(j:Int):=by omega
   have jn:(j:Int)<(n:Int):=by omega
   clear s1 s2 hl2;go_wp2;go_roundw
   case rel=>exact⟨j+1,by omega,by go_num,by rw[show ((j+1:Nat):Int)=(j:Int)+1 by omega];congr 1;omega,HS.out,G.out⟩
   case measure=>simp[intOf];omega
  ·obtain rfl:j=n:=by omega
   go_wp2;go_ret;have h0:ps.drop j=[]:=List.drop_of_length_le (by rw[HL.out];exact Nat.le_refl _);have ho:=HO.out;rw[h0,List.append_nil]at ho;exact⟨rfl,ho,HG.out⟩
theorem markKnotS_own (w:World) (B:Nat) (v:Value) (ps:List Pr) (k:Int) (h:OwnP w B v ps) (hn:ps.length<=100000000) (hk:0<=k) (hk':k<=1000000000000):
  Calls Tryz.prog 131 #[v,.int .i64 k] w fun e w'=>e=.returned (.int .i64 (k+2 * (ps.length:Int)))/\OwnP w' B v (mkP k ps.length)/\w.grownBy w' v.ownBlock:=by
 by_cases h0:v=.slice none 0 0
 ·subst h0
  have hz:ps=[]:=by
   rcases h.2 with ⟨_,e⟩|⟨g,cap,cur,e,_⟩
   ·exact List.eq_nil_of_length_eq_zero e
   ·cases e
  subst hz;exact (markKnotS_nil w k).mono fun e w' ⟨he,hw⟩=>⟨by rw[he];simp,by subst hw;exact OwnP.nil _ _,by subst hw;exact grownBy_refl _ _⟩
 ·rcases h.2 with ⟨e,_⟩|⟨g,cap,cur,e,hb,hh,hc,hm,hs,ht⟩
  ·exact absurd e h0
  ·subst e
   refine (markKnotS_in w B g cap ps.length ps k rfl hn hk hk' h).mono fun e w' ⟨he,ho,hg⟩=>⟨he,?_,hg⟩
   unfold OwnP;rw[mkP_len];exact ho
end Go.Proofs.YtcblbdpdbggkbaaGreat.K
set_option linter.unusedVariables false
namespace Go.Proofs.YtcblbdpdbggkbaaGreat
open Go.RowKit Go.Sort
structure ArgS (w:World) (V:SV) (s:Sm):Prop where
 r:ArgR w V.r s.rs
 f:ArgI w V.f s.zs
 t:T.ArgP w V.t s.ps
 k:K.ArgP w V.k s.ks
theorem ArgS.below {w w':World} {V:SV} {s:Sm} (h:ArgS w V s) {B:Nat} (hb:Below B w w') (hB:w.heap.size<=B):ArgS w' V s:=⟨h.r.below hb hB,h.f.below hb hB,h.t.below hb hB,h.k.below hb hB⟩
def lenS (s:Sm):Nat:=(s.rs.length+ahead s.rs s.rs.length)+s.zs.length+s.ps.length+s.ks.length
structure LenS (s:Sm):Prop where
 r:Lens s.rs
 f:s.zs.length<=1048576
 t:s.ps.length<=1048576
 k:s.ks.length<=1048576
theorem LenS.arg {s:Sm} (h:lenS s<=1048576):LenS s:=by
 unfold lenS at h;exact⟨Lens.arg (by omega),by omega,by omega,by omega⟩
theorem szSum_at (w:World) (V:SV) (s:Sm) (left:Int) (h1:ArgS w V s) (l0:0<=left) (l1:left<=1048576):
  Calls Tryz.prog 193 #[.agg #[.slice V.xr V.nr V.cr,.slice V.xf V.nf V.cf,.slice V.xt V.nt V.ct,.int .i64 s.lo,.int .i64 s.al,.slice V.xk V.nk V.ck,.int .i64 s.ka],.int .i64 left] w fun e w'=>e=.returned (.int .i64 (if left<(lenS s:Int)then -1 else left - (lenS s:Int)))/\Below w.heap.size w w':=by
 obtain⟨n1,e1⟩:∃n,n=s.rs.length+ahead s.rs s.rs.length:=⟨_,rfl⟩
 obtain⟨n2,e2⟩:∃n,n=s.zs.length:=⟨_,rfl⟩
 obtain⟨n3,e3⟩:∃n,n=s.ps.length:=⟨_,rfl⟩
 obtain⟨n4,e4⟩:∃n,n=s.ks.length:=⟨_,rfl⟩
 have L:lenS s=n1+n2+n3+n4:=by rw[e1,e2,e3,e4];rfl
 rw[L];clear L;have E1:=hd_ e1;have E2:=hd_ e2;have E3:=hd_ e3;have E4:=hd_ e4;clear e1 e2 e3 e4;have hA:=(Below.refl w.heap.size w).alloc lr_ (.cells #[.slice V.xr V.nr V.cr,.slice V.xf V.nf V.cf,.slice V.xt V.nt V.ct,.int .i64 s.lo,.int .i64 s.al,.slice V.xk V.nk V.ck,.int .i64 s.ka] 181)
 have X:=Box7.new w 181 (.slice V.xr V.nr V.cr) (.slice V.xf V.nf V.cf) (.slice V.xt V.nt V.ct) (.int .i64 s.lo) (.int .i64 s.al) (.slice V.xk V.nk V.ck) (.int .i64 s.ka);obtain⟨ax0,ax1,ax2,ax3,ax4,ax5,ax6⟩:=(X).cells
 obtain⟨W0,hW⟩:∃W,W=w.alloc (.cells #[.slice V.xr V.nr V.cr,.slice V.xf V.nf V.cf,.slice V.xt V.nt V.ct,.int .i64 s.lo,.int .i64 s.al,.slice V.xk V.nk V.ck,.int .i64 s.ka] 181):=⟨_,rfl⟩
 rw[<-hW]at hA X;have B:=hd_ hA;have H1:=hd_ h1;clear hA h1;go_enter Tryz.func193,Tryz.ntmps193
 go_wp2_with fail
 rw[<-hW];clear hW ax0 ax1 ax2 ax3 ax4 ax5 ax6;have K1:=szRough_at W0 (.slice V.xr V.nr V.cr) s.rs (left) (H1.out.below B.out lr_).r (by omega) (by omega);rw[<-E1.out]at K1
 by_cases c1:(left:Int)<(n1:Int)
 ·rw[szV_out c1]at K1
  refine (K1).mono ?_;rintro e w1 ⟨rfl,hb⟩;replace X:=X.later hb;replace B:=hd_ (B.out.trans (hb.mono B.out.size));clear hb;go_wp2;go_ret;exact⟨by first|rfl|exact congrArg (fun z=>Ending.returned (Value.int .i64 z)) (if_pos (show left<((n1+n2+n3+n4:Nat):Int) by omega)).symm,B.out⟩
 rw[szV_in (by omega)]at K1;have nz1:¬(left:Int) - (n1:Int)<0:=by omega
 refine (K1).mono ?_;rintro e w1 ⟨rfl,hb⟩;clear K1 c1;replace X:=X.later hb;replace B:=hd_ (B.out.trans (hb.mono B.out.size));clear hb;obtain⟨cx0,cx1,cx2,cx3,cx4,cx5,cx6⟩:=(X).cells;have K1:=szFew_at w1 (.slice V.xf V.nf V.cf) s.zs (left - (n1:Int)) (H1.out.below B.out lr_).f (by omega) (by omega);rw[<-E2.out]at K1
 by_cases c2:(left - (n1:Int):Int)<(n2:Int)
 ·rw[szV_out c2]at K1
  go_wp2_with fail
  refine (K1).mono ?_;rintro e w2 ⟨rfl,hb⟩;clear cx0 cx1 cx2 cx3 cx4 cx5 cx6;replace X:=X.later hb;replace B:=hd_ (B.out.trans (hb.mono B.out.size));clear hb;go_wp2;go_ret;exact⟨by first|rfl|exact congrArg (fun z=>Ending.returned (Value.int .i64 z)) (if_pos (show left<((n1+n2+n3+n4:Nat):Int) by omega)).symm,B.out⟩
 rw[szV_in (by omega)]at K1;have nz2:¬(left - (n1:Int):Int) - (n2:Int)<0:=by omega
 go_wp2_with fail
 refine (K1).mono ?_;rintro e w2 ⟨rfl,hb⟩;clear K1 c2;clear cx0 cx1 cx2 cx3 cx4 cx5 cx6;replace X:=X.later hb;replace B:=hd_ (B.out.trans (hb.mono B.out.size));clear hb;obtain⟨cx0,cx1,cx2,cx3,cx4,cx5,cx6⟩:=(X).cells;have K1:=T.szTop_at w2 (.slice V.xt V.nt V.ct) s.ps s.lo s.al (left - (n1:Int) - (n2:Int)) (H1.out.below B.out lr_).t (by omega) (by omega);rw[<-E3.out]at K1
 by_cases c3:(left - (n1:Int) - (n2:Int):Int)<(n3:Int)
 ·rw[T.szV_out c3]at K1
  go_wp2_with fail
  refine (K1).mono ?_;rintro e w3 ⟨rfl,hb⟩;clear cx0 cx1 cx2 cx3 cx4 cx5 cx6;replace X:=X.later hb;replace B:=hd_ (B.out.trans (hb.mono B.out.size));clear hb;go_wp2;go_ret;exact⟨by first|rfl|exact congrArg (fun z=>Ending.returned (Value.int .i64 z)) (if_pos (show left<((n1+n2+n3+n4:Nat):Int) by omega)).symm,B.out⟩
 rw[T.szV_in (by omega)]at K1;have nz3:¬(left - (n1:Int) - (n2:Int):Int) - (n3:Int)<0:=by omega
 go_wp2_with fail
 refine (K1).mono ?_;rintro e w3 ⟨rfl,hb⟩;clear K1 c3;clear cx0 cx1 cx2 cx3 cx4 cx5 cx6;replace X:=X.later hb;replace B:=hd_ (B.out.trans (hb.mono B.out.size));clear hb;obtain⟨cx0,cx1,cx2,cx3,cx4,cx5,cx6⟩:=(X).cells;have K1:=K.szRank_at w3 (.slice V.xk V.nk V.ck) s.ks s.ka (left - (n1:Int) - (n2:Int) - (n3:Int)) (H1.out.below B.out lr_).k (by omega) (by omega);rw[<-E4.out]at K1
 by_cases c4:(left - (n1:Int) - (n2:Int) - (n3:Int):Int)<(n4:Int)
 ·rw[K.szV_out c4]at K1
  go_wp2_with fail
  refine (K1).mono ?_;rintro e w4 ⟨rfl,hb⟩;clear cx0 cx1 cx2 cx3 cx4 cx5 cx6;replace X:=X.later hb;replace B:=hd_ (B.out.trans (hb.mono B.out.size));clear hb;go_wp2;go_ret;exact⟨by first|rfl|exact congrArg (fun z=>Ending.returned (Value.int .i64 z)) (if_pos (show left<((n1+n2+n3+n4:Nat):Int) by omega)).symm,B.out⟩
 rw[K.szV_in (by omega)]at K1;have nz4:¬(left - (n1:Int) - (n2:Int) - (n3:Int):Int) - (n4:Int)<0:=by omega
 go_wp2_with fail
 refine (K1).mono ?_;rintro e w4 ⟨rfl,hb⟩;clear K1 c4;clear cx0 cx1 cx2 cx3 cx4 cx5 cx6;replace X:=X.later hb;replace B:=hd_ (B.out.trans (hb.mono B.out.size));clear hb;go_wp2;go_ret
 exact⟨by first|rfl|exact congrArg (fun z=>Ending.returned (Value.int .i64 z)) (by omega)|exact congrArg (fun z=>Ending.returned (Value.int .i64 z)) (show left - (n1:Int) - (n2:Int) - (n3:Int) - (n4:Int)=if left<((n1+n2+n3+n4:Nat):Int)then -1 else left - ((n1+n2+n3+n4:Nat):Int) by rw[if_neg (by omega)];omega),B.out⟩
theorem toSum_at (w:World) (V:SV) (s:Sm) (h1:ArgS w V s) (hn:LenS s):
  Calls Tryz.prog 194 #[.agg #[.slice V.xr V.nr V.cr,.slice V.xf V.nf V.cf,.slice V.xt V.nt V.ct,.int .i64 s.lo,.int .i64 s.al,.slice V.xk V.nk V.ck,.int .i64 s.ka]] w fun e w'=>∃U,e=.returned (.agg #[.slice U.xr U.nr U.cr,.slice U.xf U.nf U.cf,.slice U.xt U.nt U.ct,.int .i64 s.lo,.int .i64 s.al,.slice U.xk U.nk U.ck,.int .i64 s.ka])/\OwnS w' w.heap.size w'.heap.size U s/\Below w.heap.size w w':=by
 have hA:=(((Below.refl w.heap.size w).alloc lr_ (.cells #[.slice V.xr V.nr V.cr,.slice V.xf V.nf V.cf,.slice V.xt V.nt V.ct,.int .i64 s.lo,.int .i64 s.al,.slice V.xk V.nk V.ck,.int .i64 s.ka] 181)).alloc (by simp) (.cells #[.slice none 0 0,.slice none 0 0,.slice none 0 0,.int .i64 0,.int .i64 0,.slice none 0 0,.int .i64 0] 46)).alloc (by simp;omega) (.cells #[.slice none 0 0,.slice none 0 0,.slice none 0 0,.int .i64 0,.int .i64 0,.slice none 0 0,.int .i64 0] 46)
 have XA:=((Box7.new w 181 (.slice V.xr V.nr V.cr) (.slice V.xf V.nf V.cf) (.slice V.xt V.nt V.ct) (.int .i64 s.lo) (.int .i64 s.al) (.slice V.xk V.nk V.ck) (.int .i64 s.ka)).alloc (.cells #[.slice none 0 0,.slice none 0 0,.slice none 0 0,.int .i64 0,.int .i64 0,.slice none 0 0,.int .i64 0] 46)).alloc (.cells #[.slice none 0 0,.slice none 0 0,.slice none 0 0,.int .i64 0,.int .i64 0,.slice none 0 0,.int .i64 0] 46)
 have R:=(Box7.new (w.alloc (.cells #[.slice V.xr V.nr V.cr,.slice V.xf V.nf V.cf,.slice V.xt V.nt V.ct,.int .i64 s.lo,.int .i64 s.al,.slice V.xk V.nk V.ck,.int .i64 s.ka] 181)) 46 (.slice none 0 0) (.slice none 0 0) (.slice none 0 0) (.int .i64 0) (.int .i64 0) (.slice none 0 0) (.int .i64 0)).alloc (.cells #[.slice none 0 0,.slice none 0 0,.slice none 0 0,.int .i64 0,.int .i64 0,.slice none 0 0,.int .i64 0] 46)
 rw[World.size_alloc]at R
 have X6:=Box7.new ((w.alloc (.cells #[.slice V.xr V.nr V.cr,.slice V.xf V.nf V.cf,.slice V.xt V.nt V.ct,.int .i64 s.lo,.int .i64 s.al,.slice V.xk V.nk V.ck,.int .i64 s.ka] 181)).alloc (.cells #[.slice none 0 0,.slice none 0 0,.slice none 0 0,.int .i64 0,.int .i64 0,.slice none 0 0,.int .i64 0] 46)) 46 (.slice none 0 0) (.slice none 0 0) (.slice none 0 0) (.int .i64 0) (.int .i64 0) (.slice none 0 0) (.int .i64 0)
 rw[World.size_alloc,World.size_alloc]at X6;obtain⟨axa0,axa1,axa2,axa3,axa4,axa5,axa6⟩:=(XA).cells;obtain⟨b6,hb6⟩:∃b,b=w.heap.size+1+1:=⟨_,rfl⟩
 rw[<-hb6]at X6;have L6:w.heap.size+1<b6:=by omega
 obtain⟨W0,hW⟩:∃W,W=((w.alloc (.cells #[.slice V.xr V.nr V.cr,.slice V.xf V.nf V.cf,.slice V.xt V.nt V.ct,.int .i64 s.lo,.int .i64 s.al,.slice V.xk V.nk V.ck,.int .i64 s.ka] 181)).alloc (.cells #[.slice none 0 0,.slice none 0 0,.slice none 0 0,.int .i64 0,.int .i64 0,.slice none 0 0,.int .i64 0] 46)).alloc (.cells #[.slice none 0 0,.slice none 0 0,.slice none 0 0,.int .i64 0,.int .i64 0,.slice none 0 0,.int .i64 0] 46):=⟨_,rfl⟩
 rw[<-hW]at hA XA R X6;have B:=hd_ hA;have H1:=hd_ h1;have LN:=hd_ hn;clear hA h1 hn;go_enter Tryz.func194,Tryz.ntmps194
 go_wp2_with fail
 rw[<-hW, <-hb6];clear hW hb6 axa0 axa1 axa2 axa3 axa4 axa5 axa6;have Q:=(H1.out.below B.out lr_)
 have K1:=toRough_own W0 (.slice V.xr V.nr V.cr) s.rs Q.r LN.out.r.len LN.out.r.row;clear Q;refine (K1).mono ?_;rintro e w1 ⟨g0,rfl,ho,hb⟩;obtain⟨m0,hm⟩:∃m,m=(s.rs).length:=⟨_,rfl⟩
 rw[<-hm]at ho ⊢;clear hm K1;have M0:=hd_ B.out.size;have N0:=hd_ hb.size;replace XA:=XA.later hb;replace R:=R.later hb;replace X6:=X6.later hb;replace B:=hd_ (B.out.trans (hb.mono B.out.size));have O0:=hd_ (ho);clear hb;obtain⟨W1,hW⟩:∃W,W=(w1.setCell ⟨b6,0,none⟩ (.slice (some ⟨g0,0,none⟩) m0 m0)):=⟨_,rfl⟩
 obtain⟨ax60,ax61,ax62,ax63,ax64,ax65,ax66⟩:=(X6).cells;have frx6:=X6.free;replace B:=hd_ (B.out);replace XA:=XA.kept (grownBy_setCell _ ⟨b6,0,none⟩ (.slice (some ⟨g0,0,none⟩) m0 m0)) (by simp;omega);replace R:=R.kept (grownBy_setCell _ ⟨b6,0,none⟩ (.slice (some ⟨g0,0,none⟩) m0 m0)) (by simp;omega)
 replace B:=hd_ (B.out.setCell (p:=⟨b6,0,none⟩) (show w.heap.size<=b6 by omega) (.slice (some ⟨g0,0,none⟩) m0 m0));replace O0:=hd_ (O0.out.cell7 X6 0 (.slice (some ⟨g0,0,none⟩) m0 m0));replace X6:=X6.set0 (.slice (some ⟨g0,0,none⟩) m0 m0);obtain⟨bxa0,bxa1,bxa2,bxa3,bxa4,bxa5,bxa6⟩:=(XA).cells;rw[<-hW]at XA;rw[<-hW]at R;rw[<-hW]at X6;rw[<-hW]at B;rw[<-hW]at O0
 go_wp2_with fail
 rw[<-hW];clear hW ax60 ax61 ax62 ax63 ax64 ax65 ax66 frx6 bxa0 bxa1 bxa2 bxa3 bxa4 bxa5 bxa6;clear ho;have Q:=(H1.out.below B.out lr_)
 have K1:=toFew_at W1 (.slice V.xf V.nf V.cf) s.zs Q.f LN.out.f;clear Q
 go_wp2_with fail
 refine (K1).mono ?_;rintro e w2 ⟨g1,rfl,ho,hb⟩;obtain⟨m1,hm⟩:∃m,m=(s.zs).length:=⟨_,rfl⟩
 rw[<-hm]at ho ⊢;clear hm K1;have M1:=hd_ B.out.size;have T1:=hd_ O0.out.top;replace XA:=XA.later hb;replace R:=R.later hb;replace X6:=X6.later hb;replace B:=hd_ (B.out.trans (hb.mono B.out.size));replace O0:=hd_ (O0.out.below hb);have O1:=hd_ (ho);clear hb;obtain⟨W2,hW⟩:∃W,W=(w2.setCell ⟨b6,1,none⟩ (.slice (some ⟨g1,0,none⟩) m1 m1)):=⟨_,rfl⟩
 obtain⟨ax60,ax61,ax62,ax63,ax64,ax65,ax66⟩:=(X6).cells;have frx6:=X6.free;replace B:=hd_ (B.out);replace XA:=XA.kept (grownBy_setCell _ ⟨b6,1,none⟩ (.slice (some ⟨g1,0,none⟩) m1 m1)) (by simp;omega);replace R:=R.kept (grownBy_setCell _ ⟨b6,1,none⟩ (.slice (some ⟨g1,0,none⟩) m1 m1)) (by simp;omega)
 replace B:=hd_ (B.out.setCell (p:=⟨b6,1,none⟩) (show w.heap.size<=b6 by omega) (.slice (some ⟨g1,0,none⟩) m1 m1));replace O0:=hd_ (O0.out.cell7 X6 1 (.slice (some ⟨g1,0,none⟩) m1 m1));replace O1:=hd_ (O1.out.cell7 X6 1 (.slice (some ⟨g1,0,none⟩) m1 m1));replace X6:=X6.set1 (.slice (some ⟨g1,0,none⟩) m1 m1);obtain⟨bxa0,bxa1,bxa2,bxa3,bxa4,bxa5,bxa6⟩:=(XA).cells;rw[<-hW]at XA;rw[<-hW]at R
 rw[<-hW]at X6;rw[<-hW]at B;rw[<-hW]at O0;rw[<-hW]at O1
 go_wp2_with fail
 rw[<-hW];clear hW ax60 ax61 ax62 ax63 ax64 ax65 ax66 frx6 bxa0 bxa1 bxa2 bxa3 bxa4 bxa5 bxa6;clear ho;have Q:=(H1.out.below B.out lr_)
 have K1:=T.toTop_at W2 (.slice V.xt V.nt V.ct) s.ps s.lo s.al Q.t LN.out.t;clear Q
 go_wp2_with fail
 refine (K1).mono ?_;rintro e w3 ⟨g2,rfl,ho,hb⟩;obtain⟨m2,hm⟩:∃m,m=(s.ps).length:=⟨_,rfl⟩
 rw[<-hm]at ho ⊢;clear hm K1;have M2:=hd_ B.out.size;replace XA:=XA.later hb;replace R:=R.later hb;replace X6:=X6.later hb;replace B:=hd_ (B.out.trans (hb.mono B.out.size));replace O0:=hd_ (O0.out.below hb);replace O1:=hd_ (O1.out.below hb);have O2:=hd_ (ho);clear hb
 obtain⟨W3,hW⟩:∃W,W=(((w3.setCell ⟨b6,2,none⟩ (.slice (some ⟨g2,0,none⟩) m2 m2)).setCell ⟨b6,3,none⟩ (.int .i64 s.lo)).setCell ⟨b6,4,none⟩ (.int .i64 s.al)):=⟨_,rfl⟩
 obtain⟨ax60,ax61,ax62,ax63,ax64,ax65,ax66⟩:=(X6).cells;have frx6:=X6.free;replace B:=hd_ (B.out);replace XA:=XA.kept (grownBy_setCell _ ⟨b6,2,none⟩ (.slice (some ⟨g2,0,none⟩) m2 m2)) (by simp;omega);replace R:=R.kept (grownBy_setCell _ ⟨b6,2,none⟩ (.slice (some ⟨g2,0,none⟩) m2 m2)) (by simp;omega)
 replace B:=hd_ (B.out.setCell (p:=⟨b6,2,none⟩) (show w.heap.size<=b6 by omega) (.slice (some ⟨g2,0,none⟩) m2 m2));replace O0:=hd_ (O0.out.cell7 X6 2 (.slice (some ⟨g2,0,none⟩) m2 m2));replace O1:=hd_ (O1.out.cell7 X6 2 (.slice (some ⟨g2,0,none⟩) m2 m2));replace O2:=hd_ (O2.out.cell7 X6 2 (.slice (some ⟨g2,0,none⟩) m2 m2));replace X6:=X6.set2 (.slice (some ⟨g2,0,none⟩) m2 m2)
 replace XA:=XA.kept (grownBy_setCell _ ⟨b6,3,none⟩ (.int .i64 s.lo)) (by simp;omega);replace R:=R.kept (grownBy_setCell _ ⟨b6,3,none⟩ (.int .i64 s.lo)) (by simp;omega);replace B:=hd_ (B.out.setCell (p:=⟨b6,3,none⟩) (show w.heap.size<=b6 by omega) (.int .i64 s.lo));replace O0:=hd_ (O0.out.cell7 X6 3 (.int .i64 s.lo));replace O1:=hd_ (O1.out.cell7 X6 3 (.int .i64 s.lo))
 replace O2:=hd_ (O2.out.cell7 X6 3 (.int .i64 s.lo));replace X6:=X6.set3 (.int .i64 s.lo);replace XA:=XA.kept (grownBy_setCell _ ⟨b6,4,none⟩ (.int .i64 s.al)) (by simp;omega);replace R:=R.kept (grownBy_setCell _ ⟨b6,4,none⟩ (.int .i64 s.al)) (by simp;omega);replace B:=hd_ (B.out.setCell (p:=⟨b6,4,none⟩) (show w.heap.size<=b6 by omega) (.int .i64 s.al))
 replace O0:=hd_ (O0.out.cell7 X6 4 (.int .i64 s.al));replace O1:=hd_ (O1.out.cell7 X6 4 (.int .i64 s.al));replace O2:=hd_ (O2.out.cell7 X6 4 (.int .i64 s.al));replace X6:=X6.set4 (.int .i64 s.al);obtain⟨bxa0,bxa1,bxa2,bxa3,bxa4,bxa5,bxa6⟩:=(XA).cells;rw[<-hW]at XA;rw[<-hW]at R;rw[<-hW]at X6;rw[<-hW]at B;rw[<-hW]at O0;rw[<-hW]at O1;rw[<-hW]at O2
 go_wp2_with fail
 rw[<-hW];clear hW ax60 ax61 ax62 ax63 ax64 ax65 ax66 frx6 bxa0 bxa1 bxa2 bxa3 bxa4 bxa5 bxa6;clear ho;have Q:=(H1.out.below B.out lr_)
 have K1:=K.toRank_at W3 (.slice V.xk V.nk V.ck) s.ks s.ka Q.k LN.out.k;clear Q
 go_wp2_with fail
 refine (K1).mono ?_;rintro e w4 ⟨g3,rfl,ho,hb⟩;obtain⟨m3,hm⟩:∃m,m=(s.ks).length:=⟨_,rfl⟩
 rw[<-hm]at ho ⊢;clear hm K1;have M3:=hd_ B.out.size;replace XA:=XA.later hb;replace R:=R.later hb;replace X6:=X6.later hb;replace B:=hd_ (B.out.trans (hb.mono B.out.size));replace O0:=hd_ (O0.out.below hb);replace O1:=hd_ (O1.out.below hb);replace O2:=hd_ (O2.out.below hb);have O3:=hd_ (ho);clear hb
 obtain⟨W4,hW⟩:∃W,W=((w4.setCell ⟨b6,5,none⟩ (.slice (some ⟨g3,0,none⟩) m3 m3)).setCell ⟨b6,6,none⟩ (.int .i64 s.ka)):=⟨_,rfl⟩
 obtain⟨ax60,ax61,ax62,ax63,ax64,ax65,ax66⟩:=(X6).cells;have frx6:=X6.free;replace B:=hd_ (B.out);replace XA:=XA.kept (grownBy_setCell _ ⟨b6,5,none⟩ (.slice (some ⟨g3,0,none⟩) m3 m3)) (by simp;omega);replace R:=R.kept (grownBy_setCell _ ⟨b6,5,none⟩ (.slice (some ⟨g3,0,none⟩) m3 m3)) (by simp;omega)
 replace B:=hd_ (B.out.setCell (p:=⟨b6,5,none⟩) (show w.heap.size<=b6 by omega) (.slice (some ⟨g3,0,none⟩) m3 m3));replace O0:=hd_ (O0.out.cell7 X6 5 (.slice (some ⟨g3,0,none⟩) m3 m3));replace O1:=hd_ (O1.out.cell7 X6 5 (.slice (some ⟨g3,0,none⟩) m3 m3));replace O2:=hd_ (O2.out.cell7 X6 5 (.slice (some ⟨g3,0,none⟩) m3 m3));replace O3:=hd_ (O3.out.cell7 X6 5 (.slice (some ⟨g3,0,none⟩) m3 m3))
 replace X6:=X6.set5 (.slice (some ⟨g3,0,none⟩) m3 m3);replace XA:=XA.kept (grownBy_setCell _ ⟨b6,6,none⟩ (.int .i64 s.ka)) (by simp;omega);replace R:=R.kept (grownBy_setCell _ ⟨b6,6,none⟩ (.int .i64 s.ka)) (by simp;omega);replace B:=hd_ (B.out.setCell (p:=⟨b6,6,none⟩) (show w.heap.size<=b6 by omega) (.int .i64 s.ka));replace O0:=hd_ (O0.out.cell7 X6 6 (.int .i64 s.ka))
 replace O1:=hd_ (O1.out.cell7 X6 6 (.int .i64 s.ka));replace O2:=hd_ (O2.out.cell7 X6 6 (.int .i64 s.ka));replace O3:=hd_ (O3.out.cell7 X6 6 (.int .i64 s.ka));replace X6:=X6.set6 (.int .i64 s.ka);obtain⟨bx60,bx61,bx62,bx63,bx64,bx65,bx66⟩:=(X6).cells;obtain⟨br0,br1,br2,br3,br4,br5,br6⟩:=(R).cells;have fbr:=R.free;rw[<-hW]at XA;rw[<-hW]at R;rw[<-hW]at X6;rw[<-hW]at B;rw[<-hW]at O0;rw[<-hW]at O1
 rw[<-hW]at O2;rw[<-hW]at O3;clear ho;have fin:=R.set (.slice (some ⟨g0,0,none⟩) m0 m0) (.slice (some ⟨g1,0,none⟩) m1 m1) (.slice (some ⟨g2,0,none⟩) m2 m2) (.int .i64 s.lo) (.int .i64 s.al) (.slice (some ⟨g3,0,none⟩) m3 m3) (.int .i64 s.ka)
 have OF:=OwnS.box7 (OwnS.make (V:=⟨some ⟨g0,0,none⟩,m0,m0,some ⟨g1,0,none⟩,m1,m1,some ⟨g2,0,none⟩,m2,m2,some ⟨g3,0,none⟩,m3,m3⟩) (s:=s) O0.out O1.out O2.out O3.out M0.out (Nat.le_trans M0.out N0.out) T1.out M2.out M3.out) R (.slice (some ⟨g0,0,none⟩) m0 m0) (.slice (some ⟨g1,0,none⟩) m1 m1) (.slice (some ⟨g2,0,none⟩) m2 m2) (.int .i64 s.lo) (.int .i64 s.al) (.slice (some ⟨g3,0,none⟩) m3 m3) (.int .i64 s.ka)
 have BF:=below_set7 B.out (Nat.le_add_right w.heap.size 1) (.slice (some ⟨g0,0,none⟩) m0 m0) (.slice (some ⟨g1,0,none⟩) m1 m1) (.slice (some ⟨g2,0,none⟩) m2 m2) (.int .i64 s.lo) (.int .i64 s.al) (.slice (some ⟨g3,0,none⟩) m3 m3) (.int .i64 s.ka)
 have SF:=set7_size W4 (w.heap.size+1) (.slice (some ⟨g0,0,none⟩) m0 m0) (.slice (some ⟨g1,0,none⟩) m1 m1) (.slice (some ⟨g2,0,none⟩) m2 m2) (.int .i64 s.lo) (.int .i64 s.al) (.slice (some ⟨g3,0,none⟩) m3 m3) (.int .i64 s.ka);have HF:=hd_ (And.intro (OwnS.base OF lr_ (Nat.le_of_eq SF.symm) lr_) BF);have HY:=hd_ fin;clear fin OF BF SF;go_wp2;rw[<-hW]
 clear hW ax60 ax61 ax62 ax63 ax64 ax65 ax66 frx6 bx60 bx61 bx62 bx63 bx64 bx65 bx66 br0 br1 br2 br3 br4 br5 br6 fbr;show bodyPost _ _ _ _ _ (set7 W4 (w.heap.size+1) (.slice (some ⟨g0,0,none⟩) m0 m0) (.slice (some ⟨g1,0,none⟩) m1 m1) (.slice (some ⟨g2,0,none⟩) m2 m2) (.int .i64 s.lo) (.int .i64 s.al) (.slice (some ⟨g3,0,none⟩) m3 m3) (.int .i64 s.ka))
 obtain⟨d0,d1,d2,d3,d4,d5,d6⟩:=HY.out.cells;generalize set7 W4 (w.heap.size+1) (.slice (some ⟨g0,0,none⟩) m0 m0) (.slice (some ⟨g1,0,none⟩) m1 m1) (.slice (some ⟨g2,0,none⟩) m2 m2) (.int .i64 s.lo) (.int .i64 s.al) (.slice (some ⟨g3,0,none⟩) m3 m3) (.int .i64 s.ka)=WF at HF d0 d1 d2 d3 d4 d5 d6 ⊢
 refine bodyPost_ret (v:=.agg #[.slice (some ⟨g0,0,none⟩) m0 m0,.slice (some ⟨g1,0,none⟩) m1 m1,.slice (some ⟨g2,0,none⟩) m2 m2,.int .i64 s.lo,.int .i64 s.al,.slice (some ⟨g3,0,none⟩) m3 m3,.int .i64 s.ka]) (by simp[results,Tryz.results194,go_sem,d0,d1,d2,d3,d4,d5,d6]) rfl ?_;exact⟨⟨some ⟨g0,0,none⟩,m0,m0,some ⟨g1,0,none⟩,m1,m1,some ⟨g2,0,none⟩,m2,m2,some ⟨g3,0,none⟩,m3,m3⟩,rfl,HF.out⟩
theorem eqSum_at (w:World) (V1 V2:SV) (s:Sm) (h1:RdS w V1 s) (h2:RdS w V2 s) (hn:LenS s):
  Calls Tryz.prog 58 #[.agg #[.slice V1.xr V1.nr V1.cr,.slice V1.xf V1.nf V1.cf,.slice V1.xt V1.nt V1.ct,.int .i64 s.lo,.int .i64 s.al,.slice V1.xk V1.nk V1.ck,.int .i64 s.ka],.agg #[.slice V2.xr V2.nr V2.cr,.slice V2.xf V2.nf V2.cf,.slice V2.xt V2.nt V2.ct,.int .i64 s.lo,.int .i64 s.al,.slice V2.xk V2.nk V2.ck,.int .i64 s.ka]] w fun e w'=>e=.returned (.bool true)/\Below w.heap.size w w':=by
 have hA:=((Below.refl w.heap.size w).alloc lr_ (.cells #[.slice V1.xr V1.nr V1.cr,.slice V1.xf V1.nf V1.cf,.slice V1.xt V1.nt V1.ct,.int .i64 s.lo,.int .i64 s.al,.slice V1.xk V1.nk V1.ck,.int .i64 s.ka] 46)).alloc (by simp) (.cells #[.slice V2.xr V2.nr V2.cr,.slice V2.xf V2.nf V2.cf,.slice V2.xt V2.nt V2.ct,.int .i64 s.lo,.int .i64 s.al,.slice V2.xk V2.nk V2.ck,.int .i64 s.ka] 46)
 have XA:=(Box7.new w 46 (.slice V1.xr V1.nr V1.cr) (.slice V1.xf V1.nf V1.cf) (.slice V1.xt V1.nt V1.ct) (.int .i64 s.lo) (.int .i64 s.al) (.slice V1.xk V1.nk V1.ck) (.int .i64 s.ka)).alloc (.cells #[.slice V2.xr V2.nr V2.cr,.slice V2.xf V2.nf V2.cf,.slice V2.xt V2.nt V2.ct,.int .i64 s.lo,.int .i64 s.al,.slice V2.xk V2.nk V2.ck,.int .i64 s.ka] 46)
 have XB:=Box7.new (w.alloc (.cells #[.slice V1.xr V1.nr V1.cr,.slice V1.xf V1.nf V1.cf,.slice V1.xt V1.nt V1.ct,.int .i64 s.lo,.int .i64 s.al,.slice V1.xk V1.nk V1.ck,.int .i64 s.ka] 46)) 46 (.slice V2.xr V2.nr V2.cr) (.slice V2.xf V2.nf V2.cf) (.slice V2.xt V2.nt V2.ct) (.int .i64 s.lo) (.int .i64 s.al) (.slice V2.xk V2.nk V2.ck) (.int .i64 s.ka);rw[World.size_alloc]at XB
 obtain⟨axa0,axa1,axa2,axa3,axa4,axa5,axa6⟩:=(XA).cells;obtain⟨axb0,axb1,axb2,axb3,axb4,axb5,axb6⟩:=(XB).cells
 obtain⟨W0,hW⟩:∃W,W=(w.alloc (.cells #[.slice V1.xr V1.nr V1.cr,.slice V1.xf V1.nf V1.cf,.slice V1.xt V1.nt V1.ct,.int .i64 s.lo,.int .i64 s.al,.slice V1.xk V1.nk V1.ck,.int .i64 s.ka] 46)).alloc (.cells #[.slice V2.xr V2.nr V2.cr,.slice V2.xf V2.nf V2.cf,.slice V2.xt V2.nt V2.ct,.int .i64 s.lo,.int .i64 s.al,.slice V2.xk V2.nk V2.ck,.int .i64 s.ka] 46):=⟨_,rfl⟩
 rw[<-hW]at hA XA XB;have B:=hd_ hA;have H1:=hd_ h1;have H2:=hd_ h2;have LN:=hd_ hn;clear hA h1 h2 hn;go_enter Tryz.func58,Tryz.ntmps58
 go_wp2_with fail
 rw[<-hW];clear hW axa0 axa1 axa2 axa3 axa4 axa5 axa6 axb0 axb1 axb2 axb3 axb4 axb5 axb6;have Q:=(H1.out.below B.out lr_)
 have Q2:=(H2.out.below B.out lr_)
 have K1:=eqRough_at W0 (.slice V1.xr V1.nr V1.cr) (.slice V2.xr V2.nr V2.cr) s.rs s.rs Q.r Q2.r LN.out.r.lenM LN.out.r.rowM;rw[show decide (s.rs=s.rs)=true from decide_eq_true rfl]at K1;clear Q Q2;refine (K1).mono ?_;rintro e w1 ⟨rfl,hb⟩;clear K1;replace XA:=XA.later hb;replace XB:=XB.later hb;replace B:=hd_ (B.out.trans (hb.mono B.out.size));clear hb
 obtain⟨cxa0,cxa1,cxa2,cxa3,cxa4,cxa5,cxa6⟩:=(XA).cells;obtain⟨cxb0,cxb1,cxb2,cxb3,cxb4,cxb5,cxb6⟩:=(XB).cells;have Q:=(H1.out.below B.out lr_)
 have Q2:=(H2.out.below B.out lr_)
 have K1:=eqFew_at w1 (.slice V1.xf V1.nf V1.cf) (.slice V2.xf V2.nf V2.cf) s.zs s.zs Q.f Q2.f (by have:=LN.out.f;unfold maxLen;omega);rw[show decide (s.zs=s.zs)=true from decide_eq_true rfl]at K1;clear Q Q2
 go_wp2_with fail
 refine (K1).mono ?_;rintro e w2 ⟨rfl,hb⟩;clear K1;clear cxa0 cxa1 cxa2 cxa3 cxa4 cxa5 cxa6 cxb0 cxb1 cxb2 cxb3 cxb4 cxb5 cxb6;replace XA:=XA.later hb;replace XB:=XB.later hb;replace B:=hd_ (B.out.trans (hb.mono B.out.size));clear hb;obtain⟨cxa0,cxa1,cxa2,cxa3,cxa4,cxa5,cxa6⟩:=(XA).cells;obtain⟨cxb0,cxb1,cxb2,cxb3,cxb4,cxb5,cxb6⟩:=(XB).cells;have Q:=(H1.out.below B.out lr_)
 have Q2:=(H2.out.below B.out lr_)
 have K1:=T.eqTop_same w2 (.slice V1.xt V1.nt V1.ct) (.slice V2.xt V2.nt V2.ct) s.ps s.lo s.al Q.t Q2.t LN.out.t
 skip
 clear Q Q2
 go_wp2_with fail
 refine (K1).mono ?_;rintro e w3 ⟨rfl,hb⟩;clear K1;clear cxa0 cxa1 cxa2 cxa3 cxa4 cxa5 cxa6 cxb0 cxb1 cxb2 cxb3 cxb4 cxb5 cxb6;replace XA:=XA.later hb;replace XB:=XB.later hb;replace B:=hd_ (B.out.trans (hb.mono B.out.size));clear hb;obtain⟨cxa0,cxa1,cxa2,cxa3,cxa4,cxa5,cxa6⟩:=(XA).cells;obtain⟨cxb0,cxb1,cxb2,cxb3,cxb4,cxb5,cxb6⟩:=(XB).cells;have Q:=(H1.out.below B.out lr_)
 have Q2:=(H2.out.below B.out lr_)
 have K1:=K.eqRank_same w3 (.slice V1.xk V1.nk V1.ck) (.slice V2.xk V2.nk V2.ck) s.ks s.ka Q.k Q2.k LN.out.k
 skip
 clear Q Q2
 go_wp2_with fail
 refine (K1).mono ?_;rintro e w4 ⟨rfl,hb⟩;clear K1;clear cxa0 cxa1 cxa2 cxa3 cxa4 cxa5 cxa6 cxb0 cxb1 cxb2 cxb3 cxb4 cxb5 cxb6;replace XA:=XA.later hb;replace XB:=XB.later hb;replace B:=hd_ (B.out.trans (hb.mono B.out.size));clear hb;go_wp2;go_ret;exact⟨rfl,B.out⟩
end Go.Proofs.YtcblbdpdbggkbaaGreat
set_option linter.unusedVariables false
namespace Go.Proofs.YtcblbdpdbggkbaaGreat
open Go.RowKit Go.ChangeShapes Go.WideShapes Go.ChangeAt Go.Deep Go.Joins
theorem open_intsC {H:Type} {enc:TypeId × Value->H} {w:World} {n:Nat} {v0:Value} {y:DataW H × List MemPlace} (hf:DataW.trod enc Tryz.prog w 0 (fun _=>true) true n 23 [v0]=some y):∃zs,ArgI w v0 zs:=by
 rcases open_ints Tryz.underlying23 Tryz.underlying3 (by kernel_rfl) hf with ⟨hcs,_⟩|⟨x,l,c,zs,hcs,_,hl,hm,hz,_,hcell,hwz⟩
 ·simp at hcs
  exact⟨[],.inl ⟨rfl,_,_,hcs⟩⟩
 ·simp at hcs
  subst hcs;exact⟨zs.take l,argI_of hl hm (by simpa using hz) (fun h=>by cases h) (fun x' e=>by cases e;exact hcell)⟩
theorem open_rowsC {H:Type} {enc:TypeId × Value->H} {w:World} {n:Nat} {v0:Value} {y:DataW H × List MemPlace} (hf:DataW.trod enc Tryz.prog w 0 (fun _=>true) true n 34 [v0]=some y):∃rs,ArgR w v0 rs:=by
 rcases open_int_rows Tryz.underlying34 Tryz.underlying23 Tryz.underlying3 (by kernel_rfl) (by kernel_rfl) hf with ⟨hcs,_⟩|⟨a,len,cap,A,L,C,Z,hcs,_,hl,hm,_,hx⟩
 ·simp at hcs
  exact⟨[],.inl ⟨rfl,_,_,hcs⟩⟩
 ·simp at hcs
  subst hcs
  by_cases h0:len=0
  ·subst h0
   exact⟨[],.inl ⟨rfl,_,_,rfl⟩⟩
  obtain⟨b,o,sp⟩:=a;have h1:=(hx 0 (by omega)).1;have hs:sp=none:=by simpa[Addr.add]using World.cell?_spot h1
  subst hs;have e:((List.range len).map fun r=>(Z r).take (L r)).length=len:=by simp
  refine⟨(List.range len).map fun r=>(Z r).take (L r),.inr ⟨b,o,cap,by rw[e],by omega,by omega,by simpa[Addr.add]using World.block_lt_of_cell? _ _ h1,fun i hi=>?_⟩⟩;rw[e]at hi;obtain⟨e1,r1,r2,r3,r4,r5,r6⟩:=hx i (by omega);rw[addr_add]at e1;have eg:((List.range len).map fun r=>(Z r).take (L r)).getD i []=(Z i).take (L i):=by simp[hi]
  rw[eg];exact⟨_,e1,argI_of r1 r2 r3 r5 (fun x ex j hj=>(r6 x ex).2 j (by omega))⟩
theorem trod_struct1 {H:Type} {enc:TypeId × Value->H} {P:Program} {w:World} {base:Nat} {spare:Nat->Bool} {held:Bool} {t:TypeId} {f0:Field} {fuel:Nat} {cs:List Value} {x:DataW H × List MemPlace} (ht:P.underlying t=some (.struct #[f0])) (h:DataW.trod enc P w base spare held fuel t cs=some x):
  ∃y0 n,DataW.trod enc P w base spare held n f0.type ((cs.drop f0.offset).take (P.cellsOf f0.type))=some y0:=by
 obtain⟨xs,n,_,_,_,hlen,hf⟩:=DataW.trod_struct ht h
 match xs,hlen with
 | [y0],_=>exact⟨y0,n,by simpa using hf 0 f0 rfl⟩
end Go.Proofs.YtcblbdpdbggkbaaGreat
set_option linter.unusedVariables false
set_option linter.unusedSectionVars false
set_option linter.unusedSimpArgs false
namespace Go.Proofs.YtcblbdpdbggkbaaGreat
open Go.RowKit Go.ChangeShapes Go.WideShapes Go.ChangeAt Go.Deep Go.Joins
def sumA:RdA Sm:=fun w cs s=>∃V,cs=[.slice V.xr V.nr V.cr,.slice V.xf V.nf V.cf,.slice V.xt V.nt V.ct,.int .i64 s.lo,.int .i64 s.al,.slice V.xk V.nk V.ck,.int .i64 s.ka]/\ArgS w V s
theorem sumA_stay:RdA.Stay sumA:=by
 refine⟨?_⟩;rintro w w' cs s B ⟨V,rfl,h⟩ hb hB;exact⟨V,rfl,h.below hb hB⟩
theorem opens_sum {H:Type} {enc:TypeId × Value->H} {w:World}:Opens enc Tryz.prog w 181 sumA:=fun fuel cs y hf=>by
 have hC:Tryz.prog.cellsOf 181=7:=by kernel_rfl
 obtain⟨_,_,_,_,hsz,_,_⟩:=DataW.trod_struct Tryz.underlying181 hf;rw[hC]at hsz;obtain⟨c0,c1,c2,c3,c4,c5,c6,rfl⟩:∃c0 c1 c2 c3 c4 c5 c6,cs=[c0,c1,c2,c3,c4,c5,c6]:=by
  match cs,hsz with
  | [c0,c1,c2,c3,c4,c5,c6],_=>exact⟨c0,c1,c2,c3,c4,c5,c6,rfl⟩
 obtain⟨y0,y1,y2,y3,n,_,_,h0,h1,h2,h3⟩:=trod_struct4 Tryz.underlying181 hf;have k0:Tryz.prog.cellsOf 172=1:=by kernel_rfl
 have k1:Tryz.prog.cellsOf 173=1:=by kernel_rfl
 have k2:Tryz.prog.cellsOf 176=3:=by kernel_rfl
 have k3:Tryz.prog.cellsOf 179=2:=by kernel_rfl
 have j0:Tryz.prog.cellsOf 34=1:=by kernel_rfl
 have j1:Tryz.prog.cellsOf 23=1:=by kernel_rfl
 have j2:Tryz.prog.cellsOf 174=1:=by kernel_rfl
 have j3:Tryz.prog.cellsOf 177=1:=by kernel_rfl
 have j4:Tryz.prog.cellsOf 3=1:=by kernel_rfl
 simp[k0]at h0;simp[k1]at h1;simp[k2]at h2;simp[k3]at h3;obtain⟨z0,n0,g0⟩:=trod_struct1 Tryz.underlying172 h0;obtain⟨z1,n1,g1⟩:=trod_struct1 Tryz.underlying173 h1;obtain⟨z2,z3,z4,n2,_,_,g2,g3,g4⟩:=trod_struct3 Tryz.underlying176 h2;obtain⟨z5,z6,n3,_,_,g5,g6⟩:=trod_struct2 Tryz.underlying179 h3;simp[j0]at g0;simp[j1]at g1;simp[j2]at g2;simp[j4]at g3 g4 g6;simp[j3]at g5;obtain⟨rs,a0⟩:=open_rowsC g0
 obtain⟨zs,a1⟩:=open_intsC g1;obtain⟨ps,a2⟩:=T.open_pairs g2;obtain⟨lo,e3,_⟩:=DataW.trod_int Tryz.underlying3 g3;obtain⟨al,e4,_⟩:=DataW.trod_int Tryz.underlying3 g4;obtain⟨ks,a5⟩:=K.open_pairs g5;obtain⟨ka,e6,_⟩:=DataW.trod_int Tryz.underlying3 g6;simp at e3 e4 e6;obtain⟨xr,cr,hr⟩:=a0.form;obtain⟨xf,cf,hf⟩:=a1.form;obtain⟨xt,ct,ht⟩:=a2.form;obtain⟨xk,ck,hk⟩:=a5.form
 refine⟨⟨rs,zs,ps,lo,al,ks,ka⟩,⟨xr,rs.length,cr,xf,zs.length,cf,xt,ps.length,ct,xk,ks.length,ck⟩,by rw[hr,hf,ht,hk,e3,e4,e6],?_,?_,?_,?_⟩
 ·rw[hr]at a0;exact a0
 ·rw[hf]at a1;exact a1
 ·rw[ht]at a2;exact a2
 ·rw[hk]at a5;exact a5
namespace N
def entryA:RdA En:=viaA (andA intA (andA intA (andA intA sumA))) fun e=>(e.node,e.born,e.num,e.s)
def knownA:RdA (List En):=slcA 10 entryA
def nodeA:RdA Nd:=viaA (andA intA (andA knownA (andA intA (andA intA intA)))) fun x=>(x.born,x.known,x.beacon,x.level,x.up)
def wordA:RdA Wd:=viaA (andA intA (andA intA (andA intA (andA intA (andA intA knownA))))) fun x=>(x.kind,x.src,x.dst,x.beacon,x.level,x.known)
def linksA:RdA (List Bool):=slcA 1 boolA
def intsA:RdA (List Int):=slcA 1 intA
def rowsA:RdA (List (List Int)):=slcA 1 intsA
def pastA:RdA (List (List (List Int))):=slcA 1 rowsA
def netA:RdA Nt:=viaA (andA (slcA 5 nodeA) (andA linksA (andA (slcA 6 wordA) pastA))) fun n=>(n.nodes,n.links,n.words,n.past)
theorem entryA_stay:RdA.Stay entryA:=viaA_stay (andA_stay intA_stay (andA_stay intA_stay (andA_stay intA_stay sumA_stay))) _
theorem knownA_stay:RdA.Stay knownA:=slcA_stay entryA_stay _
theorem nodeA_stay:RdA.Stay nodeA:=viaA_stay (andA_stay intA_stay (andA_stay knownA_stay (andA_stay intA_stay (andA_stay intA_stay intA_stay)))) _
theorem wordA_stay:RdA.Stay wordA:=viaA_stay (andA_stay intA_stay (andA_stay intA_stay (andA_stay intA_stay (andA_stay intA_stay (andA_stay intA_stay knownA_stay))))) _
theorem linksA_stay:RdA.Stay linksA:=slcA_stay boolA_stay _
theorem pastA_stay:RdA.Stay pastA:=slcA_stay (slcA_stay (slcA_stay intA_stay _) _) _
theorem netA_stay:RdA.Stay netA:=viaA_stay (andA_stay (slcA_stay nodeA_stay _) (andA_stay linksA_stay (andA_stay (slcA_stay wordA_stay _) pastA_stay))) _
section
variable {w:World} {cs:List Value}
theorem entryA_iff {e:En}:entryA w cs e↔∃c,cs=.int .i64 e.node::.int .i64 e.born::.int .i64 e.num::c/\sumA w c e.s:=by
 constructor
 ·rintro⟨_,_,rfl,rfl,⟨_,_,rfl,rfl,⟨_,_,rfl,rfl,h⟩⟩⟩
  exact⟨_,rfl,h⟩
 ·rintro⟨c,rfl,h⟩
  exact⟨[_],_,rfl,rfl,⟨[_],_,rfl,rfl,⟨[_],_,rfl,rfl,h⟩⟩⟩
theorem nodeA_iff {x:Nd}:nodeA w cs x↔∃v,cs=[.int .i64 x.born,v,.int .i64 x.beacon,.int .i64 x.level,.int .i64 x.up]/\knownA w [v] x.known:=by
 constructor
 ·rintro⟨_,_,rfl,rfl,⟨_,_,rfl,h,⟨_,_,rfl,rfl,⟨_,_,rfl,rfl,rfl⟩⟩⟩⟩
  obtain⟨x',c',rfl,_⟩:=slcA_form h;exact⟨_,rfl,h⟩
 ·rintro⟨v,rfl,h⟩
  exact⟨[_],[v,_,_,_],rfl,rfl,⟨[v],[_,_,_],rfl,h,⟨[_],[_,_],rfl,rfl,⟨[_],[_],rfl,rfl,rfl⟩⟩⟩⟩
theorem wordA_iff {x:Wd}:wordA w cs x↔∃v,cs=[.int .i64 x.kind,.int .i64 x.src,.int .i64 x.dst,.int .i64 x.beacon,.int .i64 x.level,v]/\knownA w [v] x.known:=by
 constructor
 ·rintro⟨_,_,rfl,rfl,⟨_,_,rfl,rfl,⟨_,_,rfl,rfl,⟨_,_,rfl,rfl,⟨_,_,rfl,rfl,h⟩⟩⟩⟩⟩
  obtain⟨x',c',rfl,_⟩:=slcA_form h;exact⟨_,rfl,h⟩
 ·rintro⟨v,rfl,h⟩
  exact⟨[_],_,rfl,rfl,⟨[_],_,rfl,rfl,⟨[_],_,rfl,rfl,⟨[_],_,rfl,rfl,⟨[_],_,rfl,rfl,h⟩⟩⟩⟩⟩
theorem netA_iff {n:Nt}:netA w cs n↔∃v1 v2 v3 v4,cs=[v1,v2,v3,v4]/\slcA 5 nodeA w [v1] n.nodes/\linksA w [v2] n.links/\slcA 6 wordA w [v3] n.words/\pastA w [v4] n.past:=by
 constructor
 ·rintro⟨_,_,rfl,h1,⟨_,_,rfl,h2,⟨_,_,rfl,h3,h4⟩⟩⟩
  obtain⟨_,_,rfl,_⟩:=slcA_form h1;obtain⟨_,_,rfl,_⟩:=slcA_form h2;obtain⟨_,_,rfl,_⟩:=slcA_form h3;obtain⟨_,_,rfl,_⟩:=slcA_form h4;exact⟨_,_,_,_,rfl,h1,h2,h3,h4⟩
 ·rintro⟨v1,v2,v3,v4,rfl,h1,h2,h3,h4⟩
  exact⟨[v1],[v2,v3,v4],rfl,h1,⟨[v2],[v3,v4],rfl,h2,⟨[v3],[v4],rfl,h3,h4⟩⟩⟩
end
theorem intsA_arg {w:World} {v:Value} {zs:List Int} (h:intsA w [v] zs):ArgI w v zs:=by
 rcases h with ⟨rfl,x,c,e⟩|⟨b,o,c,e,h0,h1,h2,h3⟩
 ·injection e with e _
  exact .inl ⟨rfl,x,c,e⟩
 ·injection e with e _
  refine .inr ⟨b,o,c,e,h0,h1,h2,fun i hi=>?_⟩;obtain⟨ci,l,r,ha⟩:=h3 i _ (List.getElem?_eq_getElem hi);have q:=r 0 (.int .i64 zs[i]) (by rw[ha];rfl);rw[Nat.mul_one,Nat.add_zero]at q;rw[q,List.getD_eq_getElem?_getD,List.getElem?_eq_getElem hi];rfl
theorem rowsA_arg {w:World} {v:Value} {rs:List (List Int)} (h:rowsA w [v] rs):ArgR w v rs:=by
 rcases h with ⟨rfl,x,c,e⟩|⟨b,o,c,e,h0,h1,h2,h3⟩
 ·injection e with e _
  exact .inl ⟨rfl,x,c,e⟩
 ·injection e with e _
  refine .inr ⟨b,o,c,e,h0,h1,h2,fun i hi=>?_⟩;obtain⟨ci,l,r,ha⟩:=h3 i _ (List.getElem?_eq_getElem hi);obtain⟨x,c',rfl,_⟩:=slcA_form ha;have q:=r 0 _ rfl;rw[Nat.mul_one,Nat.add_zero]at q;refine⟨_,q,?_⟩;rw[List.getD_eq_getElem?_getD,List.getElem?_eq_getElem hi];exact intsA_arg ha
end N
end Go.Proofs.YtcblbdpdbggkbaaGreat
set_option linter.unusedVariables false
set_option linter.unusedSectionVars false
set_option linter.unusedSimpArgs false
namespace Go.Proofs.YtcblbdpdbggkbaaGreat
open Go.RowKit Go.Sort
namespace N
def szS {α:Type} (f:α->Nat) (l:List α):Nat:=(l.map f).sum
def szK (es:List En):Nat:=es.length+szS (fun e=>lenS e.s) es
def szNs (xs:List Nd):Nat:=xs.length+szS (fun x=>szK x.known) xs
def szWs (xs:List Wd):Nat:=xs.length+szS (fun x=>szK x.known) xs
def szP (ps:List (List (List Int))):Nat:=ps.length+szS (fun rs=>rs.length+ahead rs rs.length) ps
def szNt (n:Nt):Nat:=szNs n.nodes+n.links.length+szWs n.words+szP n.past
theorem szS_at {α:Type} {f:α->Nat} {l:List α} {i:Nat} {a:α} (h:l[i]? =some a):szS f (l.take (i+1))=szS f (l.take i)+f a:=by
 unfold szS;rw[List.take_add_one,h];simp
theorem szS_take {α:Type} (f:α->Nat) (l:List α) (i:Nat):szS f (l.take i)<=szS f l:=by
 conv=>rhs;rw[<-List.take_append_drop i l]
 unfold szS;rw[List.map_append,List.sum_append];exact Nat.le_add_right _ _
theorem szEntry_at (w:World) (V:SV) (e:En) (h:ArgS w V e.s) (left:Int) (h0:0<=left) (h1:left<=1048576):
  Calls Tryz.prog 147 #[.agg #[.int .i64 e.node,.int .i64 e.born,.int .i64 e.num,.slice V.xr V.nr V.cr,.slice V.xf V.nf V.cf,.slice V.xt V.nt V.ct,.int .i64 (e.s).lo,.int .i64 (e.s).al,.slice V.xk V.nk V.ck,.int .i64 (e.s).ka],.int .i64 left] w fun r w'=>r=.returned (.int .i64 (szV left (lenS e.s)))/\Below w.heap.size w w':=by
 have X:=(M.start w).alloc #[.int .i64 e.node,.int .i64 e.born,.int .i64 e.num,.slice V.xr V.nr V.cr,.slice V.xf V.nf V.cf,.slice V.xt V.nt V.ct,.int .i64 (e.s).lo,.int .i64 (e.s).al,.slice V.xk V.nk V.ck,.int .i64 (e.s).ka] 183;have HA:=hd_ X.below
 have K:=hd_ (szSum_at (w.alloc (.cells #[.int .i64 e.node,.int .i64 e.born,.int .i64 e.num,.slice V.xr V.nr V.cr,.slice V.xf V.nf V.cf,.slice V.xt V.nt V.ct,.int .i64 (e.s).lo,.int .i64 (e.s).al,.slice V.xk V.nk V.ck,.int .i64 (e.s).ka] 183)) V e.s left (h.below X.below lr_) h0 h1)
 change Hid (Calls _ _ _ _ fun e1 w1=>e1=.returned (.int .i64 (szV left (lenS e.s)))/\_)at K
 obtain⟨m,hm⟩:∃m,m=lenS e.s:=⟨_,rfl⟩
 rw[<-hm]at K ⊢;clear h hm;obtain⟨W0,hW⟩:∃W,W=w.alloc (.cells #[.int .i64 e.node,.int .i64 e.born,.int .i64 e.num,.slice V.xr V.nr V.cr,.slice V.xf V.nf V.cf,.slice V.xt V.nt V.ct,.int .i64 (e.s).lo,.int .i64 (e.s).al,.slice V.xk V.nk V.ck,.int .i64 (e.s).ka] 183):=⟨_,rfl⟩
 rw[<-hW]at X K HA;have YtcblbdpdbggkbaaGreat0:=hd_ X;clear X
 by_cases hle:left<m
 ·rw[szV_out hle]at K ⊢
  go_enter Tryz.func147,Tryz.ntmps147
  go_wp2_with fail
  rw[<-hW];refine K.out.mono ?_;rintro e w1 ⟨rfl,hb⟩;have B:=hd_ (HA.out.trans (hb.mono HA.out.size));clear hb hW K;go_wp2;go_ret;exact⟨rfl,B.out⟩
 ·rw[szV_in (by omega)]at K ⊢
  have h2:¬left - (m:Int)<0:=by omega
  go_enter Tryz.func147,Tryz.ntmps147
  go_wp2_with fail
  rw[<-hW];refine K.out.mono ?_;rintro e w1 ⟨rfl,hb⟩;have B:=hd_ (HA.out.trans (hb.mono HA.out.size));clear hb hW K;go_wp2;go_ret;exact⟨rfl,B.out⟩
theorem szKnown_at (w:World) (v:Value) (xs:List (En)) (left:Int) (h:knownA w [v] xs) (h0:0<=left) (h1:left<=1048576):
  Calls Tryz.prog 61 #[v,.int .i64 left] w fun e w'=>e=.returned (.int .i64 (szV left (szK xs)))/\Below w.heap.size w w':=by
 obtain⟨x,c,ev,hl⟩:=slcA_form h;cases ev;obtain⟨n,hn⟩:∃n,n=xs.length:=⟨_,rfl⟩
 rw[<-hn]at h ⊢ hl;have SZ:Hid (szK xs=n+szS (fun e:En=>lenS e.s) xs):=hd_ (by rw[hn];rfl);have HN:=hd_ hn;have H1:=hd_ h;unfold maxLen at hl;clear h hn
 by_cases hle:left<n
 ·have E:Hid (szV left (szK xs)= -1):=hd_ (szV_out (by rw[SZ.out];omega))
  have h2:left - (n:Int)<0:=by omega
  go_enter Tryz.func61,Tryz.ntmps61;go_wp2;go_ret;exact⟨by rw[E.out];rfl,Below.refl _ _⟩
 ·have h2:¬left - (n:Int)<0:=by omega
  go_enter Tryz.func61,Tryz.ntmps61;go_wp2;go_loopw [1,5] (fun q i wr=>∃j a:Nat,j<=n/\i=.int .i64 (j:Int)/\q=.int .i64 (left - n - a)/\a=szS (fun e:En=>lenS e.s) (xs.take j)/\(a:Int)<=left - n/\Below w.heap.size w wr) (fun _ i _=>n - (intOf i).toNat)
  case atStart=>exact⟨0,0,Nat.zero_le _,rfl,by simp,rfl,by omega,Below.refl _ _⟩
  case round=>
   obtain⟨j,a,hj,rfl,rfl,ha,hal,hb⟩:=hrel;have HA:=hd_ ha;have HB:=hd_ hb;clear ha hb
   by_cases hlt:j<n
   ·obtain⟨y,hy⟩:∃y,xs[j]? =some y:=⟨_,List.getElem?_eq_getElem (by rw[<-HN.out];exact hlt)⟩
    obtain⟨b,o,ci,rfl,_,lc,hr,hA⟩:=slcA_at (knownA_stay.keep H1.out HB.out lr_) hy;obtain⟨cs,ec,V,ec2,hs⟩:=entryA_iff.1 hA;subst ec2;subst ec;have d0:=hr 0 _ rfl;have d1:=hr 1 _ rfl;have d2:=hr 2 _ rfl;have d3:=hr 3 _ rfl;have d4:=hr 4 _ rfl;have d5:=hr 5 _ rfl;have d6:=hr 6 _ rfl;have d7:=hr 7 _ rfl;have d8:=hr 8 _ rfl;have d9:=hr 9 _ rfl;simp only[Nat.add_zero]at d0
    obtain⟨m,hm⟩:∃m,m=(fun e:En=>lenS e.s) y:=⟨_,rfl⟩
    have KS:=hd_ (szEntry_at wr V y hs (left - n - a) (by omega) (by omega));rw[show lenS y.s=m from hm.symm]at KS;have E3:=hd_ (show szS (fun e:En=>lenS e.s) (xs.take (j+1))=a+m by rw[szS_at hy, <-HA.out,hm]);have mo:=szS_take (fun e:En=>lenS e.s) xs (j+1);rw[E3.out]at mo;have MO:=hd_ mo;have k0:(0:Int)<=(j:Int):=by omega
    have kn:(j:Int)<(n:Int):=by omega
    clear hm mo hy lc hr hA
    by_cases hlm:left - n - a<m
    ·rw[szV_out hlm]at KS
     have fin:Hid (szV left (szK xs)= -1):=hd_ (szV_out (by rw[SZ.out];have:=MO.out;omega))
     go_wp2_with fail
     refine KS.out.mono ?_;rintro e w1 ⟨rfl,hb1⟩;have B2:=hd_ (HB.out.trans (hb1.mono HB.out.size));clear hb1 HB KS H1;go_wp2;go_ret;exact⟨by rw[fin.out];rfl,B2.out⟩
    ·rw[szV_in (by omega)]at KS
     have h3:¬left - (n:Int) - (a:Int) - (m:Int)<0:=by omega
     go_wp2_with fail
     refine KS.out.mono ?_;rintro e w1 ⟨rfl,hb1⟩;have B2:=hd_ (HB.out.trans (hb1.mono HB.out.size));clear hb1 HB KS;go_wp2;go_roundw
     case rel=>exact⟨j+1,a+m,by omega,by go_num,by rw[show left - (n:Int) - (a:Int) - (m:Int)=left - n - ((a+m:Nat):Int) by omega],E3.out.symm,by omega,B2.out⟩
     case measure=>simp[intOf];omega
   ·obtain rfl:j=n:=by omega
    have fin:Hid (szV left (szK xs)=left - j - a):=by
     have e1:xs.take j=xs:=List.take_of_length_le (by rw[HN.out];exact Nat.le_refl _);have e2:=HA.out;rw[e1]at e2;show szV left (szK xs)=_
     rw[SZ.out, <-e2,szV_in (by omega)];omega
    go_wp2;go_ret;exact⟨by rw[fin.out];rfl,HB.out⟩
theorem szNode_at (w:World) {y:Option Addr} {m0 cy:Nat} (x:Nd) (h:knownA w [.slice y m0 cy] x.known) (left:Int) (h0:0<=left) (h1:left<=1048576):
  Calls Tryz.prog 182 #[.agg #[.int .i64 x.born,.slice y m0 cy,.int .i64 x.beacon,.int .i64 x.level,.int .i64 x.up],.int .i64 left] w fun r w'=>r=.returned (.int .i64 (szV left (szK x.known)))/\Below w.heap.size w w':=by
 have X:=(M.start w).alloc #[.int .i64 x.born,.slice y m0 cy,.int .i64 x.beacon,.int .i64 x.level,.int .i64 x.up] 220;have HA:=hd_ X.below;have K:=hd_ (szKnown_at (w.alloc (.cells #[.int .i64 x.born,.slice y m0 cy,.int .i64 x.beacon,.int .i64 x.level,.int .i64 x.up] 220)) _ x.known left (knownA_stay.keep h X.below lr_) h0 h1);obtain⟨m,hm⟩:∃m,m=szK x.known:=⟨_,rfl⟩
 rw[<-hm]at K ⊢;clear h hm;obtain⟨W0,hW⟩:∃W,W=w.alloc (.cells #[.int .i64 x.born,.slice y m0 cy,.int .i64 x.beacon,.int .i64 x.level,.int .i64 x.up] 220):=⟨_,rfl⟩
 rw[<-hW]at X K HA;have YtcblbdpdbggkbaaGreat0:=hd_ X;clear X
 by_cases hle:left<m
 ·rw[szV_out hle]at K ⊢
  go_enter Tryz.func182,Tryz.ntmps182
  go_wp2_with fail
  rw[<-hW];refine K.out.mono ?_;rintro e w1 ⟨rfl,hb⟩;have B:=hd_ (HA.out.trans (hb.mono HA.out.size));clear hb hW K;go_wp2;go_ret;exact⟨rfl,B.out⟩
 ·rw[szV_in (by omega)]at K ⊢
  have h2:¬left - (m:Int)<0:=by omega
  go_enter Tryz.func182,Tryz.ntmps182
  go_wp2_with fail
  rw[<-hW];refine K.out.mono ?_;rintro e w1 ⟨rfl,hb⟩;have B:=hd_ (HA.out.trans (hb.mono HA.out.size));clear hb hW K;go_wp2;go_ret;exact⟨rfl,B.out⟩
theorem szNodes_at (w:World) (v:Value) (xs:List (Nd)) (left:Int) (h:slcA 5 nodeA w [v] xs) (h0:0<=left) (h1:left<=1048576):
  Calls Tryz.prog 112 #[v,.int .i64 left] w fun e w'=>e=.returned (.int .i64 (szV left (szNs xs)))/\Below w.heap.size w w':=by
 obtain⟨x,c,ev,hl⟩:=slcA_form h;cases ev;obtain⟨n,hn⟩:∃n,n=xs.length:=⟨_,rfl⟩
 rw[<-hn]at h ⊢ hl;have SZ:Hid (szNs xs=n+szS (fun x:Nd=>szK x.known) xs):=hd_ (by rw[hn];rfl);have HN:=hd_ hn;have H1:=hd_ h;unfold maxLen at hl;clear h hn
 by_cases hle:left<n
 ·have E:Hid (szV left (szNs xs)= -1):=hd_ (szV_out (by rw[SZ.out];omega))
  have h2:left - (n:Int)<0:=by omega
  go_enter Tryz.func112,Tryz.ntmps112;go_wp2;go_ret;exact⟨by rw[E.out];rfl,Below.refl _ _⟩
 ·have h2:¬left - (n:Int)<0:=by omega
  go_enter Tryz.func112,Tryz.ntmps112;go_wp2;go_loopw [1,5] (fun q i wr=>∃j a:Nat,j<=n/\i=.int .i64 (j:Int)/\q=.int .i64 (left - n - a)/\a=szS (fun x:Nd=>szK x.known) (xs.take j)/\(a:Int)<=left - n/\Below w.heap.size w wr) (fun _ i _=>n - (intOf i).toNat)
  case atStart=>exact⟨0,0,Nat.zero_le _,rfl,by simp,rfl,by omega,Below.refl _ _⟩
  case round=>
   obtain⟨j,a,hj,rfl,rfl,ha,hal,hb⟩:=hrel;have HA:=hd_ ha;have HB:=hd_ hb;clear ha hb
   by_cases hlt:j<n
   ·obtain⟨y,hy⟩:∃y,xs[j]? =some y:=⟨_,List.getElem?_eq_getElem (by rw[<-HN.out];exact hlt)⟩
    obtain⟨b,o,ci,rfl,_,lc,hr,hA⟩:=slcA_at ((slcA_stay nodeA_stay 5).keep H1.out HB.out lr_) hy;obtain⟨v,ec,hs⟩:=nodeA_iff.1 hA;subst ec;obtain⟨z,cz,ez,_⟩:=slcA_form hs;cases ez;have d0:=hr 0 _ rfl;have d1:=hr 1 _ rfl;have d2:=hr 2 _ rfl;have d3:=hr 3 _ rfl;have d4:=hr 4 _ rfl;simp only[Nat.add_zero]at d0;obtain⟨m,hm⟩:∃m,m=(fun x:Nd=>szK x.known) y:=⟨_,rfl⟩
    have KS:=hd_ (szNode_at wr y hs (left - n - a) (by omega) (by omega));rw[show szK y.known=m from hm.symm]at KS;have E3:=hd_ (show szS (fun x:Nd=>szK x.known) (xs.take (j+1))=a+m by rw[szS_at hy, <-HA.out,hm]);have mo:=szS_take (fun x:Nd=>szK x.known) xs (j+1);rw[E3.out]at mo;have MO:=hd_ mo;have k0:(0:Int)<=(j:Int):=by omega
    have kn:(j:Int)<(n:Int):=by omega
    clear hm mo hy lc hr hA
    by_cases hlm:left - n - a<m
    ·rw[szV_out hlm]at KS
     have fin:Hid (szV left (szNs xs)= -1):=hd_ (szV_out (by rw[SZ.out];have:=MO.out;omega))
     go_wp2_with fail
     refine KS.out.mono ?_;rintro e w1 ⟨rfl,hb1⟩;have B2:=hd_ (HB.out.trans (hb1.mono HB.out.size));clear hb1 HB KS H1;go_wp2;go_ret;exact⟨by rw[fin.out];rfl,B2.out⟩
    ·rw[szV_in (by omega)]at KS
     have h3:¬left - (n:Int) - (a:Int) - (m:Int)<0:=by omega
     go_wp2_with fail
     refine KS.out.mono ?_;rintro e w1 ⟨rfl,hb1⟩;have B2:=hd_ (HB.out.trans (hb1.mono HB.out.size));clear hb1 HB KS;go_wp2;go_roundw
     case rel=>exact⟨j+1,a+m,by omega,by go_num,by rw[show left - (n:Int) - (a:Int) - (m:Int)=left - n - ((a+m:Nat):Int) by omega],E3.out.symm,by omega,B2.out⟩
     case measure=>simp[intOf];omega
   ·obtain rfl:j=n:=by omega
    have fin:Hid (szV left (szNs xs)=left - j - a):=by
     have e1:xs.take j=xs:=List.take_of_length_le (by rw[HN.out];exact Nat.le_refl _);have e2:=HA.out;rw[e1]at e2;show szV left (szNs xs)=_
     rw[SZ.out, <-e2,szV_in (by omega)];omega
    go_wp2;go_ret;exact⟨by rw[fin.out];rfl,HB.out⟩
theorem szWord_at (w:World) {y:Option Addr} {m0 cy:Nat} (x:Wd) (h:knownA w [.slice y m0 cy] x.known) (left:Int) (h0:0<=left) (h1:left<=1048576):
  Calls Tryz.prog 183 #[.agg #[.int .i64 x.kind,.int .i64 x.src,.int .i64 x.dst,.int .i64 x.beacon,.int .i64 x.level,.slice y m0 cy],.int .i64 left] w fun r w'=>r=.returned (.int .i64 (szV left (szK x.known)))/\Below w.heap.size w w':=by
 have X:=(M.start w).alloc #[.int .i64 x.kind,.int .i64 x.src,.int .i64 x.dst,.int .i64 x.beacon,.int .i64 x.level,.slice y m0 cy] 223;have HA:=hd_ X.below;have K:=hd_ (szKnown_at (w.alloc (.cells #[.int .i64 x.kind,.int .i64 x.src,.int .i64 x.dst,.int .i64 x.beacon,.int .i64 x.level,.slice y m0 cy] 223)) _ x.known left (knownA_stay.keep h X.below lr_) h0 h1)
 obtain⟨m,hm⟩:∃m,m=szK x.known:=⟨_,rfl⟩
 rw[<-hm]at K ⊢;clear h hm;obtain⟨W0,hW⟩:∃W,W=w.alloc (.cells #[.int .i64 x.kind,.int .i64 x.src,.int .i64 x.dst,.int .i64 x.beacon,.int .i64 x.level,.slice y m0 cy] 223):=⟨_,rfl⟩
 rw[<-hW]at X K HA;have YtcblbdpdbggkbaaGreat0:=hd_ X;clear X
 by_cases hle:left<m
 ·rw[szV_out hle]at K ⊢
  go_enter Tryz.func183,Tryz.ntmps183
  go_wp2_with fail
  rw[<-hW];refine K.out.mono ?_;rintro e w1 ⟨rfl,hb⟩;have B:=hd_ (HA.out.trans (hb.mono HA.out.size));clear hb hW K;go_wp2;go_ret;exact⟨rfl,B.out⟩
 ·rw[szV_in (by omega)]at K ⊢
  have h2:¬left - (m:Int)<0:=by omega
  go_enter Tryz.func183,Tryz.ntmps183
  go_wp2_with fail
  rw[<-hW];refine K.out.mono ?_;rintro e w1 ⟨rfl,hb⟩;have B:=hd_ (HA.out.trans (hb.mono HA.out.size));clear hb hW K;go_wp2;go_ret;exact⟨rfl,B.out⟩
theorem szWords_at (w:World) (v:Value) (xs:List (Wd)) (left:Int) (h:slcA 6 wordA w [v] xs) (h0:0<=left) (h1:left<=1048576):
  Calls Tryz.prog 114 #[v,.int .i64 left] w fun e w'=>e=.returned (.int .i64 (szV left (szWs xs)))/\Below w.heap.size w w':=by
 obtain⟨x,c,ev,hl⟩:=slcA_form h;cases ev;obtain⟨n,hn⟩:∃n,n=xs.length:=⟨_,rfl⟩
 rw[<-hn]at h ⊢ hl;have SZ:Hid (szWs xs=n+szS (fun x:Wd=>szK x.known) xs):=hd_ (by rw[hn];rfl);have HN:=hd_ hn;have H1:=hd_ h;unfold maxLen at hl;clear h hn
 by_cases hle:left<n
 ·have E:Hid (szV left (szWs xs)= -1):=hd_ (szV_out (by rw[SZ.out];omega))
  have h2:left - (n:Int)<0:=by omega
  go_enter Tryz.func114,Tryz.ntmps114;go_wp2;go_ret;exact⟨by rw[E.out];rfl,Below.refl _ _⟩
 ·have h2:¬left - (n:Int)<0:=by omega
  go_enter Tryz.func114,Tryz.ntmps114;go_wp2;go_loopw [1,5] (fun q i wr=>∃j a:Nat,j<=n/\i=.int .i64 (j:Int)/\q=.int .i64 (left - n - a)/\a=szS (fun x:Wd=>szK x.known) (xs.take j)/\(a:Int)<=left - n/\Below w.heap.size w wr) (fun _ i _=>n - (intOf i).toNat)
  case atStart=>exact⟨0,0,Nat.zero_le _,rfl,by simp,rfl,by omega,Below.refl _ _⟩
  case round=>
   obtain⟨j,a,hj,rfl,rfl,ha,hal,hb⟩:=hrel;have HA:=hd_ ha;have HB:=hd_ hb;clear ha hb
   by_cases hlt:j<n
   ·obtain⟨y,hy⟩:∃y,xs[j]? =some y:=⟨_,List.getElem?_eq_getElem (by rw[<-HN.out];exact hlt)⟩
    obtain⟨b,o,ci,rfl,_,lc,hr,hA⟩:=slcA_at ((slcA_stay wordA_stay 6).keep H1.out HB.out lr_) hy;obtain⟨v,ec,hs⟩:=wordA_iff.1 hA;subst ec;obtain⟨z,cz,ez,_⟩:=slcA_form hs;cases ez;have d0:=hr 0 _ rfl;have d1:=hr 1 _ rfl;have d2:=hr 2 _ rfl;have d3:=hr 3 _ rfl;have d4:=hr 4 _ rfl;have d5:=hr 5 _ rfl;simp only[Nat.add_zero]at d0;obtain⟨m,hm⟩:∃m,m=(fun x:Wd=>szK x.known) y:=⟨_,rfl⟩
    have KS:=hd_ (szWord_at wr y hs (left - n - a) (by omega) (by omega));rw[show szK y.known=m from hm.symm]at KS;have E3:=hd_ (show szS (fun x:Wd=>szK x.known) (xs.take (j+1))=a+m by rw[szS_at hy, <-HA.out,hm]);have mo:=szS_take (fun x:Wd=>szK x.known) xs (j+1);rw[E3.out]at mo;have MO:=hd_ mo;have k0:(0:Int)<=(j:Int):=by omega
    have kn:(j:Int)<(n:Int):=by omega
    clear hm mo hy lc hr hA
    by_cases hlm:left - n - a<m
    ·rw[szV_out hlm]at KS
     have fin:Hid (szV left (szWs xs)= -1):=hd_ (szV_out (by rw[SZ.out];have:=MO.out;omega))
     go_wp2_with fail
     refine KS.out.mono ?_;rintro e w1 ⟨rfl,hb1⟩;have B2:=hd_ (HB.out.trans (hb1.mono HB.out.size));clear hb1 HB KS H1;go_wp2;go_ret;exact⟨by rw[fin.out];rfl,B2.out⟩
    ·rw[szV_in (by omega)]at KS
     have h3:¬left - (n:Int) - (a:Int) - (m:Int)<0:=by omega
     go_wp2_with fail
     refine KS.out.mono ?_;rintro e w1 ⟨rfl,hb1⟩;have B2:=hd_ (HB.out.trans (hb1.mono HB.out.size));clear hb1 HB KS;go_wp2;go_roundw
     case rel=>exact⟨j+1,a+m,by omega,by go_num,by rw[show left - (n:Int) - (a:Int) - (m:Int)=left - n - ((a+m:Nat):Int) by omega],E3.out.symm,by omega,B2.out⟩
     case measure=>simp[intOf];omega
   ·obtain rfl:j=n:=by omega
    have fin:Hid (szV left (szWs xs)=left - j - a):=by
     have e1:xs.take j=xs:=List.take_of_length_le (by rw[HN.out];exact Nat.le_refl _);have e2:=HA.out;rw[e1]at e2;show szV left (szWs xs)=_
     rw[SZ.out, <-e2,szV_in (by omega)];omega
    go_wp2;go_ret;exact⟨by rw[fin.out];rfl,HB.out⟩
theorem szIntSS_at2 (w:World) (v:Value) (rs:List (List Int)) (h:ArgR w v rs) (left:Int) (h0:0<=left) (h1:left<=1048576):
  Calls Tryz.prog 184 #[v,.int .i64 left] w fun e w'=>e=.returned (.int .i64 (szV left (rs.length+ahead rs rs.length)))/\Below w.heap.size w w':=
 (szIntSS_at w v rs left h h0 h1).mono fun _ _ ⟨a,b⟩=>⟨a,by rw[<-b];exact Below.refl _ _⟩
theorem szPast_at (w:World) (v:Value) (xs:List (List (List Int))) (left:Int) (h:pastA w [v] xs) (h0:0<=left) (h1:left<=1048576):
  Calls Tryz.prog 115 #[v,.int .i64 left] w fun e w'=>e=.returned (.int .i64 (szV left (szP xs)))/\Below w.heap.size w w':=by
 obtain⟨x,c,ev,hl⟩:=slcA_form h;cases ev;obtain⟨n,hn⟩:∃n,n=xs.length:=⟨_,rfl⟩
 rw[<-hn]at h ⊢ hl;have SZ:Hid (szP xs=n+szS (fun rs:List (List Int)=>rs.length+ahead rs rs.length) xs):=hd_ (by rw[hn];rfl);have HN:=hd_ hn;have H1:=hd_ h;unfold maxLen at hl;clear h hn
 by_cases hle:left<n
 ·have E:Hid (szV left (szP xs)= -1):=hd_ (szV_out (by rw[SZ.out];omega))
  have h2:left - (n:Int)<0:=by omega
  go_enter Tryz.func115,Tryz.ntmps115;go_wp2;go_ret;exact⟨by rw[E.out];rfl,Below.refl _ _⟩
 ·have h2:¬left - (n:Int)<0:=by omega
  go_enter Tryz.func115,Tryz.ntmps115;go_wp2;go_loopw [1,5] (fun q i wr=>∃j a:Nat,j<=n/\i=.int .i64 (j:Int)/\q=.int .i64 (left - n - a)/\a=szS (fun rs:List (List Int)=>rs.length+ahead rs rs.length) (xs.take j)/\(a:Int)<=left - n/\Below w.heap.size w wr) (fun _ i _=>n - (intOf i).toNat)
  case atStart=>exact⟨0,0,Nat.zero_le _,rfl,by simp,rfl,by omega,Below.refl _ _⟩
  case round=>
   obtain⟨j,a,hj,rfl,rfl,ha,hal,hb⟩:=hrel;have HA:=hd_ ha;have HB:=hd_ hb;clear ha hb
   by_cases hlt:j<n
   ·obtain⟨y,hy⟩:∃y,xs[j]? =some y:=⟨_,List.getElem?_eq_getElem (by rw[<-HN.out];exact hlt)⟩
    obtain⟨b,o,ci,rfl,_,lc,hr,hA⟩:=slcA_at (pastA_stay.keep H1.out HB.out lr_) hy;obtain⟨z,cz,ez,_⟩:=slcA_form hA;subst ez;have d0:=hr 0 _ rfl;simp only[Nat.mul_one,Nat.add_zero]at d0;obtain⟨m,hm⟩:∃m,m=(fun rs:List (List Int)=>rs.length+ahead rs rs.length) y:=⟨_,rfl⟩
    have KS:=hd_ (szIntSS_at2 wr _ y (rowsA_arg hA) (left - n - a) (by omega) (by omega));rw[show y.length+ahead y y.length=m from hm.symm]at KS;have E3:=hd_ (show szS (fun rs:List (List Int)=>rs.length+ahead rs rs.length) (xs.take (j+1))=a+m by rw[szS_at hy, <-HA.out,hm]);have mo:=szS_take (fun rs:List (List Int)=>rs.length+ahead rs rs.length) xs (j+1);rw[E3.out]at mo;have MO:=hd_ mo
    have k0:(0:Int)<=(j:Int):=by omega
    have kn:(j:Int)<(n:Int):=by omega
    clear hm mo hy lc hr hA
    by_cases hlm:left - n - a<m
    ·rw[szV_out hlm]at KS
     have fin:Hid (szV left (szP xs)= -1):=hd_ (szV_out (by rw[SZ.out];have:=MO.out;omega))
     go_wp2_with fail
     refine KS.out.mono ?_;rintro e w1 ⟨rfl,hb1⟩;have B2:=hd_ (HB.out.trans (hb1.mono HB.out.size));clear hb1 HB KS H1;go_wp2;go_ret;exact⟨by rw[fin.out];rfl,B2.out⟩
    ·rw[szV_in (by omega)]at KS
     have h3:¬left - (n:Int) - (a:Int) - (m:Int)<0:=by omega
     go_wp2_with fail
     refine KS.out.mono ?_;rintro e w1 ⟨rfl,hb1⟩;have B2:=hd_ (HB.out.trans (hb1.mono HB.out.size));clear hb1 HB KS;go_wp2;go_roundw
     case rel=>exact⟨j+1,a+m,by omega,by go_num,by rw[show left - (n:Int) - (a:Int) - (m:Int)=left - n - ((a+m:Nat):Int) by omega],E3.out.symm,by omega,B2.out⟩
     case measure=>simp[intOf];omega
   ·obtain rfl:j=n:=by omega
    have fin:Hid (szV left (szP xs)=left - j - a):=by
     have e1:xs.take j=xs:=List.take_of_length_le (by rw[HN.out];exact Nat.le_refl _);have e2:=HA.out;rw[e1]at e2;show szV left (szP xs)=_
     rw[SZ.out, <-e2,szV_in (by omega)];omega
    go_wp2;go_ret;exact⟨by rw[fin.out];rfl,HB.out⟩
theorem szLinks_at (w:World) (v:Value) (xs:List Bool) (left:Int) (h:linksA w [v] xs) (h0:0<=left) (h1:left<=1048576):
  Calls Tryz.prog 113 #[v,.int .i64 left] w fun e w'=>e=.returned (.int .i64 (szV left xs.length))/\Below w.heap.size w w':=by
 obtain⟨x,c,ev,hl⟩:=slcA_form h;cases ev;obtain⟨n,hn⟩:∃n,n=xs.length:=⟨_,rfl⟩
 rw[<-hn]at h ⊢ hl;unfold maxLen at hl;clear h hn
 by_cases hle:left<n
 ·rw[szV_out hle]
  have h2:left - (n:Int)<0:=by omega
  go_enter Tryz.func113,Tryz.ntmps113;go_wp2;go_ret;exact⟨rfl,Below.refl _ _⟩
 ·rw[szV_in (by omega)]
  have h2:¬left - (n:Int)<0:=by omega
  go_enter Tryz.func113,Tryz.ntmps113;go_wp2;go_ret;exact⟨rfl,Below.refl _ _⟩
theorem szNet_at (w:World) {x1 x2 x3 x4:Option Addr} {k1 k2 k3 k4 c1 c2 c3 c4:Nat} (n:Nt) (left:Int) (h:netA w [.slice x1 k1 c1,.slice x2 k2 c2,.slice x3 k3 c3,.slice x4 k4 c4] n) (l0:0<=left) (l1:left<=1048576):
  Calls Tryz.prog 48 #[.agg #[.slice x1 k1 c1,.slice x2 k2 c2,.slice x3 k3 c3,.slice x4 k4 c4],.int .i64 left] w fun e w'=>e=.returned (.int .i64 (szV left (szNt n)))/\Below w.heap.size w w':=by
 obtain⟨_,_,_,_,ev,h1,h2,h3,h4⟩:=netA_iff.1 h;cases ev;obtain⟨n1,e1⟩:∃q,q=szNs n.nodes:=⟨_,rfl⟩
 obtain⟨n2,e2⟩:∃q,q=n.links.length:=⟨_,rfl⟩
 obtain⟨n3,e3⟩:∃q,q=szWs n.words:=⟨_,rfl⟩
 obtain⟨n4,e4⟩:∃q,q=szP n.past:=⟨_,rfl⟩
 have L:szNt n=n1+n2+n3+n4:=by rw[e1,e2,e3,e4];rfl
 rw[L];clear L h;have E1:=hd_ e1;have E2:=hd_ e2;have E3:=hd_ e3;have E4:=hd_ e4;clear e1 e2 e3 e4;have X:=(M.start w).alloc #[.slice x1 k1 c1,.slice x2 k2 c2,.slice x3 k3 c3,.slice x4 k4 c4] 80;obtain⟨W0,hW⟩:∃W,W=w.alloc (.cells #[.slice x1 k1 c1,.slice x2 k2 c2,.slice x3 k3 c3,.slice x4 k4 c4] 80):=⟨_,rfl⟩
 rw[<-hW]at X;have H:=hd_ X;have H1:=hd_ h1;have H2:=hd_ h2;have H3:=hd_ h3;have H4:=hd_ h4;clear X h1 h2 h3 h4;go_enter Tryz.func48,Tryz.ntmps48
 go_wp2_with fail
 rw[<-hW];clear hW;have K:=szNodes_at W0 _ n.nodes (left) ((slcA_stay nodeA_stay 5).keep H1.out H.out.below lr_) (by omega) (by omega);rw[<-E1.out]at K
 by_cases c1':(left:Int)<(n1:Int)
 ·rw[szV_out c1']at K
  refine K.mono ?_;rintro e w1 ⟨rfl,hb⟩;have F:=hd_ (H.out.later hb);clear hb H;go_wp2;go_ret;exact⟨by exact congrArg (fun z=>Ending.returned (Value.int .i64 z)) (if_pos (show left<((n1+n2+n3+n4:Nat):Int) by omega)).symm,F.out.below⟩
 rw[szV_in (by omega)]at K;have nz1:¬(left:Int) - (n1:Int)<0:=by omega
 refine K.mono ?_;rintro e w1 ⟨rfl,hb⟩;replace H:=hd_ (H.out.later hb);clear hb K c1';obtain⟨d0,d1,d2,d3⟩:=H.out.cells4;have K:=szLinks_at w1 _ n.links (left - (n1:Int)) (linksA_stay.keep H2.out H.out.below lr_) (by omega) (by omega);rw[<-E2.out]at K
 by_cases c2':(left - (n1:Int):Int)<(n2:Int)
 ·rw[szV_out c2']at K
  go_wp2_with fail
  refine K.mono ?_;rintro e w2 ⟨rfl,hb⟩;have F:=hd_ (H.out.later hb);clear hb H d0 d1 d2 d3;go_wp2;go_ret;exact⟨by exact congrArg (fun z=>Ending.returned (Value.int .i64 z)) (if_pos (show left<((n1+n2+n3+n4:Nat):Int) by omega)).symm,F.out.below⟩
 rw[szV_in (by omega)]at K;have nz2:¬(left - (n1:Int):Int) - (n2:Int)<0:=by omega
 go_wp2_with fail
 refine K.mono ?_;rintro e w2 ⟨rfl,hb⟩;replace H:=hd_ (H.out.later hb);clear hb K c2' d0 d1 d2 d3;obtain⟨d0,d1,d2,d3⟩:=H.out.cells4;have K:=szWords_at w2 _ n.words (left - (n1:Int) - (n2:Int)) ((slcA_stay wordA_stay 6).keep H3.out H.out.below lr_) (by omega) (by omega);rw[<-E3.out]at K
 by_cases c3':(left - (n1:Int) - (n2:Int):Int)<(n3:Int)
 ·rw[szV_out c3']at K
  go_wp2_with fail
  refine K.mono ?_;rintro e w3 ⟨rfl,hb⟩;have F:=hd_ (H.out.later hb);clear hb H d0 d1 d2 d3;go_wp2;go_ret;exact⟨by exact congrArg (fun z=>Ending.returned (Value.int .i64 z)) (if_pos (show left<((n1+n2+n3+n4:Nat):Int) by omega)).symm,F.out.below⟩
 rw[szV_in (by omega)]at K;have nz3:¬(left - (n1:Int) - (n2:Int):Int) - (n3:Int)<0:=by omega
 go_wp2_with fail
 refine K.mono ?_;rintro e w3 ⟨rfl,hb⟩;replace H:=hd_ (H.out.later hb);clear hb K c3' d0 d1 d2 d3;obtain⟨d0,d1,d2,d3⟩:=H.out.cells4;have K:=szPast_at w3 _ n.past (left - (n1:Int) - (n2:Int) - (n3:Int)) (pastA_stay.keep H4.out H.out.below lr_) (by omega) (by omega);rw[<-E4.out]at K
 by_cases c4':(left - (n1:Int) - (n2:Int) - (n3:Int):Int)<(n4:Int)
 ·rw[szV_out c4']at K
  go_wp2_with fail
  refine K.mono ?_;rintro e w4 ⟨rfl,hb⟩;have F:=hd_ (H.out.later hb);clear hb H d0 d1 d2 d3;go_wp2;go_ret;exact⟨by exact congrArg (fun z=>Ending.returned (Value.int .i64 z)) (if_pos (show left<((n1+n2+n3+n4:Nat):Int) by omega)).symm,F.out.below⟩
 rw[szV_in (by omega)]at K;have nz4:¬(left - (n1:Int) - (n2:Int) - (n3:Int):Int) - (n4:Int)<0:=by omega
 go_wp2_with fail
 refine K.mono ?_;rintro e w4 ⟨rfl,hb⟩;replace H:=hd_ (H.out.later hb);clear hb K c4' d0 d1 d2 d3;go_wp2;go_ret;exact⟨by exact congrArg (fun z=>Ending.returned (Value.int .i64 z)) (show left - (n1:Int) - (n2:Int) - (n3:Int) - (n4:Int)=if left<((n1+n2+n3+n4:Nat):Int)then -1 else left - ((n1+n2+n3+n4:Nat):Int) by rw[if_neg (by omega)];omega),H.out.below⟩
end N
end Go.Proofs.YtcblbdpdbggkbaaGreat
set_option linter.unusedVariables false
set_option linter.unusedSectionVars false
set_option linter.unusedSimpArgs false
namespace Go.Proofs.YtcblbdpdbggkbaaGreat
open Go.RowKit
theorem spSame_short (x y:Option Addr) (n m c d:Nat) (w:World) (h:n≠m\/(n=0/\m=0)):
  Calls Tryz.prog 296 #[.slice x n c,.slice y m d] w fun e w'=>e=.returned (.bool (decide (n=m)))/\w=w':=by
 rcases h with h|⟨rfl,rfl⟩
 ·have hn:((n:Int) != (m:Int))=true:=by simp;omega
  go_enter Tryz.func296,Tryz.ntmps296;go_wp2;go_ret;exact⟨by simpa using h,rfl⟩
 ·go_enter Tryz.func296,Tryz.ntmps296
  go_wp2;refine wp_loop_rounds 1 ?_;rw[rounds_succ];go_wp2;go_ret;exact⟨by simp,rfl⟩
theorem spSame_long (b o c b' o' c' n:Nat) (za zb:List Int) (w:World) (hn:n<=maxLen) (ha:za.length=n) (hb:zb.length=n)
  (hca:∀i,i<n->w.cell? ⟨b,o+i,none⟩=some (.int .i64 (za.getD i 0))) (hcb:∀i,i<n->w.cell? ⟨b',o'+i,none⟩=some (.int .i64 (zb.getD i 0))):
  Calls Tryz.prog 296 #[.slice (some ⟨b,o,none⟩) n c,.slice (some ⟨b',o',none⟩) n c'] w fun e w'=>e=.returned (.bool (decide (za=zb)))/\∃m,w'=w.drewN m:=by
 unfold maxLen at hn;have Ha:=hd_ ha;have Hb:=hd_ hb;have Hca:=hd_ hca;have Hcb:=hd_ hcb;clear ha hb hca hcb;go_enter Tryz.func296,Tryz.ntmps296;go_wp2;go_loopw [5] (fun i wr=>∃k:Nat,k<=n/\i=.int .i64 k/\(∀j,j<k->za.getD j 0=zb.getD j 0)/\∃m,wr=w.drewN m) (fun i _=>n - (intOf i).toNat)
 case atStart=>exact⟨0,Nat.zero_le _,rfl,fun _ h=>absurd h (Nat.not_lt_zero _),0,rfl⟩
 case round=>
  obtain⟨k,hk,rfl,heq,m,rfl⟩:=hrel;have HE:=hd_ heq;clear heq
  by_cases hlt:k<n
  ·have h1:=Hca.out k hlt
   have h2:=Hcb.out k hlt;obtain⟨x,hx⟩:∃x,za.getD k 0=x:=⟨_,rfl⟩
   obtain⟨y,hy⟩:∃y,zb.getD k 0=y:=⟨_,rfl⟩
   rw[hx]at h1;rw[hy]at h2;have HX:=hd_ hx;have HY:=hd_ hy;clear hx hy;have k0:(0:Int)<=(k:Int):=by omega
   have k1:(k:Int)<(n:Int):=by omega
   by_cases he:x=y
   ·subst he
    go_wp2
    go_quiet (fail)
    go_wp2;go_roundw
    case rel=>exact⟨k+1,by omega,by go_num,fun j hj=>by
          by_cases h:j<k
          · exact HE.out j h
          · obtain rfl:j=k:=by omega
            rw[HX.out,HY.out],_,rfl⟩
    case measure=>simp[intOf];omega
   ·have he':(x != y)=true:=by simpa using he
    go_wp2
    go_quiet (fail)
    go_wp2;go_ret;exact⟨ret_bool (ne_of_get (i:=k) (d:=0) (by rw[HX.out,HY.out];exact he)).symm,_,World.drewN_drewN _ _ _⟩
  ·have fin:Hid (decide (za=zb)=true):=eq_of_get (d:=0) Ha.out Hb.out (fun i hi=>HE.out i (by omega))
   go_wp2;go_ret;exact⟨ret_bool fin.out.symm,_,rfl⟩
theorem spSame_at (w:World) (u v:Value) (za zb:List Int) (ha:Ints w u za) (hb:Ints w v zb) (hl:za.length<=maxLen):
  Calls Tryz.prog 296 #[u,v] w fun e w'=>e=.returned (.bool (decide (za=zb)))/\∃m,w'=w.drewN m:=by
 obtain⟨⟨x,c,hx⟩,qa⟩:=ha.cases;obtain⟨⟨y,d,hy⟩,qb⟩:=hb.cases
 by_cases h:za.length≠zb.length\/(za.length=0/\zb.length=0)
 ·rw[hx,hy]
  refine (spSame_short x y _ _ c d w h).mono fun e w' ⟨he,hw⟩=>⟨?_,0,hw.symm⟩
  rw[he];refine ret_bool ?_;rcases h with h|⟨h1,h2⟩
  ·rw[ne_of_len h];simpa using h
  ·rw[List.eq_nil_of_length_eq_zero h1,List.eq_nil_of_length_eq_zero h2];simp
 ·have e:za.length=zb.length:=by omega
  rcases qa with qa|⟨b,o,c,rfl,hca⟩
  ·omega
  rcases qb with qb|⟨b',o',c',rfl,hcb⟩
  ·omega
  rw[<-e]at hcb ⊢;exact spSame_long b o c b' o' c' _ za zb w hl rfl e.symm hca hcb
end Go.Proofs.YtcblbdpdbggkbaaGreat
set_option linter.unusedVariables false
set_option linter.unusedSectionVars false
set_option linter.unusedSimpArgs false
namespace Go.Proofs.YtcblbdpdbggkbaaGreat
open Go.RowKit Go.Sort
section
variable {w w0 w':World} {B b:Nat} {l:List Ch} {t:TypeId}
theorem M.sum {V:SV} {s:Sm} (h:M B w0 w l) (hb:Below w.heap.size w w') (ho:OwnS w' w.heap.size w'.heap.size V s):M B w0 w' (sumR_frame.ch [.slice V.xr V.nr V.cr,.slice V.xf V.nf V.cf,.slice V.xt V.nt V.ct,.int .i64 s.lo,.int .i64 s.al,.slice V.xk V.nk V.ck,.int .i64 s.ka] s::l):=by
 obtain⟨fp,h1,h2,h3⟩:=ho.rep;exact h.got sumR_frame hb ⟨h1,h2,fun b hb=>(h3 b hb).1⟩
end
namespace N
def TY:Ty:=⟨64,55,123,4,34⟩
def knownC (v:Value) (es:List En):Ch:=slcC entryR_frame 64 10 v es
def nodeC (cs:List Value) (x:Nd):Ch:=(nodeR_frame (T:=TY)).ch cs x
def wordC (cs:List Value) (x:Wd):Ch:=(wordR_frame (T:=TY)).ch cs x
def nodesC (v:Value) (xs:List Nd):Ch:=slcC (nodeR_frame (T:=TY)) 55 5 v xs
def wordsC (v:Value) (xs:List Wd):Ch:=slcC (wordR_frame (T:=TY)) 123 6 v xs
def linksC (v:Value) (xs:List Bool):Ch:=slcC (flatR_frame encB) 4 1 v xs
def intsC (v:Value) (xs:List Int):Ch:=intsR_frame.ch [v] xs
def rowsC (v:Value) (xs:List (List Int)):Ch:=slcC intsR_frame 23 1 v xs
def pastC (v:Value) (xs:List (List (List Int))):Ch:=slcC rowsR_frame 34 1 v xs
theorem entS:SlT Tryz.prog 53 64 (.agg #[.int .i64 0,.int .i64 0,.int .i64 0,.slice none 0 0,.slice none 0 0,.slice none 0 0,.int .i64 0,.int .i64 0,.slice none 0 0,.int .i64 0]) 10 144:=⟨Tryz.underlying53,by kernel_rfl,rfl,by decide⟩
theorem nodeS:SlT Tryz.prog 25 55 (.agg #[.int .i64 0,.slice none 0 0,.int .i64 0,.int .i64 0,.int .i64 0]) 5 56:=⟨Tryz.underlying25,by kernel_rfl,rfl,by decide⟩
theorem wordS:SlT Tryz.prog 27 123 (.agg #[.int .i64 0,.int .i64 0,.int .i64 0,.int .i64 0,.int .i64 0,.slice none 0 0]) 6 64:=⟨Tryz.underlying27,by kernel_rfl,rfl,by decide⟩
theorem linkS:SlT Tryz.prog 26 4 (.bool false) 1 1:=⟨Tryz.underlying26,by kernel_rfl,rfl,by decide⟩
theorem intS:SlT Tryz.prog 23 3 (.int .i64 0) 1 8:=⟨Tryz.underlying23,by kernel_rfl,rfl,by decide⟩
theorem rowsS:SlT Tryz.prog 28 34 (.slice none 0 0) 1 24:=⟨Tryz.underlying28,by kernel_rfl,rfl,by decide⟩
section
variable {w w0 w':World} {B b:Nat} {l:List Ch}
theorem _root_.Go.Proofs.YtcblbdpdbggkbaaGreat.M.soft {α:Type} {enc:α->List Value} {e:TypeId} {size:Nat} {v:Value} {xs:List α} (h:M B w0 w (slcC (flatR_frame enc) e size v xs::l)):M B w0 w ((flR_frame (e:=e) (size:=size) (enc:=enc)).ch [v] xs::l):=
 h.to fun f hf nd=>⟨f,.inl hf,nd,fun _ hb=>hb⟩
theorem _root_.Go.Proofs.YtcblbdpdbggkbaaGreat.M.entry {V:SV} {s:Sm} (i born num:Int) (h:M B w0 w (sumR_frame.ch [.slice V.xr V.nr V.cr,.slice V.xf V.nf V.cf,.slice V.xt V.nt V.ct,.int .i64 s.lo,.int .i64 s.al,.slice V.xk V.nk V.ck,.int .i64 s.ka] s::l)):M B w0 w (entryR_frame.ch [.int .i64 i,.int .i64 born,.int .i64 num,.slice V.xr V.nr V.cr,.slice V.xf V.nf V.cf,.slice V.xt V.nt V.ct,.int .i64 s.lo,.int .i64 s.al,.slice V.xk V.nk V.ck,.int .i64 s.ka] ⟨i,born,num,s⟩::l):=
 h.to fun f hf nd=>⟨f,entryR_iff.2 ⟨_,rfl,hf⟩,nd,fun _ h=>h⟩
theorem _root_.Go.Proofs.YtcblbdpdbggkbaaGreat.M.node {v:Value} {es:List En} (born beacon level up:Int) (h:M B w0 w (knownC v es::l)):M B w0 w (nodeC [.int .i64 born,v,.int .i64 beacon,.int .i64 level,.int .i64 up] ⟨born,es,beacon,level,up⟩::l):=
 h.to fun f hf nd=>⟨f,nodeR_iff.2 ⟨_,rfl,hf⟩,nd,fun _ h=>h⟩
theorem _root_.Go.Proofs.YtcblbdpdbggkbaaGreat.M.word {v:Value} {es:List En} (kind src dst beacon level:Int) (h:M B w0 w (knownC v es::l)):M B w0 w (wordC [.int .i64 kind,.int .i64 src,.int .i64 dst,.int .i64 beacon,.int .i64 level,v] ⟨kind,src,dst,beacon,level,es⟩::l):=
 h.to fun f hf nd=>⟨f,wordR_iff.2 ⟨_,rfl,hf⟩,nd,fun _ h=>h⟩
theorem _root_.Go.Proofs.YtcblbdpdbggkbaaGreat.M.net {v1 v2 v3 v4:Value} {ns:List Nd} {ls:List Bool} {ws:List Wd} {ps:List (List (List Int))} (h:M B w0 w (nodesC v1 ns::linksC v2 ls::wordsC v3 ws::pastC v4 ps::l)):∃fp,Sole (netR TY) B w [v1,v2,v3,v4] ⟨ns,ls,ws,ps⟩ fp:=by
 obtain⟨_,⟨f1,_,rfl,h1,⟨f2,_,rfl,h2,⟨f3,_,rfl,h3,⟨f4,f5,rfl,h4,_⟩⟩⟩⟩,nd,lo⟩:=h.own;have e:f1++(f2++(f3++(f4++f5)))=(f1++(f2++(f3++f4)))++f5:=by simp
 rw[e]at nd lo;exact⟨_,netR_iff.2 ⟨_,_,_,_,_,_,_,_,rfl,rfl,h1,h2,h3,h4⟩,(List.nodup_append.1 nd).1,fun b hb=>lo b (List.mem_append_left _ hb)⟩
end
end N
section
variable {α:Type} {A:Rep α} {e:TypeId} {size:Nat} {w w' w0:World} {B i:Nat} {l:List Ch} {xs:List α} {x:α} {v:Value} {ci:List Value}
def holeC (FA:A.Frame) (e:TypeId) (size i:Nat) (v:Value) (xs:List α) (ci:List Value):Ch:=⟨fun w fp=>∃c f,w.ownsRow 0 e size v xs.length ((List.range xs.length).map c).flatten/\(∀j,j<xs.length->(c j).length=size)/\c i=ci/\f i=[]/\(∀j a,j≠i->xs[j]? =some a->A w (c j) a (f j))/\fp=fps v xs.length f,
  fun⟨c,f,ho,_,_,hf,ha,e1⟩ b hb=>(by
    rw[e1]at hb
    rcases mem_split hb with q|⟨j,hj,q⟩
    · exact (ho.lt b q).2
    · by_cases ji:j=i
      · rw[ji,hf]at q;cases q
      · exact FA.lt (ha j _ ji (List.getElem?_eq_getElem hj)) b q),
  fun⟨c,f,ho,hl,hc,hf,ha,e1⟩ hk hs=>⟨c,f,ownsRow_same ho (fun g hg=>hk g (by rw[e1];exact mem_own hg)),hl,hc,hf,fun j a ji hj=>FA.keep (ha j a ji hj) (fun b hb=>hk b (by rw[e1];exact mem_el (List.getElem?_eq_some_iff.1 hj).1 hb)) hs,e1⟩⟩
theorem M.open (FA:A.Frame) (h:M B w0 w (slcC FA e size v xs::l)) (hi:xs[i]? =some x):∃g cap ci,v=.slice (some ⟨g,0,none⟩) xs.length cap/\ci.length=size/\M B w0 w (FA.ch ci x::holeC FA e size i v xs ci::l):=by
 have hlt:i<xs.length:=(List.getElem?_eq_some_iff.1 hi).1;obtain⟨f,hf,_⟩:=h.first;obtain⟨v',c,f,ev,E,_⟩:=slcR_els hf;cases ev;obtain⟨g,cap,ev⟩:∃g cap,v=.slice (some ⟨g,0,none⟩) xs.length cap:=by
  rcases E.own.2 with ⟨_,h0⟩|⟨g,cap,cur,e1,_⟩
  ·omega
  ·exact⟨g,cap,e1⟩
 have key:∀F,(slcC FA e size v xs).at_ w F->F.Nodup->∃F',((FA.ch (c i) x).sep (holeC FA e size i v xs (c i))).at_ w F'/\F'.Nodup/\∀b ∈ F',b ∈ F:=fun F hF nd=>by
  obtain⟨v2,c2,f2,ev2,E2,rfl⟩:=slcR_els hF;cases ev2;have ec:c2 i=c i:=by
   apply List.ext_getElem?;intro k
   by_cases hk:k<size
   ·have z1:(c i)[k]? =some ((c i)[k]'(by rw[E.len i hlt];exact hk)):=List.getElem?_eq_getElem _
    have z2:(c2 i)[k]? =some ((c2 i)[k]'(by rw[E2.len i hlt];exact hk)):=List.getElem?_eq_getElem _;obtain⟨g1,_,q1,_,_,_,_,r1⟩:=E.cell hlt z1;obtain⟨g2,_,q2,_,_,_,_,r2⟩:=E2.cell hlt z2;rw[q1]at q2;cases q2;rw[r1]at r2;rw[z1,z2,r2]
   ·rw[List.getElem?_eq_none (by rw[E2.len i hlt];omega),List.getElem?_eq_none (by rw[E.len i hlt];omega)]
  obtain⟨⟨n1,n2⟩,n3⟩:=fps_nodup.1 nd;have nh:(fps v xs.length (upd f2 i [])).Nodup:=fps_changed nd hlt List.nodup_nil (fun b hb=>by cases hb);have sub:∀b ∈ fps v xs.length (upd f2 i []),b ∈ fps v xs.length f2/\b ∉ f2 i:=fun b hb=>by
   rcases mem_split hb with q|⟨j,hj,q⟩
   ·exact⟨mem_own q,n3 b q i hlt⟩
   ·by_cases ji:j=i
    ·rw[ji,upd_same]at q;cases q
    ·rw[upd_other _ _ ji]at q
     exact⟨mem_el hj q,fun q2=>n2 j i hj hlt ji b q q2⟩
  refine⟨f2 i++fps v xs.length (upd f2 i []),⟨_,_,rfl,by rw[<-ec];exact E2.one i x hi,c2,upd f2 i [],ownsRow_base E2.own (Nat.zero_le _),E2.len,ec,upd_same _ _ _,fun j a ji hj=>by rw[upd_other _ _ ji];exact E2.one j a hj,rfl⟩,List.nodup_append.2 ⟨n1 i hlt,nh,fun a h1 b h2 e1=>(sub b h2).2 (by rw[<-e1];exact h1)⟩,fun b hb=>?_⟩;rcases List.mem_append.1 hb with q|q
  ·exact mem_el hlt q
  ·exact (sub b q).1
 exact⟨g,cap,c i,ev,E.len i hlt,(h.to key).two⟩
theorem M.close {FA:A.Frame} (h:M B w0 w (FA.ch ci x::holeC FA e size i v xs ci::l)) (hi:i<xs.length):M B w0 w (slcC FA e size v (xs.set i x)::l):=
 h.sep.to fun F hF nd=>by
  obtain⟨f1,_,rfl,hx,c,f,ho,hl,hc,hf,ha,rfl⟩:=hF;obtain⟨n1,n2,n3⟩:=List.nodup_append.1 nd;have ln:(xs.set i x).length=xs.length:=List.length_set;refine⟨fps v (xs.set i x).length (upd f i f1),Els.rep (B:=0) ⟨by rw[ln];exact ho,fun j hj=>hl j (by rw[<-ln];exact hj),fun j a hj=>?_⟩,?_,fun b hb=>?_⟩
  ·by_cases ji:j=i
   ·subst ji
    rw[upd_same];rw[List.getElem?_set_self hi]at hj;cases hj;rw[hc];exact hx
   ·rw[upd_other _ _ ji]
    rw[List.getElem?_set_ne (fun q=>ji q.symm)]at hj;exact ha j a ji hj
  ·rw[ln]
   refine fps_changed n2 hi n1 fun b hb=>.inr fun q=>n3 b hb b q rfl
  ·rw[ln]at hb
   rcases fps_mem_changed hb with q|q
   ·exact List.mem_append_right _ q
   ·exact List.mem_append_left _ q
section
variable {g n cap j:Nat} {FA:A.Frame} {u:Value}
theorem M.hcell (h:M B w0 w (holeC FA e size i (.slice (some ⟨g,0,none⟩) n cap) xs ci::l)) (hi:i<xs.length) (hj:ci[j]? =some u):w.cell? ⟨g,i * size+j,none⟩=some u:=by
 obtain⟨F,⟨c,f,ho,hl,hc,hf,ha,rfl⟩,_⟩:=h.first;have hk:j<size:=by have:=(List.getElem?_eq_some_iff.1 hj).1;rw[<-hc,hl i hi]at this;exact this
 have lt:i * size+j<xs.length * size:=by
  have:i * size+size<=xs.length * size:=by rw[<-Nat.succ_mul];exact Nat.mul_le_mul_right _ hi
  omega
 have ho':w.ownsRow 0 e size (.slice (some ⟨g,0,none⟩) xs.length cap) xs.length ((List.range xs.length).map c).flatten:=by
  rcases ho.2 with ⟨q,_⟩|⟨_,_,_,q,_⟩
  ·cases q
  ·cases q;exact ho
 have:=World.ownsRow.cellAt ho' _ lt;rw[this,flat_at hl hi hk,hc,hj]
theorem M.hfree (h:M B w0 w (holeC FA e size i (.slice (some ⟨g,0,none⟩) n cap) xs ci::l)) (k:Nat):w.frozen? ⟨g,k,none⟩=false:=by
 obtain⟨F,⟨c,f,ho,_⟩,_⟩:=h.first;rcases ho.2 with ⟨q,_⟩|⟨g',cap',cur,q,_,hg,_⟩
 ·cases q
 ·cases q;simp[World.frozen?,hg]
theorem M.hset (h:M B w0 w (holeC FA e size i (.slice (some ⟨g,0,none⟩) n cap) xs ci::l)) (hi:i<xs.length) (hj:j<size) (u:Value):M B w0 (w.setCell ⟨g,i * size+j,none⟩ u) (holeC FA e size i (.slice (some ⟨g,0,none⟩) n cap) xs (ci.set j u)::l):=
 h.turn fun F hF nd lo=>by
  obtain⟨c,f,ho,hl,hc,hf,ha,rfl⟩:=hF;obtain⟨⟨n1,n2⟩,n3⟩:=fps_nodup.1 nd;have ho':w.ownsRow 0 e size (.slice (some ⟨g,0,none⟩) xs.length cap) xs.length ((List.range xs.length).map c).flatten:=by
   rcases ho.2 with ⟨q,_⟩|⟨_,_,_,q,_⟩
   ·cases q
   ·cases q;exact ho
  have en:n=xs.length:=by
   rcases ho.2 with ⟨q,_⟩|⟨_,_,_,q,_⟩
   ·cases q
   ·cases q;rfl
  obtain⟨s1,s2⟩:=World.ownsRow.stored ho' (i * size+j) u;refine⟨KeptB.of_grown s2 (mem_own rfl),fps (.slice (some ⟨g,0,none⟩) n cap) xs.length f,⟨upd c i (ci.set j u),f,?_,fun k hk=>?_,upd_same _ _ _,hf,fun k a ki hk=>?_,rfl⟩,nd,fun b hb=>.inl hb⟩
  ·rw[<-hc, <-flat_set hl hi hj,en];exact s1
  ·by_cases q:k=i
   ·rw[q,upd_same,List.length_set, <-hc];exact hl i hi
   ·rw[upd_other _ _ q];exact hl k hk
  ·rw[upd_other _ _ ki]
   have kl:=(List.getElem?_eq_some_iff.1 hk).1;exact FA.keep (ha k a ki hk) (fun b hb=>s2.block b (FA.lt (ha k a ki hk) b hb) fun q=>n3 b q.symm k kl hb) s2.size
theorem M.hcell1 {u:Value} (h:M B w0 w (holeC FA e 1 i (.slice (some ⟨g,0,none⟩) n cap) xs [u]::l)) (hi:i<xs.length):w.cell? ⟨g,i,none⟩=some u:=by
 have:=h.hcell (j:=0) (u:=u) hi rfl;rwa[Nat.mul_one,Nat.add_zero]at this
theorem M.hset1 {u:Value} (h:M B w0 w (holeC FA e 1 i (.slice (some ⟨g,0,none⟩) n cap) xs [u]::l)) (hi:i<xs.length) (y:Value):M B w0 (w.setCell ⟨g,i,none⟩ y) (holeC FA e 1 i (.slice (some ⟨g,0,none⟩) n cap) xs [y]::l):=by
 have:=h.hset hi (j:=0) (by omega) y;rwa[Nat.mul_one,Nat.add_zero]at this
end
end
end Go.Proofs.YtcblbdpdbggkbaaGreat
set_option linter.unusedVariables false
set_option linter.unusedSectionVars false
set_option linter.unusedSimpArgs false
namespace Go.Proofs.YtcblbdpdbggkbaaGreat.N
open Go.RowKit Go.Sort
theorem in6_iff {x a b:Int}:in6 x a b=true↔a<=x/\x<=b:=decide_eq_true_iff
def sameS (a b:Sm):Bool:=decide (a.rs=b.rs)&&(decide (a.zs=b.zs)&&(decide (a.ps=b.ps)&&(decide (a.lo=b.lo)&&(decide (a.al=b.al)&&(decide (a.ks=b.ks)&&decide (a.ka=b.ka))))))
theorem sameS_iff {a b:Sm}:sameS a b=true↔a=b:=by
 unfold sameS;simp only[Bool.and_eq_true,decide_eq_true_eq]
 constructor
 ·rintro⟨h1,h2,h3,h4,h5,h6,h7⟩
  cases a;cases b;simp only at h1 h2 h3 h4 h5 h6 h7;rw[h1,h2,h3,h4,h5,h6,h7]
 ·rintro rfl
  exact⟨rfl,rfl,rfl,rfl,rfl,rfl,rfl⟩
def entryB (n:Nt) (e:En):Bool:=in6 e.node 0 4&&(in6 e.born 1 (nodeAt n e.node).born&&(in6 e.num 0 (pastAt n e.node e.born).length&&(okS (upS ((pastAt n e.node e.born).take e.num.toNat))&&sameS (upS ((pastAt n e.node e.born).take e.num.toNat)) e.s)))
theorem entryB_iff {n:Nt} {e:En}:entryB n e=true↔TrueE n e:=by
 unfold entryB;simp only[Bool.and_eq_true,in6_iff,sameS_iff];exact⟨fun⟨a,b,c,d,f⟩=>⟨a,b,c,d,f.symm⟩,fun⟨a,b,c,d,f⟩=>⟨a,b,c,d,f.symm⟩⟩
def ascB:List En->Bool
 |x::y::l=>decide (x.node<y.node)&&ascB (y::l)
 |_=>true
theorem ascB_iff:∀{es:List En},ascB es=true↔es.Pairwise Before
 | []=>⟨fun _=>List.Pairwise.nil,fun _=>rfl⟩
 | [x]=>⟨fun _=>List.pairwise_singleton _ _,fun _=>rfl⟩
 |x::y::l=>by
  unfold ascB;rw[Bool.and_eq_true,decide_eq_true_eq,ascB_iff (es:=y::l),List.pairwise_cons (a:=x)]
  constructor
  ·rintro⟨h,k⟩
   refine⟨fun z hz=>?_,k⟩;rcases List.mem_cons.1 hz with rfl|hz
   ·exact h
   ·have:=(List.pairwise_cons.1 k).1 z hz
    unfold Before at this ⊢;omega
  ·rintro⟨h,k⟩
   exact⟨h y (List.mem_cons_self ..),k⟩
def knownB (n:Nt) (es:List En):Bool:=es.all (entryB n)&&ascB es
theorem knownB_iff {n:Nt} {es:List En}:knownB n es=true↔KnownOk n es:=by
 unfold knownB;rw[Bool.and_eq_true,List.all_eq_true,ascB_iff];exact⟨fun⟨a,b⟩=>⟨fun e he=>entryB_iff.1 (a e he),b⟩,fun⟨a,b⟩=>⟨fun e he=>entryB_iff.2 (a e he),b⟩⟩
def rowB (l:List Int):Bool:=l.all (fun t=>in6 t 0 63)&&decide (l.length<=100)
def pastB (n:Nt) (i:Int):Bool:=decide (((rowsAt n i).length:Int)=(nodeAt n i).born+1)&&(decide ((pastAt n i 0).length=0)&&(rowsAt n i).all rowB)
theorem pastB_iff {n:Nt} {i:Int}:pastB n i=true↔PastOk n i:=by
 unfold pastB rowB;simp only[Bool.and_eq_true,decide_eq_true_eq,List.all_eq_true,in6_iff];exact⟨fun⟨a,b,c⟩=>⟨a,List.eq_nil_of_length_eq_zero b,fun l hl=>(c l hl).2,fun l hl=>(c l hl).1⟩,fun⟨a,b,c,d⟩=>⟨a,by rw[b];rfl,fun l hl=>⟨d l hl,c l hl⟩⟩⟩
def ownB (n:Nt) (i:Int):Bool:=match findE (nodeAt n i).known i with
 |some e=>decide (e.born=(nodeAt n i).born)&&decide (e.num=(pastAt n i (nodeAt n i).born).length)
 |none=>false
theorem ownB_iff {n:Nt} {i:Int}:ownB n i=true↔OwnOk n i:=by
 unfold ownB OwnOk;cases h:findE (nodeAt n i).known i with
 |none=>simp
 |some e=>simp
def wayB (n:Nt) (i:Int):Bool:=
 if i=0 then decide ((nodeAt n i).level=0)&&(decide ((nodeAt n i).up= -1)&&decide (0<=(nodeAt n i).beacon))
 else in6 (nodeAt n i).beacon 0 (nodeAt n 0).beacon&&(in6 (nodeAt n i).level 1 5&&(decide ((nodeAt n i).up= -1↔(nodeAt n i).level=5)&&(in6 (nodeAt n i).up (-1) 4&&decide ((nodeAt n i).up≠i))))
theorem wayB_iff {n:Nt} {i:Int}:wayB n i=true↔WayOk n i:=by
 unfold wayB
 by_cases h:i=0
 ·subst h
  rw[if_pos rfl];simp only[Bool.and_eq_true,decide_eq_true_eq];exact⟨fun⟨a,b,c⟩=>⟨⟨c,Int.le_refl _⟩,fun _=>⟨a,b⟩,fun q=>absurd rfl q,fun q=>absurd rfl q,fun q=>absurd rfl q⟩,fun W=>⟨(W.root rfl).1,(W.root rfl).2,W.beacon.1⟩⟩
 ·rw[if_neg h]
  simp only[Bool.and_eq_true,decide_eq_true_eq,in6_iff];exact⟨fun⟨a,b,c,d,e⟩=>⟨a,fun q=>absurd q h,fun _=>b,fun _=>c,fun _=>⟨d,e⟩⟩,fun W=>⟨W.beacon,W.level h,W.none h,(W.up h).1,(W.up h).2⟩⟩
def nodeB (n:Nt) (i:Int):Bool:=ownB n i&&(knownB n (nodeAt n i).known&&wayB n i)
def endsB (w:Wd):Bool:=in6 w.src 0 4&&(in6 w.dst 0 4&&decide (w.src≠w.dst))
def wordB (n:Nt) (w:Wd):Bool:=
 if w.kind=1 then endsB w&&(in6 w.beacon 0 (nodeAt n 0).beacon&&(in6 w.level 0 4&&decide (w.known.length=0)))
 else if w.kind=2 then endsB w&&(decide (w.beacon=0)&&(decide (w.level=0)&&knownB n w.known))
 else false
theorem wordB_iff {n:Nt} {w:Wd}:wordB n w=true↔WordOk n w:=by
 unfold wordB endsB
 by_cases h:w.kind=1
 ·rw[if_pos h]
  simp only[Bool.and_eq_true,decide_eq_true_eq,in6_iff];refine⟨fun⟨⟨a,b,c⟩,d,e,f⟩=>⟨a,b,c,.inl ⟨h,d,e,List.eq_nil_of_length_eq_zero f⟩⟩,fun W=>⟨⟨W.src,W.dst,W.other⟩,?_⟩⟩;rcases W.kind with ⟨_,d,e,f⟩|⟨k,_⟩
  ·exact⟨d,e,by rw[f];rfl⟩
  ·omega
 ·rw[if_neg h]
  by_cases k:w.kind=2
  ·rw[if_pos k]
   simp only[Bool.and_eq_true,decide_eq_true_eq,in6_iff,knownB_iff];refine⟨fun⟨⟨a,b,c⟩,d,e,f⟩=>⟨a,b,c,.inr ⟨k,d,e,f⟩⟩,fun W=>⟨⟨W.src,W.dst,W.other⟩,?_⟩⟩;rcases W.kind with ⟨q,_⟩|⟨_,d,e,f⟩
   ·exact absurd q h
   ·exact⟨d,e,f⟩
  ·rw[if_neg k]
   refine⟨fun c=>(by cases c),fun W=>?_⟩;rcases W.kind with ⟨q,_⟩|⟨q,_⟩
   ·exact absurd q h
   ·exact absurd q k
def sizeB (n:Nt):Bool:=decide (n.nodes.length=5)&&(decide (n.past.length=5)&&(decide (n.links.length=25)&&decide (n.words.length<=24)))
def seatB (n:Nt) (a:Int):Bool:=in6 (nodeAt n a).born 1 20&&(pastB n a&&((whole n a a==false)&&(List.range a.toNat).all fun b=>whole n a (b:Int)==whole n (b:Int) a))
def okNB (n:Nt):Bool:=sizeB n&&((List.range 5).all (fun a:Nat=>seatB n a)&&((List.range 5).all (fun i:Nat=>nodeB n i)&&(n.words.all (wordB n)&&in6 (nodeAt n 0).beacon 0 1000)))
theorem five {P:Int->Prop}:(∀a ∈ List.range 5,P (a:Nat))↔∀i,isNode i->P i:=by
 constructor
 ·intro h i hi
  unfold isNode at hi;have:=h i.toNat (List.mem_range.2 (by omega));rwa[show ((i.toNat:Nat):Int)=i by omega]at this
 ·intro h a ha
  have:=List.mem_range.1 ha;exact h a ⟨by omega,by omega⟩
theorem okNB_iff {n:Nt}:okNB n=true↔NetOk n:=by
 unfold okNB;simp only[Bool.and_eq_true,List.all_eq_true];rw[five (P:=fun i=>seatB n i=true),five (P:=fun i=>nodeB n i=true)];unfold sizeB seatB nodeB;simp only[Bool.and_eq_true,decide_eq_true_eq,in6_iff,pastB_iff,List.all_eq_true,beq_iff_eq,List.mem_range,ownB_iff,knownB_iff,wayB_iff,wordB_iff]
 constructor
 ·rintro⟨⟨h1,h2,h3,h4⟩,h5,h6,h7,h8⟩
  have either:∀i j,isNode i->isNode j->j<i->whole n i j=whole n j i:=fun i j hi hj l=>by
   have:=(h5 i hi).2.2.2 j.toNat (by unfold isNode at hi hj;omega);rwa[show ((j.toNat:Nat):Int)=j by unfold isNode at hj;omega]at this
  refine⟨h1,h2,h3,h4,fun i hi=>(h5 i hi).1,fun i hi=>(h5 i hi).2.1,fun i hi=>(h5 i hi).2.2.1,fun i j hi hj=>?_,fun i hi=>(h6 i hi).1,fun i hi=>(h6 i hi).2.1,fun i hi=>(h6 i hi).2.2,h7,h8.2⟩;rcases (by omega:j<i\/i=j\/i<j)with l|l|l
  ·exact either i j hi hj l
  ·rw[l]
  ·exact (either j i hj hi l).symm
 ·intro h
  refine⟨⟨h.nodes,h.past,h.links,h.words⟩,fun i hi=>⟨h.born i hi,h.pasts i hi,h.self i hi,fun b hb=>h.either i b hi ?_⟩,fun i hi=>⟨h.own i hi,h.known i hi,h.way i hi⟩,h.word,(h.way 0 ⟨by omega,by omega⟩).beacon.1,h.beacon⟩;unfold isNode at hi ⊢;omega
end Go.Proofs.YtcblbdpdbggkbaaGreat.N
set_option linter.unusedVariables false
set_option linter.unusedSectionVars false
set_option linter.unusedSimpArgs false
namespace Go.Proofs.YtcblbdpdbggkbaaGreat
open Go.RowKit Go.Sort
namespace N
theorem sameS_no {a b:Sm} (h:a≠b):sameS a b=false:=by
 rw[Bool.eq_false_iff];exact fun e=>h (sameS_iff.1 e)
theorem ints_max {w:World} {v:Value} {l:List Int} (h:Ints w v l):l.length<=maxLen:=by
 rcases h with ⟨_,rfl⟩|⟨_,_,c,_,h1,h2,_⟩
 ·exact Nat.zero_le _
 ·omega
theorem rws_at {w:World} {x:Option Addr} {n c:Nat} {rs:List (List Int)} (h:Rws w (.slice x n c) rs) {k:Nat} (hk:k<rs.length):∃b o v,x=some ⟨b,o,Option.none⟩/\w.cell? ⟨b,o+k,Option.none⟩=some v/\Ints w v (rs.getD k []):=by
 obtain⟨_,q⟩:=h.cases;rcases q with q|⟨b,o,c',e,hc⟩
 ·omega
 ·obtain⟨v,h1,h2⟩:=hc k hk
  exact⟨b,o,v,(Value.slice.inj e).1,h1,h2⟩
theorem pairs_ext {a b:List (Int × Int)} (h:a.length=b.length) (h2:∀i,i<a.length->a.getD i (0,0)=b.getD i (0,0)):a=b:=of_decide_eq_true (eq_of_get (d:=((0,0):Int × Int)) rfl h.symm h2)
theorem rws_max {w:World} {v:Value} {rs:List (List Int)} (h:Rws w v rs):rs.length<=maxLen:=by
 rcases h with ⟨_,rfl⟩|⟨_,_,c,_,h1,h2,_⟩
 ·exact Nat.zero_le _
 ·omega
theorem spSums_at (w:World) {V1 V2:SV} {s1 s2:Sm} (h1:RdS w V1 s1) (h2:RdS w V2 s2):
  Calls Tryz.prog 266 #[.agg #[.slice V1.xr V1.nr V1.cr,.slice V1.xf V1.nf V1.cf,.slice V1.xt V1.nt V1.ct,.int .i64 s1.lo,.int .i64 s1.al,.slice V1.xk V1.nk V1.ck,.int .i64 s1.ka],.agg #[.slice V2.xr V2.nr V2.cr,.slice V2.xf V2.nf V2.cf,.slice V2.xt V2.nt V2.ct,.int .i64 s2.lo,.int .i64 s2.al,.slice V2.xk V2.nk V2.ck,.int .i64 s2.ka]] w fun e w'=>e=.returned (.bool (sameS s1 s2))/\Below w.heap.size w w':=by
 obtain⟨a1,a2,a3,a4⟩:=h1.lens;obtain⟨b1,b2,b3,b4⟩:=h2.lens;obtain⟨xr,nr,cr,xf,nf,cf,xt,nt,ct,xk,nk,ck⟩:=V1;obtain⟨yr,mr,dr,yf,mf,df,yt,mt,dt,yk,mk,dk⟩:=V2;simp only at a1 a2 a3 a4 b1 b2 b3 b4;subst a1 a2 a3 a4 b1 b2 b3 b4;have M1:=rws_max h1.r;have M2:=ints_max h1.f;have M3:s1.ps.length<=maxLen:=by obtain⟨x,c,e,l1,l2⟩:=h1.t.form;omega
 have M4:s1.ks.length<=maxLen:=by obtain⟨x,c,e,l1,l2⟩:=h1.k.form;omega
 unfold maxLen at M1 M2 M3 M4;have H0:=((M.start w).alloc #[.slice xr s1.rs.length cr,.slice xf s1.zs.length cf,.slice xt s1.ps.length ct,.int .i64 s1.lo,.int .i64 s1.al,.slice xk s1.ks.length ck,.int .i64 s1.ka] 46).alloc #[.slice yr s2.rs.length dr,.slice yf s2.zs.length df,.slice yt s2.ps.length dt,.int .i64 s2.lo,.int .i64 s2.al,.slice yk s2.ks.length dk,.int .i64 s2.ka] 46
 simp only[World.size_alloc]at H0;go_enter Tryz.func266,Tryz.ntmps266;go_upto_region 1 with fail
 obtain⟨p1,hp1⟩:∃p,p=w.heap.size:=⟨_,rfl⟩
 obtain⟨p2,hp2⟩:∃p,p=w.heap.size+1:=⟨_,rfl⟩
 have HP:=hd_ hp1;rw[<-hp2, <-hp1]at H0;rw[<-hp2, <-hp1];clear hp1 hp2
 generalize ((w.alloc (.cells #[.slice xr s1.rs.length cr,.slice xf s1.zs.length cf,.slice xt s1.ps.length ct,.int .i64 s1.lo,.int .i64 s1.al,.slice xk s1.ks.length ck,.int .i64 s1.ka] 46)).alloc (.cells #[.slice yr s2.rs.length dr,.slice yf s2.zs.length df,.slice yt s2.ps.length dt,.int .i64 s2.lo,.int .i64 s2.al,.slice yk s2.ks.length dk,.int .i64 s2.ka] 46))=w1 at H0 ⊢;have H:=hd_ H0
 have R1:=hd_ h1;have R2:=hd_ h2;clear h1 h2 H0;simp only[List.append_eq,List.cons_append,List.nil_append];obtain⟨c0,c1,c2,c3,c4,c5,c6⟩:=H.out.p1.cells7;obtain⟨d0,d1,d2,d3,d4,d5,d6⟩:=H.out.cells7
 by_cases q1:s1.rs.length=s2.rs.length
 case neg=>
  have g:((s1.rs.length:Int) != (s2.rs.length:Int))=true:=by simp;omega
  have F:=hd_ (sameS_no (a:=s1) (b:=s2) fun e=>q1 (by rw[e]));clear q1;go_wp2;go_ret;exact⟨by rw[F.out];rfl,by have:=H.out.below;rwa[HP.out]at this⟩
 have g1:((s1.rs.length:Int) != (s2.rs.length:Int))=false:=by simp;omega
 have KZ:=hd_ (spSame_at _ _ _ _ _ (R1.out.f.below H.out.below (Nat.le_of_eq HP.out.symm)) (R2.out.f.below H.out.below (Nat.le_of_eq HP.out.symm)) (by unfold maxLen;exact M2));unfold SV.f at KZ;simp only at KZ;have Q1:=hd_ q1;clear q1
 go_wp2_with fail
 refine KZ.out.mono ?_;rintro e w2 ⟨rfl,m,rfl⟩;clear KZ c0 c1 c2 c3 c4 c5 c6 d0 d1 d2 d3 d4 d5 d6;have H1:=hd_ (H.out.later (below_drewN (Below.refl _ _) m));clear H;generalize World.drewN _ m=w2 at H1 ⊢;obtain⟨c0,c1,c2,c3,c4,c5,c6⟩:=H1.out.p1.cells7;obtain⟨d0,d1,d2,d3,d4,d5,d6⟩:=H1.out.cells7
 by_cases q2:s1.zs=s2.zs
 case neg=>
  have g:decide (s1.zs=s2.zs)=false:=decide_eq_false q2;have F:=hd_ (sameS_no (a:=s1) (b:=s2) fun e=>q2 (by rw[e]));clear q2;go_wp2;go_ret;exact⟨by rw[F.out];rfl,by have:=H1.out.below;rwa[HP.out]at this⟩
 have g2:decide (s1.zs=s2.zs)=true:=decide_eq_true q2;have Q2:=hd_ q2;clear q2
 by_cases q3:s1.lo=s2.lo
 case neg=>
  have g:(s1.lo != s2.lo)=true:=by simpa using q3
  have F:=hd_ (sameS_no (a:=s1) (b:=s2) fun e=>q3 (by rw[e]));clear q3;go_wp2;go_ret;exact⟨by rw[F.out];rfl,by have:=H1.out.below;rwa[HP.out]at this⟩
 have g3:(s1.lo != s2.lo)=false:=by simpa using q3
 have Q3:=hd_ q3;clear q3
 by_cases q4:s1.al=s2.al
 case neg=>
  have g:(s1.al != s2.al)=true:=by simpa using q4
  have F:=hd_ (sameS_no (a:=s1) (b:=s2) fun e=>q4 (by rw[e]));clear q4;go_wp2;go_ret;exact⟨by rw[F.out];rfl,by have:=H1.out.below;rwa[HP.out]at this⟩
 have g4:(s1.al != s2.al)=false:=by simpa using q4
 have Q4:=hd_ q4;clear q4
 by_cases q5:s1.ka=s2.ka
 case neg=>
  have g:(s1.ka != s2.ka)=true:=by simpa using q5
  have F:=hd_ (sameS_no (a:=s1) (b:=s2) fun e=>q5 (by rw[e]));clear q5;go_wp2;go_ret;exact⟨by rw[F.out];rfl,by have:=H1.out.below;rwa[HP.out]at this⟩
 have g5:(s1.ka != s2.ka)=false:=by simpa using q5
 have Q5:=hd_ q5;clear q5
 by_cases q6:s1.ps.length=s2.ps.length
 case neg=>
  have g:((s1.ps.length:Int) != (s2.ps.length:Int))=true:=by simp;omega
  have F:=hd_ (sameS_no (a:=s1) (b:=s2) fun e=>q6 (by rw[e]));clear q6;go_wp2;go_ret;exact⟨by rw[F.out];rfl,by have:=H1.out.below;rwa[HP.out]at this⟩
 have g6:((s1.ps.length:Int) != (s2.ps.length:Int))=false:=by simp;omega
 have Q6:=hd_ q6;clear q6
 by_cases q7:s1.ks.length=s2.ks.length
 case neg=>
  have g:((s1.ks.length:Int) != (s2.ks.length:Int))=true:=by simp;omega
  have F:=hd_ (sameS_no (a:=s1) (b:=s2) fun e=>q7 (by rw[e]));clear q7;go_wp2;go_ret;exact⟨by rw[F.out];rfl,by have:=H1.out.below;rwa[HP.out]at this⟩
 have g7:((s1.ks.length:Int) != (s2.ks.length:Int))=false:=by simp;omega
 have Q7:=hd_ q7;clear q7;go_wp2;clear c0 c1 c2 c3 c4 c5 c6 d0 d1 d2 d3 d4 d5 d6 g1 g2 g3 g4 g5 g6 g7
 go_loopw [5] (fun i wr=>∃k:Nat,k<=s1.rs.length/\i=.int .i64 k/\(∀j,j<k->s1.rs.getD j []=s2.rs.getD j [])/\M p1 w wr [boxC p2 46 #[.slice yr s2.rs.length dr,.slice yf s2.zs.length df,.slice yt s2.ps.length dt,.int .i64 s2.lo,.int .i64 s2.al,.slice yk s2.ks.length dk,.int .i64 s2.ka],boxC p1 46 #[.slice xr s1.rs.length cr,.slice xf s1.zs.length cf,.slice xt s1.ps.length ct,.int .i64 s1.lo,.int .i64 s1.al,.slice xk s1.ks.length ck,.int .i64 s1.ka]]) (fun i _=>s1.rs.length - (intOf i).toNat)
 case atStart=>exact⟨0,Nat.zero_le _,rfl,fun _ h=>absurd h (Nat.not_lt_zero _),H1.out⟩
 case round=>
  clear H1;obtain⟨k,hk,rfl,heq,h⟩:=hrel;have HE:=hd_ heq;have H:=hd_ h;clear heq h
  by_cases hlt:k<s1.rs.length
  ·obtain⟨b1,o1,v1,rfl,rc1,ri1⟩:=rws_at (R1.out.r.below H.out.below (Nat.le_of_eq HP.out.symm)) hlt
   obtain⟨b2,o2,v2,rfl,rc2,ri2⟩:=rws_at (R2.out.r.below H.out.below (Nat.le_of_eq HP.out.symm)) (k:=k) (by rw[<-Q1.out];exact hlt);have k0:(0:Int)<=(k:Int):=by omega
   have k1:(k:Int)<(s1.rs.length:Int):=by omega
   have k2:(k:Int)<(s2.rs.length:Int):=by have:=Q1.out;omega
   obtain⟨c0,c1,c2,c3,c4,c5,c6⟩:=H.out.p1.cells7;obtain⟨d0,d1,d2,d3,d4,d5,d6⟩:=H.out.cells7;obtain⟨l1,hl1⟩:∃l,l=s1.rs.getD k []:=⟨_,rfl⟩
   obtain⟨l2,hl2⟩:∃l,l=s2.rs.getD k []:=⟨_,rfl⟩
   rw[<-hl1]at ri1;rw[<-hl2]at ri2;have HL1:=hd_ hl1;have HL2:=hd_ hl2;clear hl1 hl2;have KZ:=hd_ (spSame_at wr.drew v1 v2 l1 l2 ri1 ri2 (ints_max ri1));clear c1 c2 c3 c4 c5 c6 d1 d2 d3 d4 d5 d6 ri1 ri2;go_upto_region 6 with fail
   refine wp_region_plan 99 (.tk 0 12 (.alt 12 (.take 13 .done) .nomore)) (fun w'=>w'.cell? ⟨p1,0,Option.none⟩=some (.slice (some ⟨b1,o1,Option.none⟩) s1.rs.length cr)/\w'.cell? ⟨p2,0,Option.none⟩=some (.slice (some ⟨b2,o2,Option.none⟩) s2.rs.length dr)/\w'.cell? ⟨b1,o1+k,Option.none⟩=some v1/\w'.cell? ⟨b2,o2+k,Option.none⟩=some v2) (by kernel_rfl) (by kernel_rfl) (fun _ _ _ _ _ h=>h) ⟨c0,d0,rc1,rc2⟩ ?_
   repeat ((first|(refine plan_take (by rfl) (by rfl) ?_;apply Exists.intro;refine⟨fun w' hw'=>?_,?_⟩;(· ((try dsimp only at hw');go_simp;(try with_reducible rfl))))|(refine plan_skip (by rfl) (by rfl) ?_));simp only[Act.put,List.getElem_toArray,List.getElem_cons_succ,pg3,pg4,pg5,pg6])
   have S0:Hid (_/\_/\_/\_):=hd_ ⟨c0,d0,rc1,rc2⟩;clear c0 d0 rc1 rc2;refine plan_last (by rfl) (fun K' hK=>?_);go_simp;refine KZ.out.mono ?_;rintro e w3 ⟨rfl,m,rfl⟩;clear KZ;have H3:=hd_ (H.out.drew.later (below_drewN (Below.refl _ _) m));clear H;refine hK _ _ (.inr S0.out) ?_;clear hK K'
   try simp only[Act.put,List.getElem_toArray,List.getElem_cons_succ,pg3,pg4,pg5,pg6]
   clear S0;generalize World.drewN _ m=w3 at H3 ⊢
   by_cases eq:l1=l2
   case neg=>
    have g:decide (l1=l2)=false:=decide_eq_false eq;have F:=hd_ (sameS_no (a:=s1) (b:=s2) fun e=>eq (by rw[HL1.out,HL2.out,e]));clear eq
    repeat ((first|(refine plan_take (by rfl) (by rfl) ?_;apply Exists.intro;refine⟨fun w' hw'=>?_,?_⟩;(· ((try dsimp only at hw');go_simp;(try with_reducible rfl))))|(refine plan_skip (by rfl) (by rfl) ?_));simp only[Act.put,List.getElem_toArray,List.getElem_cons_succ,pg3,pg4,pg5,pg6])
    refine plan_done ?_;go_wp2;go_ret;exact⟨by rw[F.out];rfl,by have:=H3.out.below;rwa[HP.out]at this⟩
   have g:decide (l1=l2)=true:=decide_eq_true eq;have HE2:Hid (∀j,j<k+1->s1.rs.getD j []=s2.rs.getD j []):=hd_ fun j hj=>by
    by_cases h:j<k
    ·exact HE.out j h
    ·obtain rfl:j=k:=by omega
     rw[<-HL1.out, <-HL2.out,eq]
   clear eq
   repeat ((first|(refine plan_take (by rfl) (by rfl) ?_;apply Exists.intro;refine⟨fun w' hw'=>?_,?_⟩;(· ((try dsimp only at hw');go_simp;(try with_reducible rfl))))|(refine plan_skip (by rfl) (by rfl) ?_));simp only[Act.put,List.getElem_toArray,List.getElem_cons_succ,pg3,pg4,pg5,pg6])
   refine plan_done ?_;go_wp2;go_roundw
   case rel=>exact⟨k+1,by omega,by go_num,HE2.out,H3.out⟩
   case measure=>simp[intOf];omega
  ·have ER:Hid (s1.rs=s2.rs):=hd_ (of_decide_eq_true (eq_of_get (d:=[]) rfl Q1.out.symm (fun i hi=>HE.out i (by omega))))
   have g:decide (k<s1.rs.length)=false:=by simpa using hlt
   obtain⟨c0,c1,c2,c3,c4,c5,c6⟩:=H.out.p1.cells7;obtain⟨d0,d1,d2,d3,d4,d5,d6⟩:=H.out.cells7;clear HE;go_wp2;clear c0 c1 c2 c3 c4 c5 c6 d0 d1 d2 d3 d4 d5 d6 g hlt
   go_loopw [6] (fun i wr=>∃k:Nat,k<=s1.ps.length/\i=.int .i64 k/\(∀j,j<k->T.pr s1.ps j=T.pr s2.ps j)/\M p1 w wr [boxC p2 46 #[.slice yr s2.rs.length dr,.slice yf s2.zs.length df,.slice yt s2.ps.length dt,.int .i64 s2.lo,.int .i64 s2.al,.slice yk s2.ks.length dk,.int .i64 s2.ka],boxC p1 46 #[.slice xr s1.rs.length cr,.slice xf s1.zs.length cf,.slice xt s1.ps.length ct,.int .i64 s1.lo,.int .i64 s1.al,.slice xk s1.ks.length ck,.int .i64 s1.ka]]) (fun i _=>s1.ps.length - (intOf i).toNat)
   case atStart=>exact⟨0,Nat.zero_le _,rfl,fun _ h=>absurd h (Nat.not_lt_zero _),H.out⟩
   case round=>
    clear H;obtain⟨k,hk,rfl,heq,h⟩:=hrel;have HE:=hd_ heq;have H:=hd_ h;clear heq h
    by_cases hlt:k<s1.ps.length
    ·obtain⟨b1,o1,rfl,_,ra1,rb1⟩:=(R1.out.t.below H.out.below (Nat.le_of_eq HP.out.symm)).cells k hlt
     obtain⟨b2,o2,rfl,_,ra2,rb2⟩:=(R2.out.t.below H.out.below (Nat.le_of_eq HP.out.symm)).cells k (by rw[<-Q6.out];exact hlt);obtain⟨x1,hx1⟩:∃x,x=(T.pr s1.ps k).1:=⟨_,rfl⟩
     obtain⟨y1,hy1⟩:∃x,x=(T.pr s1.ps k).2:=⟨_,rfl⟩
     obtain⟨x2,hx2⟩:∃x,x=(T.pr s2.ps k).1:=⟨_,rfl⟩
     obtain⟨y2,hy2⟩:∃x,x=(T.pr s2.ps k).2:=⟨_,rfl⟩
     rw[<-hx1]at ra1;rw[<-hy1]at rb1;rw[<-hx2]at ra2;rw[<-hy2]at rb2;have EQ:Hid (T.pr s1.ps k=T.pr s2.ps k↔x1=x2/\y1=y2):=hd_ (by rw[hx1,hx2,hy1,hy2];exact Prod.ext_iff);clear hx1 hx2 hy1 hy2;have k0:(0:Int)<=(k:Int):=by omega
     have k1:(k:Int)<(s1.ps.length:Int):=by omega
     have k2:(k:Int)<(s2.ps.length:Int):=by have:=Q6.out;omega
     obtain⟨c0,c1,c2,c3,c4,c5,c6⟩:=H.out.p1.cells7;obtain⟨d0,d1,d2,d3,d4,d5,d6⟩:=H.out.cells7;have H2:=hd_ H.out.drew;go_upto_region 11 with fail
     refine wp_region_plan 99 (.tk 0 13 .done) (fun w'=>w'.cell? ⟨p1,2,Option.none⟩=some (.slice (some ⟨b1,o1,Option.none⟩) s1.ps.length ct)/\w'.cell? ⟨p2,2,Option.none⟩=some (.slice (some ⟨b2,o2,Option.none⟩) s2.ps.length dt)/\w'.cell? ⟨b1,o1+k * 2,Option.none⟩=some (.int .i64 x1)/\w'.cell? ⟨b1,o1+k * 2+1,Option.none⟩=some (.int .i64 y1)/\w'.cell? ⟨b2,o2+k * 2,Option.none⟩=some (.int .i64 x2)/\w'.cell? ⟨b2,o2+k * 2+1,Option.none⟩=some (.int .i64 y2)) (by kernel_rfl) (by kernel_rfl) (fun _ _ _ _ _ h=>h) ⟨c2,d2,ra1,rb1,ra2,rb2⟩ ?_
     clear c0 c1 c2 c3 c4 c5 c6 d0 d1 d2 d3 d4 d5 d6 ra1 rb1 ra2 rb2 H;generalize wr.drew=w3 at H2 ⊢
     by_cases eq:x1=x2/\y1=y2
     case neg=>
      have F:=hd_ (sameS_no (a:=s1) (b:=s2) fun e=>eq (EQ.out.1 (by rw[e])))
      by_cases ex:x1=x2
      ·have ey:(y1==y2)=false:=by
        have:¬y1=y2:=fun e=>eq ⟨ex,e⟩
        simpa using this
       have ey':(y1 != y2)=true:=by simpa using ey
       subst ex;clear eq EQ
       repeat ((first|(refine plan_take (by rfl) (by rfl) ?_;apply Exists.intro;refine⟨fun w' hw'=>?_,?_⟩;(· ((try dsimp only at hw');go_simp;(try with_reducible rfl))))|(refine plan_skip (by rfl) (by rfl) ?_));simp only[Act.put,List.getElem_toArray,List.getElem_cons_succ,pg3,pg4,pg5,pg6])
       refine plan_done ?_;go_wp2;go_ret;exact⟨by rw[F.out];rfl,by have:=H2.out.below;rwa[HP.out]at this⟩
      ·have ex':(x1==x2)=false:=by simpa using ex
       clear eq EQ ex
       repeat ((first|(refine plan_take (by rfl) (by rfl) ?_;apply Exists.intro;refine⟨fun w' hw'=>?_,?_⟩;(· ((try dsimp only at hw');go_simp;(try with_reducible rfl))))|(refine plan_skip (by rfl) (by rfl) ?_));simp only[Act.put,List.getElem_toArray,List.getElem_cons_succ,pg3,pg4,pg5,pg6])
       refine plan_done ?_;go_wp2;go_ret;exact⟨by rw[F.out];rfl,by have:=H2.out.below;rwa[HP.out]at this⟩
     have HE2:Hid (∀j,j<k+1->T.pr s1.ps j=T.pr s2.ps j):=hd_ fun j hj=>by
      by_cases h:j<k
      ·exact HE.out j h
      ·obtain rfl:j=k:=by omega
       exact EQ.out.2 eq
     obtain⟨rfl,rfl⟩:=eq;clear EQ
     repeat ((first|(refine plan_take (by rfl) (by rfl) ?_;apply Exists.intro;refine⟨fun w' hw'=>?_,?_⟩;(· ((try dsimp only at hw');go_simp;(try with_reducible rfl))))|(refine plan_skip (by rfl) (by rfl) ?_));simp only[Act.put,List.getElem_toArray,List.getElem_cons_succ,pg3,pg4,pg5,pg6])
     refine plan_done ?_;go_wp2;go_roundw
     case rel=>exact⟨k+1,by omega,by go_num,HE2.out,H2.out⟩
     case measure=>simp[intOf];omega
    ·have Eps:Hid (s1.ps=s2.ps):=hd_ (pairs_ext Q6.out (fun i hi=>HE.out i (by omega)))
     have g:decide (k<s1.ps.length)=false:=by simpa using hlt
     obtain⟨c0,c1,c2,c3,c4,c5,c6⟩:=H.out.p1.cells7;obtain⟨d0,d1,d2,d3,d4,d5,d6⟩:=H.out.cells7;clear HE;go_wp2;clear c0 c1 c2 c3 c4 c5 c6 d0 d1 d2 d3 d4 d5 d6 g
     go_loopw [7] (fun i wr=>∃k:Nat,k<=s1.ks.length/\i=.int .i64 k/\(∀j,j<k->K.pr s1.ks j=K.pr s2.ks j)/\M p1 w wr [boxC p2 46 #[.slice yr s2.rs.length dr,.slice yf s2.zs.length df,.slice yt s2.ps.length dt,.int .i64 s2.lo,.int .i64 s2.al,.slice yk s2.ks.length dk,.int .i64 s2.ka],boxC p1 46 #[.slice xr s1.rs.length cr,.slice xf s1.zs.length cf,.slice xt s1.ps.length ct,.int .i64 s1.lo,.int .i64 s1.al,.slice xk s1.ks.length ck,.int .i64 s1.ka]]) (fun i _=>s1.ks.length - (intOf i).toNat)
     case atStart=>exact⟨0,Nat.zero_le _,rfl,fun _ h=>absurd h (Nat.not_lt_zero _),H.out⟩
     case round=>
      clear H;obtain⟨k,hk,rfl,heq,h⟩:=hrel;have HE:=hd_ heq;have H:=hd_ h;clear heq h
      by_cases hlt:k<s1.ks.length
      ·obtain⟨b1,o1,rfl,_,ra1,rb1⟩:=(R1.out.k.below H.out.below (Nat.le_of_eq HP.out.symm)).cells k hlt
       obtain⟨b2,o2,rfl,_,ra2,rb2⟩:=(R2.out.k.below H.out.below (Nat.le_of_eq HP.out.symm)).cells k (by rw[<-Q7.out];exact hlt);obtain⟨x1,hx1⟩:∃x,x=(K.pr s1.ks k).1:=⟨_,rfl⟩
       obtain⟨y1,hy1⟩:∃x,x=(K.pr s1.ks k).2:=⟨_,rfl⟩
       obtain⟨x2,hx2⟩:∃x,x=(K.pr s2.ks k).1:=⟨_,rfl⟩
       obtain⟨y2,hy2⟩:∃x,x=(K.pr s2.ks k).2:=⟨_,rfl⟩
       rw[<-hx1]at ra1;rw[<-hy1]at rb1;rw[<-hx2]at ra2;rw[<-hy2]at rb2;have EQ:Hid (K.pr s1.ks k=K.pr s2.ks k↔x1=x2/\y1=y2):=hd_ (by rw[hx1,hx2,hy1,hy2];exact Prod.ext_iff);clear hx1 hx2 hy1 hy2;have k0:(0:Int)<=(k:Int):=by omega
       have k1:(k:Int)<(s1.ks.length:Int):=by omega
       have k2:(k:Int)<(s2.ks.length:Int):=by have:=Q7.out;omega
       obtain⟨c0,c1,c2,c3,c4,c5,c6⟩:=H.out.p1.cells7;obtain⟨d0,d1,d2,d3,d4,d5,d6⟩:=H.out.cells7;have H2:=hd_ H.out.drew;go_upto_region 16 with fail
       refine wp_region_plan 99 (.tk 0 13 .done) (fun w'=>w'.cell? ⟨p1,5,Option.none⟩=some (.slice (some ⟨b1,o1,Option.none⟩) s1.ks.length ck)/\w'.cell? ⟨p2,5,Option.none⟩=some (.slice (some ⟨b2,o2,Option.none⟩) s2.ks.length dk)/\w'.cell? ⟨b1,o1+k * 2,Option.none⟩=some (.int .i64 x1)/\w'.cell? ⟨b1,o1+k * 2+1,Option.none⟩=some (.int .i64 y1)/\w'.cell? ⟨b2,o2+k * 2,Option.none⟩=some (.int .i64 x2)/\w'.cell? ⟨b2,o2+k * 2+1,Option.none⟩=some (.int .i64 y2)) (by kernel_rfl) (by kernel_rfl) (fun _ _ _ _ _ h=>h) ⟨c5,d5,ra1,rb1,ra2,rb2⟩ ?_
       clear c0 c1 c2 c3 c4 c5 c6 d0 d1 d2 d3 d4 d5 d6 ra1 rb1 ra2 rb2 H;generalize wr.drew=w3 at H2 ⊢
       by_cases eq:x1=x2/\y1=y2
       case neg=>
        have F:=hd_ (sameS_no (a:=s1) (b:=s2) fun e=>eq (EQ.out.1 (by rw[e])))
        by_cases ex:x1=x2
        ·have ey:(y1==y2)=false:=by
          have:¬y1=y2:=fun e=>eq ⟨ex,e⟩
          simpa using this
         have ey':(y1 != y2)=true:=by simpa using ey
         subst ex;clear eq EQ
         repeat ((first|(refine plan_take (by rfl) (by rfl) ?_;apply Exists.intro;refine⟨fun w' hw'=>?_,?_⟩;(· ((try dsimp only at hw');go_simp;(try with_reducible rfl))))|(refine plan_skip (by rfl) (by rfl) ?_));simp only[Act.put,List.getElem_toArray,List.getElem_cons_succ,pg3,pg4,pg5,pg6])
         refine plan_done ?_;go_wp2;go_ret;exact⟨by rw[F.out];rfl,by have:=H2.out.below;rwa[HP.out]at this⟩
        ·have ex':(x1==x2)=false:=by simpa using ex
         clear eq EQ ex
         repeat ((first|(refine plan_take (by rfl) (by rfl) ?_;apply Exists.intro;refine⟨fun w' hw'=>?_,?_⟩;(· ((try dsimp only at hw');go_simp;(try with_reducible rfl))))|(refine plan_skip (by rfl) (by rfl) ?_));simp only[Act.put,List.getElem_toArray,List.getElem_cons_succ,pg3,pg4,pg5,pg6])
         refine plan_done ?_;go_wp2;go_ret;exact⟨by rw[F.out];rfl,by have:=H2.out.below;rwa[HP.out]at this⟩
       have HE2:Hid (∀j,j<k+1->K.pr s1.ks j=K.pr s2.ks j):=hd_ fun j hj=>by
        by_cases h:j<k
        ·exact HE.out j h
        ·obtain rfl:j=k:=by omega
         exact EQ.out.2 eq
       obtain⟨rfl,rfl⟩:=eq;clear EQ
       repeat ((first|(refine plan_take (by rfl) (by rfl) ?_;apply Exists.intro;refine⟨fun w' hw'=>?_,?_⟩;(· ((try dsimp only at hw');go_simp;(try with_reducible rfl))))|(refine plan_skip (by rfl) (by rfl) ?_));simp only[Act.put,List.getElem_toArray,List.getElem_cons_succ,pg3,pg4,pg5,pg6])
       refine plan_done ?_;go_wp2;go_roundw
       case rel=>exact⟨k+1,by omega,by go_num,HE2.out,H2.out⟩
       case measure=>simp[intOf];omega
      ·have Eks:Hid (s1.ks=s2.ks):=hd_ (pairs_ext Q7.out (fun i hi=>HE.out i (by omega)))
       have g:decide (k<s1.ks.length)=false:=by simpa using hlt
       obtain⟨c0,c1,c2,c3,c4,c5,c6⟩:=H.out.p1.cells7;obtain⟨d0,d1,d2,d3,d4,d5,d6⟩:=H.out.cells7;clear HE;go_wp2;go_ret;have F:sameS s1 s2=true:=sameS_iff.2 (by
                have a1:=ER.out;have a2:=Q2.out;have a3:=Eps.out;have a4:=Q3.out;have a5:=Q4.out;have a6:=Eks.out;have a7:=Q5.out
                cases s1;cases s2
                simp only at a1 a2 a3 a4 a5 a6 a7
                rw[a1,a2,a3,a4,a5,a6,a7])
       exact⟨by rw[F];rfl,by have:=H.out.below;rwa[HP.out]at this⟩
end N
end Go.Proofs.YtcblbdpdbggkbaaGreat
set_option linter.unusedVariables false
namespace Go.Proofs.YtcblbdpdbggkbaaGreat
open Go.RowKit Go.Sort
theorem spSumOk_at (w:World) (V:SV) (s:Sm) (h1:RdS w V s):
  Calls Tryz.prog 169 #[.agg #[.slice V.xr V.nr V.cr,.slice V.xf V.nf V.cf,.slice V.xt V.nt V.ct,.int .i64 s.lo,.int .i64 s.al,.slice V.xk V.nk V.ck,.int .i64 s.ka]] w fun e w'=>e=.returned (.bool (okS s))/\Below w.heap.size w w':=by
 have hA:=(Below.refl w.heap.size w).alloc lr_ (.cells #[.slice V.xr V.nr V.cr,.slice V.xf V.nf V.cf,.slice V.xt V.nt V.ct,.int .i64 s.lo,.int .i64 s.al,.slice V.xk V.nk V.ck,.int .i64 s.ka] 46);have X:=Box7.new w 46 (.slice V.xr V.nr V.cr) (.slice V.xf V.nf V.cf) (.slice V.xt V.nt V.ct) (.int .i64 s.lo) (.int .i64 s.al) (.slice V.xk V.nk V.ck) (.int .i64 s.ka)
 obtain⟨W0,hW⟩:∃W,W=w.alloc (.cells #[.slice V.xr V.nr V.cr,.slice V.xf V.nf V.cf,.slice V.xt V.nt V.ct,.int .i64 s.lo,.int .i64 s.al,.slice V.xk V.nk V.ck,.int .i64 s.ka] 46):=⟨_,rfl⟩
 rw[<-hW]at hA X;have B:=hd_ hA;have RD:=h1.below hA lr_;have fl:=h1.lens.2.1;have KR:=fun d os=>Calls.regrown_of (spOk_any _ s.rs (grow (redrawn W0 d) os) (RD.r.below (below_regrown W0 d os) lr_))
 have KF:=fun d os=>Calls.regrown_of (spFewOk_at (grow (redrawn W0 d) os) _ s.zs (RD.f.below (below_regrown W0 d os) lr_))
 have KT:=fun d os=>Calls.regrown_of (T.spTopOk_at (grow (redrawn W0 d) os) _ s.ps s.lo s.al (RD.t.below (below_regrown W0 d os) lr_))
 have KK:=fun d os=>Calls.regrown_of (K.spRankOk_at (grow (redrawn W0 d) os) _ s.ks s.ka (RD.k.below (below_regrown W0 d os) lr_))
 have KA:=fun d os=>Calls.regrown_of (spAll_at (grow (redrawn W0 d) os) _ s.rs (RD.r.below (below_regrown W0 d os) lr_))
 unfold SV.r at KR KA;unfold SV.f at KF;unfold SV.t at KT;unfold SV.k at KK;unfold okS;rw[<-fl];clear RD h1 hA fl;obtain⟨xr,nr,cr,xf,nf,cf,xt,nt,ct,xk,nk,ck⟩:=V;obtain⟨rs,zs,ps,lo,al,ks,ka⟩:=s;simp only at KR KF KT KK KA X hW ⊢;generalize okB rs=o1 at KR ⊢;generalize fewB zs=o2 at KF ⊢;generalize T.topB ps lo al=o3 at KT ⊢;generalize K.rankB ks ka=o4 at KK ⊢;generalize allV rs=rv at KA ⊢
 have HR:=hd_ KR;have HF:=hd_ KF;have HT:=hd_ KT;have HK:=hd_ KK;have HA:=hd_ KA;clear KR KF KT KK KA;obtain⟨x0,x1,x2,x3,x4,x5,x6⟩:=X.cells;have c0:=cell_regrown x0;have c1:=cell_regrown x1;have c2:=cell_regrown x2;have c3:=cell_regrown x3;have c4:=cell_regrown x4;have c5:=cell_regrown x5;have c6:=cell_regrown x6;clear X x0 x1 x2 x3 x4 x5 x6;cases o1 with
 |false=>
  go_enter Tryz.func169,Tryz.ntmps169;go_wp2;rw[<-hW];clear hW;refine boxed_region (by kernel_rfl) (by kernel_rfl) ?_
  repeat (refine boxed_step (fun K hK=>?_);go_simp;first|(refine hK _ ?_;clear hK K)|(apply Exists.intro;refine⟨fun _=>?_,hK _ ?_⟩;(first|(with_reducible exact HR.out _ _)|(with_reducible exact HF.out _ _)|(with_reducible exact HT.out _ _)|(with_reducible exact HK.out _ _)|(with_reducible exact HA.out _ _));clear hK K))
  refine boxed_nil ?_;intro _ hw';obtain⟨⟨dq,oq⟩,hw''⟩:=hw';subst hw'';have hb_w1:=below_regrown W0 dq oq;obtain⟨w1,hq_w1⟩:∃x,x=grow (redrawn W0 dq) oq:=⟨_,rfl⟩
  rw[<-hq_w1]at hb_w1 ⊢;clear hq_w1;go_wp2;go_ret;exact⟨by first|rfl|simp,B.out.trans (hb_w1.mono B.out.size)⟩
 |true=>
  cases o2 with
  |false=>
   go_enter Tryz.func169,Tryz.ntmps169;go_wp2;rw[<-hW];clear hW;refine boxed_region (by kernel_rfl) (by kernel_rfl) ?_
   repeat (refine boxed_step (fun K hK=>?_);go_simp;first|(refine hK _ ?_;clear hK K)|(apply Exists.intro;refine⟨fun _=>?_,hK _ ?_⟩;(first|(with_reducible exact HR.out _ _)|(with_reducible exact HF.out _ _)|(with_reducible exact HT.out _ _)|(with_reducible exact HK.out _ _)|(with_reducible exact HA.out _ _));clear hK K))
   refine boxed_nil ?_;intro _ hw';obtain⟨⟨dq,oq⟩,hw''⟩:=hw';subst hw'';have hb_w1:=below_regrown W0 dq oq;obtain⟨w1,hq_w1⟩:∃x,x=grow (redrawn W0 dq) oq:=⟨_,rfl⟩
   rw[<-hq_w1]at hb_w1 ⊢;clear hq_w1;go_wp2;go_ret;exact⟨by first|rfl|simp,B.out.trans (hb_w1.mono B.out.size)⟩
  |true=>
   cases o3 with
   |false=>
    go_enter Tryz.func169,Tryz.ntmps169;go_wp2;rw[<-hW];clear hW;refine boxed_region (by kernel_rfl) (by kernel_rfl) ?_
    repeat (refine boxed_step (fun K hK=>?_);go_simp;first|(refine hK _ ?_;clear hK K)|(apply Exists.intro;refine⟨fun _=>?_,hK _ ?_⟩;(first|(with_reducible exact HR.out _ _)|(with_reducible exact HF.out _ _)|(with_reducible exact HT.out _ _)|(with_reducible exact HK.out _ _)|(with_reducible exact HA.out _ _));clear hK K))
    refine boxed_nil ?_;intro _ hw';obtain⟨⟨dq,oq⟩,hw''⟩:=hw';subst hw'';have hb_w1:=below_regrown W0 dq oq;obtain⟨w1,hq_w1⟩:∃x,x=grow (redrawn W0 dq) oq:=⟨_,rfl⟩
    rw[<-hq_w1]at hb_w1 ⊢;clear hq_w1;go_wp2;go_ret;exact⟨by first|rfl|simp,B.out.trans (hb_w1.mono B.out.size)⟩
   |true=>
    cases o4 with
    |false=>
     go_enter Tryz.func169,Tryz.ntmps169;go_wp2;rw[<-hW];clear hW;refine boxed_region (by kernel_rfl) (by kernel_rfl) ?_
     repeat (refine boxed_step (fun K hK=>?_);go_simp;first|(refine hK _ ?_;clear hK K)|(apply Exists.intro;refine⟨fun _=>?_,hK _ ?_⟩;(first|(with_reducible exact HR.out _ _)|(with_reducible exact HF.out _ _)|(with_reducible exact HT.out _ _)|(with_reducible exact HK.out _ _)|(with_reducible exact HA.out _ _));clear hK K))
     refine boxed_nil ?_;intro _ hw';obtain⟨⟨dq,oq⟩,hw''⟩:=hw';subst hw'';have hb_w1:=below_regrown W0 dq oq;obtain⟨w1,hq_w1⟩:∃x,x=grow (redrawn W0 dq) oq:=⟨_,rfl⟩
     rw[<-hq_w1]at hb_w1 ⊢;clear hq_w1;go_wp2;go_ret;exact⟨by first|rfl|simp,B.out.trans (hb_w1.mono B.out.size)⟩
    |true=>
     by_cases ha:rv=al
     ·have d1:decide (rv=al)=true:=decide_eq_true ha
      have q1:(rv==al)=true:=by simpa using ha
      by_cases hk:al=ka
      ·have d2:decide (al=ka)=true:=decide_eq_true hk
       have q2:(al==ka)=true:=by simpa using hk
       rw[d1,d2];clear d1 d2 ha hk;go_enter Tryz.func169,Tryz.ntmps169;go_wp2;rw[<-hW];clear hW;refine boxed_region (by kernel_rfl) (by kernel_rfl) ?_
       repeat (refine boxed_step (fun K hK=>?_);go_simp;first|(refine hK _ ?_;clear hK K)|(apply Exists.intro;refine⟨fun _=>?_,hK _ ?_⟩;(first|(with_reducible exact HR.out _ _)|(with_reducible exact HF.out _ _)|(with_reducible exact HT.out _ _)|(with_reducible exact HK.out _ _)|(with_reducible exact HA.out _ _));clear hK K))
       refine boxed_nil ?_;intro _ hw';obtain⟨⟨dq,oq⟩,hw''⟩:=hw';subst hw'';have hb_w1:=below_regrown W0 dq oq;obtain⟨w1,hq_w1⟩:∃x,x=grow (redrawn W0 dq) oq:=⟨_,rfl⟩
       rw[<-hq_w1]at hb_w1 ⊢;clear hq_w1;go_wp2;go_ret;exact⟨by first|rfl|(simp;done)|(refine congrArg (fun b=>Ending.returned (Value.bool b)) ?_;rw[Bool.eq_iff_iff];simp),B.out.trans (hb_w1.mono B.out.size)⟩
      ·have d2:decide (al=ka)=false:=decide_eq_false hk
       have q2:(al==ka)=false:=by simpa using hk
       rw[d1,d2];clear d1 d2 ha hk;go_enter Tryz.func169,Tryz.ntmps169;go_wp2;rw[<-hW];clear hW;refine boxed_region (by kernel_rfl) (by kernel_rfl) ?_
       repeat (refine boxed_step (fun K hK=>?_);go_simp;first|(refine hK _ ?_;clear hK K)|(apply Exists.intro;refine⟨fun _=>?_,hK _ ?_⟩;(first|(with_reducible exact HR.out _ _)|(with_reducible exact HF.out _ _)|(with_reducible exact HT.out _ _)|(with_reducible exact HK.out _ _)|(with_reducible exact HA.out _ _));clear hK K))
       refine boxed_nil ?_;intro _ hw';obtain⟨⟨dq,oq⟩,hw''⟩:=hw';subst hw'';have hb_w1:=below_regrown W0 dq oq;obtain⟨w1,hq_w1⟩:∃x,x=grow (redrawn W0 dq) oq:=⟨_,rfl⟩
       rw[<-hq_w1]at hb_w1 ⊢;clear hq_w1;go_wp2;go_ret;exact⟨by first|rfl|simp,B.out.trans (hb_w1.mono B.out.size)⟩
     ·have d1:decide (rv=al)=false:=decide_eq_false ha
      have q1:(rv==al)=false:=by simpa using ha
      rw[d1];clear d1 ha;go_enter Tryz.func169,Tryz.ntmps169;go_wp2;rw[<-hW];clear hW;refine boxed_region (by kernel_rfl) (by kernel_rfl) ?_
      repeat (refine boxed_step (fun K hK=>?_);go_simp;first|(refine hK _ ?_;clear hK K)|(apply Exists.intro;refine⟨fun _=>?_,hK _ ?_⟩;(first|(with_reducible exact HR.out _ _)|(with_reducible exact HF.out _ _)|(with_reducible exact HT.out _ _)|(with_reducible exact HK.out _ _)|(with_reducible exact HA.out _ _));clear hK K))
      refine boxed_nil ?_;intro _ hw';obtain⟨⟨dq,oq⟩,hw''⟩:=hw';subst hw'';have hb_w1:=below_regrown W0 dq oq;obtain⟨w1,hq_w1⟩:∃x,x=grow (redrawn W0 dq) oq:=⟨_,rfl⟩
      rw[<-hq_w1]at hb_w1 ⊢;clear hq_w1;go_wp2;go_ret;exact⟨by first|rfl|simp,B.out.trans (hb_w1.mono B.out.size)⟩
end Go.Proofs.YtcblbdpdbggkbaaGreat
set_option linter.unusedVariables false
namespace Go.Proofs.YtcblbdpdbggkbaaGreat
open Go.RowKit Go.Sort
theorem spSumAdd_noA (w:World) (V1:SV) (a:Sm) (t:Int) (h1:RdS w V1 a) (okA:okS a=false):
  Calls Tryz.prog 295 #[.agg #[.slice V1.xr V1.nr V1.cr,.slice V1.xf V1.nf V1.cf,.slice V1.xt V1.nt V1.ct,.int .i64 a.lo,.int .i64 a.al,.slice V1.xk V1.nk V1.ck,.int .i64 a.ka],.int .i64 t] w fun e w'=>∃U,e=.returned (.tuple #[.agg #[.slice U.xr U.nr U.cr,.slice U.xf U.nf U.cf,.slice U.xt U.nt U.ct,.int .i64 (addS a t).lo,.int .i64 (addS a t).al,.slice U.xk U.nk U.ck,.int .i64 (addS a t).ka],.bool (addOkS a t)])/\OwnS w' w.heap.size w'.heap.size U (addS a t)/\Below w.heap.size w w':=by
 have hno:addOkS a t=false:=by unfold addOkS;rw[okA];rfl
 have hA:=((Below.refl w.heap.size w).alloc lr_ (.cells #[.slice V1.xr V1.nr V1.cr,.slice V1.xf V1.nf V1.cf,.slice V1.xt V1.nt V1.ct,.int .i64 a.lo,.int .i64 a.al,.slice V1.xk V1.nk V1.ck,.int .i64 a.ka] 46)).alloc (by simp) (.cells #[.slice none 0 0,.slice none 0 0,.slice none 0 0,.int .i64 0,.int .i64 0,.slice none 0 0,.int .i64 0] 46)
 have XA:=(Box7.new w 46 (.slice V1.xr V1.nr V1.cr) (.slice V1.xf V1.nf V1.cf) (.slice V1.xt V1.nt V1.ct) (.int .i64 a.lo) (.int .i64 a.al) (.slice V1.xk V1.nk V1.ck) (.int .i64 a.ka)).alloc (.cells #[.slice none 0 0,.slice none 0 0,.slice none 0 0,.int .i64 0,.int .i64 0,.slice none 0 0,.int .i64 0] 46)
 have R:=Box7.new (w.alloc (.cells #[.slice V1.xr V1.nr V1.cr,.slice V1.xf V1.nf V1.cf,.slice V1.xt V1.nt V1.ct,.int .i64 a.lo,.int .i64 a.al,.slice V1.xk V1.nk V1.ck,.int .i64 a.ka] 46)) 46 (.slice none 0 0) (.slice none 0 0) (.slice none 0 0) (.int .i64 0) (.int .i64 0) (.slice none 0 0) (.int .i64 0);rw[World.size_alloc]at R;obtain⟨axa0,axa1,axa2,axa3,axa4,axa5,axa6⟩:=(XA).cells
 obtain⟨W0,hW⟩:∃W,W=(w.alloc (.cells #[.slice V1.xr V1.nr V1.cr,.slice V1.xf V1.nf V1.cf,.slice V1.xt V1.nt V1.ct,.int .i64 a.lo,.int .i64 a.al,.slice V1.xk V1.nk V1.ck,.int .i64 a.ka] 46)).alloc (.cells #[.slice none 0 0,.slice none 0 0,.slice none 0 0,.int .i64 0,.int .i64 0,.slice none 0 0,.int .i64 0] 46):=⟨_,rfl⟩
 rw[<-hW]at hA XA R;have B:=hd_ hA;have H1:=hd_ h1;have SZ:Hid (W0.heap.size=w.heap.size+2):=by show _=_;rw[hW];simp
 clear hA h1;have K1:=spSumOk_at W0 V1 a (H1.out.below B.out lr_);rw[okA]at K1;go_enter Tryz.func295,Tryz.ntmps295
 go_wp2_with fail
 rw[<-hW];clear hW axa0 axa1 axa2 axa3 axa4 axa5 axa6;refine (K1).mono ?_;rintro e w1 ⟨rfl,hb⟩;clear K1;have SZ1:=hd_ hb.size;replace XA:=XA.later hb;replace R:=R.later hb;replace B:=hd_ (B.out.trans (hb.mono B.out.size));clear hb;obtain⟨cr0,cr1,cr2,cr3,cr4,cr5,cr6⟩:=(R).cells;have frr:=R.free
 have fin:=R.set (.slice none 0 0) (.slice none 0 0) (.slice none 0 0) (.int .i64 0) (.int .i64 0) (.slice none 0 0) (.int .i64 0);have OF:=OwnS.box7 (OwnS.none _ _ _ B.out.size lr_) R (.slice none 0 0) (.slice none 0 0) (.slice none 0 0) (.int .i64 0) (.int .i64 0) (.slice none 0 0) (.int .i64 0)
 have BF:=below_set7 B.out (Nat.le_add_right w.heap.size 1) (.slice none 0 0) (.slice none 0 0) (.slice none 0 0) (.int .i64 0) (.int .i64 0) (.slice none 0 0) (.int .i64 0);have SF:=set7_size w1 (w.heap.size+1) (.slice none 0 0) (.slice none 0 0) (.slice none 0 0) (.int .i64 0) (.int .i64 0) (.slice none 0 0) (.int .i64 0);have HF:=hd_ (And.intro (OwnS.base OF lr_ (Nat.le_of_eq SF.symm) lr_) BF)
 have HY:=hd_ fin;clear fin OF BF SF;go_wp2;show bodyPost _ _ _ _ _ (set7 w1 (w.heap.size+1) (.slice none 0 0) (.slice none 0 0) (.slice none 0 0) (.int .i64 0) (.int .i64 0) (.slice none 0 0) (.int .i64 0))
 obtain⟨d0,d1,d2,d3,d4,d5,d6⟩:=HY.out.cells;generalize set7 w1 (w.heap.size+1) (.slice none 0 0) (.slice none 0 0) (.slice none 0 0) (.int .i64 0) (.int .i64 0) (.slice none 0 0) (.int .i64 0)=WF at HF d0 d1 d2 d3 d4 d5 d6 ⊢
 refine bodyPost_ret (v:=.tuple #[.agg #[.slice none 0 0,.slice none 0 0,.slice none 0 0,.int .i64 0,.int .i64 0,.slice none 0 0,.int .i64 0],.bool false]) (by simp[results,Tryz.results295,go_sem,d0,d1,d2,d3,d4,d5,d6]) rfl ?_;rw[addS_no hno,hno];exact⟨SV.none,rfl,HF.out⟩
theorem spSumAdd_noT (w:World) (V1:SV) (a:Sm) (t:Int) (h1:RdS w V1 a) (okA:okS a=true) (ht:t<0\/63<t):
  Calls Tryz.prog 295 #[.agg #[.slice V1.xr V1.nr V1.cr,.slice V1.xf V1.nf V1.cf,.slice V1.xt V1.nt V1.ct,.int .i64 a.lo,.int .i64 a.al,.slice V1.xk V1.nk V1.ck,.int .i64 a.ka],.int .i64 t] w fun e w'=>∃U,e=.returned (.tuple #[.agg #[.slice U.xr U.nr U.cr,.slice U.xf U.nf U.cf,.slice U.xt U.nt U.ct,.int .i64 (addS a t).lo,.int .i64 (addS a t).al,.slice U.xk U.nk U.ck,.int .i64 (addS a t).ka],.bool (addOkS a t)])/\OwnS w' w.heap.size w'.heap.size U (addS a t)/\Below w.heap.size w w':=by
 have hno:addOkS a t=false:=by unfold addOkS;rw[okA,decide_eq_false (by omega)];rfl
 have hA:=((Below.refl w.heap.size w).alloc lr_ (.cells #[.slice V1.xr V1.nr V1.cr,.slice V1.xf V1.nf V1.cf,.slice V1.xt V1.nt V1.ct,.int .i64 a.lo,.int .i64 a.al,.slice V1.xk V1.nk V1.ck,.int .i64 a.ka] 46)).alloc (by simp) (.cells #[.slice none 0 0,.slice none 0 0,.slice none 0 0,.int .i64 0,.int .i64 0,.slice none 0 0,.int .i64 0] 46)
 have XA:=(Box7.new w 46 (.slice V1.xr V1.nr V1.cr) (.slice V1.xf V1.nf V1.cf) (.slice V1.xt V1.nt V1.ct) (.int .i64 a.lo) (.int .i64 a.al) (.slice V1.xk V1.nk V1.ck) (.int .i64 a.ka)).alloc (.cells #[.slice none 0 0,.slice none 0 0,.slice none 0 0,.int .i64 0,.int .i64 0,.slice none 0 0,.int .i64 0] 46)
 have R:=Box7.new (w.alloc (.cells #[.slice V1.xr V1.nr V1.cr,.slice V1.xf V1.nf V1.cf,.slice V1.xt V1.nt V1.ct,.int .i64 a.lo,.int .i64 a.al,.slice V1.xk V1.nk V1.ck,.int .i64 a.ka] 46)) 46 (.slice none 0 0) (.slice none 0 0) (.slice none 0 0) (.int .i64 0) (.int .i64 0) (.slice none 0 0) (.int .i64 0);rw[World.size_alloc]at R;obtain⟨axa0,axa1,axa2,axa3,axa4,axa5,axa6⟩:=(XA).cells
 obtain⟨W0,hW⟩:∃W,W=(w.alloc (.cells #[.slice V1.xr V1.nr V1.cr,.slice V1.xf V1.nf V1.cf,.slice V1.xt V1.nt V1.ct,.int .i64 a.lo,.int .i64 a.al,.slice V1.xk V1.nk V1.ck,.int .i64 a.ka] 46)).alloc (.cells #[.slice none 0 0,.slice none 0 0,.slice none 0 0,.int .i64 0,.int .i64 0,.slice none 0 0,.int .i64 0] 46):=⟨_,rfl⟩
 rw[<-hW]at hA XA R;have B:=hd_ hA;have H1:=hd_ h1;have SZ:Hid (W0.heap.size=w.heap.size+2):=by show _=_;rw[hW];simp
 clear hA h1;have K1:=spSumOk_at W0 V1 a (H1.out.below B.out lr_);rw[okA]at K1;go_enter Tryz.func295,Tryz.ntmps295
 go_wp2_with fail
 rw[<-hW];clear hW axa0 axa1 axa2 axa3 axa4 axa5 axa6;refine (K1).mono ?_;rintro e w1 ⟨rfl,hb⟩;clear K1;have SZ1:=hd_ hb.size;replace XA:=XA.later hb;replace R:=R.later hb;replace B:=hd_ (B.out.trans (hb.mono B.out.size));clear hb;obtain⟨cr0,cr1,cr2,cr3,cr4,cr5,cr6⟩:=(R).cells;have frr:=R.free
 have fin:=R.set (.slice none 0 0) (.slice none 0 0) (.slice none 0 0) (.int .i64 0) (.int .i64 0) (.slice none 0 0) (.int .i64 0);have OF:=OwnS.box7 (OwnS.none _ _ _ B.out.size lr_) R (.slice none 0 0) (.slice none 0 0) (.slice none 0 0) (.int .i64 0) (.int .i64 0) (.slice none 0 0) (.int .i64 0)
 have BF:=below_set7 B.out (Nat.le_add_right w.heap.size 1) (.slice none 0 0) (.slice none 0 0) (.slice none 0 0) (.int .i64 0) (.int .i64 0) (.slice none 0 0) (.int .i64 0);have SF:=set7_size w1 (w.heap.size+1) (.slice none 0 0) (.slice none 0 0) (.slice none 0 0) (.int .i64 0) (.int .i64 0) (.slice none 0 0) (.int .i64 0);have HF:=hd_ (And.intro (OwnS.base OF lr_ (Nat.le_of_eq SF.symm) lr_) BF)
 have HY:=hd_ fin;clear fin OF BF SF
 go_wp2_with (go_at_call 66;refine (l6In_no _ _ _ _ ht).mono ?_;rintro e w' ⟨rfl,rfl⟩)
 show bodyPost _ _ _ _ _ (set7 w1 (w.heap.size+1) (.slice none 0 0) (.slice none 0 0) (.slice none 0 0) (.int .i64 0) (.int .i64 0) (.slice none 0 0) (.int .i64 0))
 obtain⟨d0,d1,d2,d3,d4,d5,d6⟩:=HY.out.cells;generalize set7 w1 (w.heap.size+1) (.slice none 0 0) (.slice none 0 0) (.slice none 0 0) (.int .i64 0) (.int .i64 0) (.slice none 0 0) (.int .i64 0)=WF at HF d0 d1 d2 d3 d4 d5 d6 ⊢
 refine bodyPost_ret (v:=.tuple #[.agg #[.slice none 0 0,.slice none 0 0,.slice none 0 0,.int .i64 0,.int .i64 0,.slice none 0 0,.int .i64 0],.bool false]) (by simp[results,Tryz.results295,go_sem,d0,d1,d2,d3,d4,d5,d6]) rfl ?_;rw[addS_no hno,hno];exact⟨SV.none,rfl,HF.out⟩
theorem spSumAdd_much (w:World) (V1:SV) (a:Sm) (t:Int) (h1:RdS w V1 a) (okA:okS a=true) (ht:0<=t/\t<=63) (hs:2000<=a.al):
  Calls Tryz.prog 295 #[.agg #[.slice V1.xr V1.nr V1.cr,.slice V1.xf V1.nf V1.cf,.slice V1.xt V1.nt V1.ct,.int .i64 a.lo,.int .i64 a.al,.slice V1.xk V1.nk V1.ck,.int .i64 a.ka],.int .i64 t] w fun e w'=>∃U,e=.returned (.tuple #[.agg #[.slice U.xr U.nr U.cr,.slice U.xf U.nf U.cf,.slice U.xt U.nt U.ct,.int .i64 (addS a t).lo,.int .i64 (addS a t).al,.slice U.xk U.nk U.ck,.int .i64 (addS a t).ka],.bool (addOkS a t)])/\OwnS w' w.heap.size w'.heap.size U (addS a t)/\Below w.heap.size w w':=by
 have hno:addOkS a t=false:=by unfold addOkS;rw[okA,decide_eq_false (show ¬a.al<2000 by omega),decide_eq_true ht];rfl
 obtain⟨t0,t1⟩:=ht;have hA:=((Below.refl w.heap.size w).alloc lr_ (.cells #[.slice V1.xr V1.nr V1.cr,.slice V1.xf V1.nf V1.cf,.slice V1.xt V1.nt V1.ct,.int .i64 a.lo,.int .i64 a.al,.slice V1.xk V1.nk V1.ck,.int .i64 a.ka] 46)).alloc (by simp) (.cells #[.slice none 0 0,.slice none 0 0,.slice none 0 0,.int .i64 0,.int .i64 0,.slice none 0 0,.int .i64 0] 46)
 have XA:=(Box7.new w 46 (.slice V1.xr V1.nr V1.cr) (.slice V1.xf V1.nf V1.cf) (.slice V1.xt V1.nt V1.ct) (.int .i64 a.lo) (.int .i64 a.al) (.slice V1.xk V1.nk V1.ck) (.int .i64 a.ka)).alloc (.cells #[.slice none 0 0,.slice none 0 0,.slice none 0 0,.int .i64 0,.int .i64 0,.slice none 0 0,.int .i64 0] 46)
 have R:=Box7.new (w.alloc (.cells #[.slice V1.xr V1.nr V1.cr,.slice V1.xf V1.nf V1.cf,.slice V1.xt V1.nt V1.ct,.int .i64 a.lo,.int .i64 a.al,.slice V1.xk V1.nk V1.ck,.int .i64 a.ka] 46)) 46 (.slice none 0 0) (.slice none 0 0) (.slice none 0 0) (.int .i64 0) (.int .i64 0) (.slice none 0 0) (.int .i64 0);rw[World.size_alloc]at R;obtain⟨axa0,axa1,axa2,axa3,axa4,axa5,axa6⟩:=(XA).cells
 obtain⟨W0,hW⟩:∃W,W=(w.alloc (.cells #[.slice V1.xr V1.nr V1.cr,.slice V1.xf V1.nf V1.cf,.slice V1.xt V1.nt V1.ct,.int .i64 a.lo,.int .i64 a.al,.slice V1.xk V1.nk V1.ck,.int .i64 a.ka] 46)).alloc (.cells #[.slice none 0 0,.slice none 0 0,.slice none 0 0,.int .i64 0,.int .i64 0,.slice none 0 0,.int .i64 0] 46):=⟨_,rfl⟩
 rw[<-hW]at hA XA R;have B:=hd_ hA;have H1:=hd_ h1;have SZ:Hid (W0.heap.size=w.heap.size+2):=by show _=_;rw[hW];simp
 clear hA h1;have K1:=spSumOk_at W0 V1 a (H1.out.below B.out lr_);rw[okA]at K1;go_enter Tryz.func295,Tryz.ntmps295
 go_wp2_with fail
 rw[<-hW];clear hW axa0 axa1 axa2 axa3 axa4 axa5 axa6;refine (K1).mono ?_;rintro e w1 ⟨rfl,hb⟩;clear K1;have SZ1:=hd_ hb.size;replace XA:=XA.later hb;replace R:=R.later hb;replace B:=hd_ (B.out.trans (hb.mono B.out.size));clear hb;obtain⟨cxa0,cxa1,cxa2,cxa3,cxa4,cxa5,cxa6⟩:=(XA).cells;obtain⟨cr0,cr1,cr2,cr3,cr4,cr5,cr6⟩:=(R).cells;have frr:=R.free
 have fin:=R.set (.slice none 0 0) (.slice none 0 0) (.slice none 0 0) (.int .i64 0) (.int .i64 0) (.slice none 0 0) (.int .i64 0);have OF:=OwnS.box7 (OwnS.none _ _ _ B.out.size lr_) R (.slice none 0 0) (.slice none 0 0) (.slice none 0 0) (.int .i64 0) (.int .i64 0) (.slice none 0 0) (.int .i64 0)
 have BF:=below_set7 B.out (Nat.le_add_right w.heap.size 1) (.slice none 0 0) (.slice none 0 0) (.slice none 0 0) (.int .i64 0) (.int .i64 0) (.slice none 0 0) (.int .i64 0);have SF:=set7_size w1 (w.heap.size+1) (.slice none 0 0) (.slice none 0 0) (.slice none 0 0) (.int .i64 0) (.int .i64 0) (.slice none 0 0) (.int .i64 0);have HF:=hd_ (And.intro (OwnS.base OF lr_ (Nat.le_of_eq SF.symm) lr_) BF)
 have HY:=hd_ fin;clear fin OF BF SF
 go_wp2_with (go_at_call 66;refine (l6In_yes _ _ _ _ t0 t1).mono ?_;rintro e w' ⟨rfl,rfl⟩)
 show bodyPost _ _ _ _ _ (set7 w1 (w.heap.size+1) (.slice none 0 0) (.slice none 0 0) (.slice none 0 0) (.int .i64 0) (.int .i64 0) (.slice none 0 0) (.int .i64 0))
 obtain⟨d0,d1,d2,d3,d4,d5,d6⟩:=HY.out.cells;generalize set7 w1 (w.heap.size+1) (.slice none 0 0) (.slice none 0 0) (.slice none 0 0) (.int .i64 0) (.int .i64 0) (.slice none 0 0) (.int .i64 0)=WF at HF d0 d1 d2 d3 d4 d5 d6 ⊢
 refine bodyPost_ret (v:=.tuple #[.agg #[.slice none 0 0,.slice none 0 0,.slice none 0 0,.int .i64 0,.int .i64 0,.slice none 0 0,.int .i64 0],.bool false]) (by simp[results,Tryz.results295,go_sem,d0,d1,d2,d3,d4,d5,d6]) rfl ?_;rw[addS_no hno,hno];exact⟨SV.none,rfl,HF.out⟩
theorem spSumAdd_yes (w:World) (V1:SV) (a:Sm) (t:Int) (h1:RdS w V1 a) (hok:addOkS a t=true):
  Calls Tryz.prog 295 #[.agg #[.slice V1.xr V1.nr V1.cr,.slice V1.xf V1.nf V1.cf,.slice V1.xt V1.nt V1.ct,.int .i64 a.lo,.int .i64 a.al,.slice V1.xk V1.nk V1.ck,.int .i64 a.ka],.int .i64 t] w fun e w'=>∃U,e=.returned (.tuple #[.agg #[.slice U.xr U.nr U.cr,.slice U.xf U.nf U.cf,.slice U.xt U.nt U.ct,.int .i64 (addS a t).lo,.int .i64 (addS a t).al,.slice U.xk U.nk U.ck,.int .i64 (addS a t).ka],.bool (addOkS a t)])/\OwnS w' w.heap.size w'.heap.size U (addS a t)/\Below w.heap.size w w':=by
 have AA:=addAll hok;have okA:=(okS_iff _).2 AA.ok;obtain⟨t0,t1⟩:=AA.thing;have rm:¬ 2000<=a.al:=by have:=AA.room;omega
 have JA:=hd_ (show addA a.rs t 1=addV a.rs t 1 by unfold addA;rw[AA.r];rfl);clear AA
 have hA:=((Below.refl w.heap.size w).alloc lr_ (.cells #[.slice V1.xr V1.nr V1.cr,.slice V1.xf V1.nf V1.cf,.slice V1.xt V1.nt V1.ct,.int .i64 a.lo,.int .i64 a.al,.slice V1.xk V1.nk V1.ck,.int .i64 a.ka] 46)).alloc (by simp) (.cells #[.slice none 0 0,.slice none 0 0,.slice none 0 0,.int .i64 0,.int .i64 0,.slice none 0 0,.int .i64 0] 46)
 have XA:=(Box7.new w 46 (.slice V1.xr V1.nr V1.cr) (.slice V1.xf V1.nf V1.cf) (.slice V1.xt V1.nt V1.ct) (.int .i64 a.lo) (.int .i64 a.al) (.slice V1.xk V1.nk V1.ck) (.int .i64 a.ka)).alloc (.cells #[.slice none 0 0,.slice none 0 0,.slice none 0 0,.int .i64 0,.int .i64 0,.slice none 0 0,.int .i64 0] 46)
 have R:=Box7.new (w.alloc (.cells #[.slice V1.xr V1.nr V1.cr,.slice V1.xf V1.nf V1.cf,.slice V1.xt V1.nt V1.ct,.int .i64 a.lo,.int .i64 a.al,.slice V1.xk V1.nk V1.ck,.int .i64 a.ka] 46)) 46 (.slice none 0 0) (.slice none 0 0) (.slice none 0 0) (.int .i64 0) (.int .i64 0) (.slice none 0 0) (.int .i64 0);rw[World.size_alloc]at R;obtain⟨axa0,axa1,axa2,axa3,axa4,axa5,axa6⟩:=(XA).cells
 obtain⟨W0,hW⟩:∃W,W=(w.alloc (.cells #[.slice V1.xr V1.nr V1.cr,.slice V1.xf V1.nf V1.cf,.slice V1.xt V1.nt V1.ct,.int .i64 a.lo,.int .i64 a.al,.slice V1.xk V1.nk V1.ck,.int .i64 a.ka] 46)).alloc (.cells #[.slice none 0 0,.slice none 0 0,.slice none 0 0,.int .i64 0,.int .i64 0,.slice none 0 0,.int .i64 0] 46):=⟨_,rfl⟩
 rw[<-hW]at hA XA R;have B:=hd_ hA;have H1:=hd_ h1;have SZ:Hid (W0.heap.size=w.heap.size+2):=by show _=_;rw[hW];simp
 clear hA h1;have K1:=spSumOk_at W0 V1 a (H1.out.below B.out lr_);rw[okA]at K1;go_enter Tryz.func295,Tryz.ntmps295
 go_wp2_with fail
 rw[<-hW];clear hW axa0 axa1 axa2 axa3 axa4 axa5 axa6;refine (K1).mono ?_;rintro e w1 ⟨rfl,hb⟩;clear K1;have SZ1:=hd_ hb.size;replace XA:=XA.later hb;replace R:=R.later hb;replace B:=hd_ (B.out.trans (hb.mono B.out.size));clear hb;obtain⟨cxa0,cxa1,cxa2,cxa3,cxa4,cxa5,cxa6⟩:=(XA).cells;have frr:=R.free;have HOK:=hd_ hok;clear hok
 have hA:=B.out.alloc B.out.size (.cells #[.slice none 0 0,.slice none 0 0,.slice none 0 0,.int .i64 0,.int .i64 0,.slice none 0 0,.int .i64 0] 46);have X6:=Box7.new w1 46 (.slice none 0 0) (.slice none 0 0) (.slice none 0 0) (.int .i64 0) (.int .i64 0) (.slice none 0 0) (.int .i64 0);have SZ2:=hd_ (Nat.le_trans (Nat.le_of_eq SZ.out.symm) SZ1.out);have LL:=hd_ B.out.size
 obtain⟨W1,hW⟩:∃W,W=w1.alloc (.cells #[.slice none 0 0,.slice none 0 0,.slice none 0 0,.int .i64 0,.int .i64 0,.slice none 0 0,.int .i64 0] 46):=⟨_,rfl⟩
 replace XA:=XA.alloc (.cells #[.slice none 0 0,.slice none 0 0,.slice none 0 0,.int .i64 0,.int .i64 0,.slice none 0 0,.int .i64 0] 46);replace R:=R.alloc (.cells #[.slice none 0 0,.slice none 0 0,.slice none 0 0,.int .i64 0,.int .i64 0,.slice none 0 0,.int .i64 0] 46);obtain⟨bxa0,bxa1,bxa2,bxa3,bxa4,bxa5,bxa6⟩:=(XA).cells;rw[<-hW]at hA X6 XA R;replace B:=hd_ hA;clear hA
 go_wp2_with (go_at_call 66;refine (l6In_yes _ _ _ _ t0 t1).mono ?_;rintro e w' ⟨rfl,rfl⟩)
 rw[<-hW];clear hW bxa0 bxa1 bxa2 bxa3 bxa4 bxa5 bxa6;clear cxa0 cxa1 cxa2 cxa3 cxa4 cxa5 cxa6 frr;have Q:=H1.out.below B.out lr_;have K1:=spAddRR W1 (.slice V1.xr V1.nr V1.cr) a.rs t 1 Q.r;generalize hA:addA a.rs t 1=A0 at K1;have HA0:=hd_ hA;generalize addB a.rs t 1=ok0 at K1;clear hA Q
 go_wp2_with fail
 refine (K1).mono ?_;rintro e w2 ⟨y0,c0',rfl,ho,hb⟩;obtain⟨m0,hm⟩:∃m,m=(A0).length:=⟨_,rfl⟩
 rw[<-hm]at ho ⊢;clear hm K1;have M0:=hd_ B.out.size;have q6:=SZ2.out;have N0:=hd_ hb.size;replace XA:=XA.later hb;replace R:=R.later hb;replace B:=hd_ (B.out.trans (hb.mono B.out.size));replace X6:=X6.later hb;have O0:=hd_ (ho);clear hb;obtain⟨W2,hW⟩:∃W,W=(w2.setCell ⟨w1.heap.size,0,none⟩ (.slice y0 m0 c0')):=⟨_,rfl⟩
 obtain⟨ax60,ax61,ax62,ax63,ax64,ax65,ax66⟩:=(X6).cells;have frx6:=X6.free;replace B:=hd_ (B.out);replace XA:=XA.kept (grownBy_setCell _ ⟨w1.heap.size,0,none⟩ (.slice y0 m0 c0')) (by simp;omega);replace R:=R.kept (grownBy_setCell _ ⟨w1.heap.size,0,none⟩ (.slice y0 m0 c0')) (by simp;omega);replace B:=hd_ (B.out.setCell (p:=⟨w1.heap.size,0,none⟩) LL.out (.slice y0 m0 c0'))
 replace O0:=hd_ (O0.out.cell7 X6 0 (.slice y0 m0 c0'));replace X6:=X6.set0 (.slice y0 m0 c0');obtain⟨bxa0,bxa1,bxa2,bxa3,bxa4,bxa5,bxa6⟩:=(XA).cells;rw[<-hW]at XA;rw[<-hW]at R;rw[<-hW]at B;rw[<-hW]at X6;rw[<-hW]at O0
 go_wp2_with fail
 rw[<-hW];clear hW ax60 ax61 ax62 ax63 ax64 ax65 ax66 frx6 bxa0 bxa1 bxa2 bxa3 bxa4 bxa5 bxa6;clear ho q6;have Q:=H1.out.below B.out lr_;have K1:=spFewAdd_at W2 (.slice V1.xf V1.nf V1.cf) a.zs t Q.f;generalize hA:addF a.zs t=A1 at K1;have HA1:=hd_ hA;generalize addOkF a.zs t=ok1 at K1;clear hA Q
 go_wp2_with fail
 refine (K1).mono ?_;rintro e w3 ⟨v,rfl,ho,hb⟩;obtain⟨y1,c1',rfl⟩:=ho.form';obtain⟨m1,hm⟩:∃m,m=(A1).length:=⟨_,rfl⟩
 rw[<-hm]at ho ⊢;clear hm K1;have M1:=hd_ B.out.size;have q6:=SZ2.out;have T1:=hd_ O0.out.top;replace XA:=XA.later hb;replace R:=R.later hb;replace B:=hd_ (B.out.trans (hb.mono B.out.size));replace X6:=X6.later hb;replace O0:=hd_ (O0.out.below hb);have O1:=hd_ (ho);clear hb;obtain⟨W3,hW⟩:∃W,W=(w3.setCell ⟨w1.heap.size,1,none⟩ (.slice y1 m1 c1')):=⟨_,rfl⟩
 obtain⟨ax60,ax61,ax62,ax63,ax64,ax65,ax66⟩:=(X6).cells;have frx6:=X6.free;replace B:=hd_ (B.out);replace XA:=XA.kept (grownBy_setCell _ ⟨w1.heap.size,1,none⟩ (.slice y1 m1 c1')) (by simp;omega);replace R:=R.kept (grownBy_setCell _ ⟨w1.heap.size,1,none⟩ (.slice y1 m1 c1')) (by simp;omega);replace B:=hd_ (B.out.setCell (p:=⟨w1.heap.size,1,none⟩) LL.out (.slice y1 m1 c1'))
 replace O0:=hd_ (O0.out.cell7 X6 1 (.slice y1 m1 c1'));replace O1:=hd_ (O1.out.cell7 X6 1 (.slice y1 m1 c1'));replace X6:=X6.set1 (.slice y1 m1 c1');obtain⟨bxa0,bxa1,bxa2,bxa3,bxa4,bxa5,bxa6⟩:=(XA).cells;rw[<-hW]at XA;rw[<-hW]at R;rw[<-hW]at B;rw[<-hW]at X6;rw[<-hW]at O0;rw[<-hW]at O1
 go_wp2_with fail
 rw[<-hW];clear hW ax60 ax61 ax62 ax63 ax64 ax65 ax66 frx6 bxa0 bxa1 bxa2 bxa3 bxa4 bxa5 bxa6;clear ho q6;have Q:=H1.out.below B.out lr_;have K1:=T.spTopAdd_at W3 (.slice V1.xt V1.nt V1.ct) a.ps a.lo a.al t Q.t;generalize hA:T.addT a.ps a.lo a.al t=A2 at K1;have HA2:=hd_ hA;generalize T.addOk a.ps a.lo a.al t=ok2 at K1;clear hA Q
 go_wp2_with fail
 refine (K1).mono ?_;rintro e w4 ⟨v,rfl,ho,hb⟩;obtain⟨y2,c2',rfl⟩:=ho.form';obtain⟨m2,hm⟩:∃m,m=(A2.1).length:=⟨_,rfl⟩
 rw[<-hm]at ho ⊢;clear hm K1;have M2:=hd_ B.out.size;have q6:=SZ2.out;replace XA:=XA.later hb;replace R:=R.later hb;replace B:=hd_ (B.out.trans (hb.mono B.out.size));replace X6:=X6.later hb;replace O0:=hd_ (O0.out.below hb);replace O1:=hd_ (O1.out.below hb);have O2:=hd_ (ho);clear hb
 obtain⟨W4,hW⟩:∃W,W=(((w4.setCell ⟨w1.heap.size,2,none⟩ (.slice y2 m2 c2')).setCell ⟨w1.heap.size,3,none⟩ (.int .i64 A2.2.1)).setCell ⟨w1.heap.size,4,none⟩ (.int .i64 A2.2.2)):=⟨_,rfl⟩
 obtain⟨ax60,ax61,ax62,ax63,ax64,ax65,ax66⟩:=(X6).cells;have frx6:=X6.free;replace B:=hd_ (B.out);replace XA:=XA.kept (grownBy_setCell _ ⟨w1.heap.size,2,none⟩ (.slice y2 m2 c2')) (by simp;omega);replace R:=R.kept (grownBy_setCell _ ⟨w1.heap.size,2,none⟩ (.slice y2 m2 c2')) (by simp;omega);replace B:=hd_ (B.out.setCell (p:=⟨w1.heap.size,2,none⟩) LL.out (.slice y2 m2 c2'))
 replace O0:=hd_ (O0.out.cell7 X6 2 (.slice y2 m2 c2'));replace O1:=hd_ (O1.out.cell7 X6 2 (.slice y2 m2 c2'));replace O2:=hd_ (O2.out.cell7 X6 2 (.slice y2 m2 c2'));replace X6:=X6.set2 (.slice y2 m2 c2');replace XA:=XA.kept (grownBy_setCell _ ⟨w1.heap.size,3,none⟩ (.int .i64 A2.2.1)) (by simp;omega);replace R:=R.kept (grownBy_setCell _ ⟨w1.heap.size,3,none⟩ (.int .i64 A2.2.1)) (by simp;omega)
 replace B:=hd_ (B.out.setCell (p:=⟨w1.heap.size,3,none⟩) LL.out (.int .i64 A2.2.1));replace O0:=hd_ (O0.out.cell7 X6 3 (.int .i64 A2.2.1));replace O1:=hd_ (O1.out.cell7 X6 3 (.int .i64 A2.2.1));replace O2:=hd_ (O2.out.cell7 X6 3 (.int .i64 A2.2.1));replace X6:=X6.set3 (.int .i64 A2.2.1);replace XA:=XA.kept (grownBy_setCell _ ⟨w1.heap.size,4,none⟩ (.int .i64 A2.2.2)) (by simp;omega)
 replace R:=R.kept (grownBy_setCell _ ⟨w1.heap.size,4,none⟩ (.int .i64 A2.2.2)) (by simp;omega);replace B:=hd_ (B.out.setCell (p:=⟨w1.heap.size,4,none⟩) LL.out (.int .i64 A2.2.2));replace O0:=hd_ (O0.out.cell7 X6 4 (.int .i64 A2.2.2));replace O1:=hd_ (O1.out.cell7 X6 4 (.int .i64 A2.2.2));replace O2:=hd_ (O2.out.cell7 X6 4 (.int .i64 A2.2.2));replace X6:=X6.set4 (.int .i64 A2.2.2)
 obtain⟨bxa0,bxa1,bxa2,bxa3,bxa4,bxa5,bxa6⟩:=(XA).cells;rw[<-hW]at XA;rw[<-hW]at R;rw[<-hW]at B;rw[<-hW]at X6;rw[<-hW]at O0;rw[<-hW]at O1;rw[<-hW]at O2
 go_wp2_with fail
 rw[<-hW];clear hW ax60 ax61 ax62 ax63 ax64 ax65 ax66 frx6 bxa0 bxa1 bxa2 bxa3 bxa4 bxa5 bxa6;clear ho q6;have Q:=H1.out.below B.out lr_;have K1:=K.spRankAdd_at W4 (.slice V1.xk V1.nk V1.ck) a.ks a.ka t Q.k;generalize hA:K.addK a.ks a.ka t=A3 at K1;have HA3:=hd_ hA;generalize K.addOkK a.ks a.ka t=ok3 at K1;clear hA Q
 go_wp2_with fail
 refine (K1).mono ?_;rintro e w5 ⟨v,rfl,ho,hb⟩;obtain⟨y3,c3',rfl⟩:=ho.form';obtain⟨m3,hm⟩:∃m,m=(A3.1).length:=⟨_,rfl⟩
 rw[<-hm]at ho ⊢;clear hm K1;have M3:=hd_ B.out.size;have q6:=SZ2.out;replace XA:=XA.later hb;replace R:=R.later hb;replace B:=hd_ (B.out.trans (hb.mono B.out.size));replace X6:=X6.later hb;replace O0:=hd_ (O0.out.below hb);replace O1:=hd_ (O1.out.below hb);replace O2:=hd_ (O2.out.below hb);have O3:=hd_ (ho);clear hb
 obtain⟨W5,hW⟩:∃W,W=((w5.setCell ⟨w1.heap.size,5,none⟩ (.slice y3 m3 c3')).setCell ⟨w1.heap.size,6,none⟩ (.int .i64 A3.2)):=⟨_,rfl⟩
 obtain⟨ax60,ax61,ax62,ax63,ax64,ax65,ax66⟩:=(X6).cells;have frx6:=X6.free;replace B:=hd_ (B.out);replace XA:=XA.kept (grownBy_setCell _ ⟨w1.heap.size,5,none⟩ (.slice y3 m3 c3')) (by simp;omega);replace R:=R.kept (grownBy_setCell _ ⟨w1.heap.size,5,none⟩ (.slice y3 m3 c3')) (by simp;omega);replace B:=hd_ (B.out.setCell (p:=⟨w1.heap.size,5,none⟩) LL.out (.slice y3 m3 c3'))
 replace O0:=hd_ (O0.out.cell7 X6 5 (.slice y3 m3 c3'));replace O1:=hd_ (O1.out.cell7 X6 5 (.slice y3 m3 c3'));replace O2:=hd_ (O2.out.cell7 X6 5 (.slice y3 m3 c3'));replace O3:=hd_ (O3.out.cell7 X6 5 (.slice y3 m3 c3'));replace X6:=X6.set5 (.slice y3 m3 c3');replace XA:=XA.kept (grownBy_setCell _ ⟨w1.heap.size,6,none⟩ (.int .i64 A3.2)) (by simp;omega)
 replace R:=R.kept (grownBy_setCell _ ⟨w1.heap.size,6,none⟩ (.int .i64 A3.2)) (by simp;omega);replace B:=hd_ (B.out.setCell (p:=⟨w1.heap.size,6,none⟩) LL.out (.int .i64 A3.2));replace O0:=hd_ (O0.out.cell7 X6 6 (.int .i64 A3.2));replace O1:=hd_ (O1.out.cell7 X6 6 (.int .i64 A3.2));replace O2:=hd_ (O2.out.cell7 X6 6 (.int .i64 A3.2));replace O3:=hd_ (O3.out.cell7 X6 6 (.int .i64 A3.2))
 replace X6:=X6.set6 (.int .i64 A3.2);obtain⟨bx60,bx61,bx62,bx63,bx64,bx65,bx66⟩:=(X6).cells;obtain⟨br0,br1,br2,br3,br4,br5,br6⟩:=(R).cells;have fbr:=R.free;rw[<-hW]at XA;rw[<-hW]at R;rw[<-hW]at B;rw[<-hW]at X6;rw[<-hW]at O0;rw[<-hW]at O1;rw[<-hW]at O2;rw[<-hW]at O3;clear ho q6
 have EJ:=hd_ (show (addS a t)=⟨A0,A1,A2.1,A2.2.1,A2.2.2,A3.1,A3.2⟩ by rw[addS_yes HOK.out];unfold addS0;rw[<-JA.out,HA0.out,HA1.out,HA2.out,HA3.out]);have fin:=R.set (.slice y0 m0 c0') (.slice y1 m1 c1') (.slice y2 m2 c2') (.int .i64 A2.2.1) (.int .i64 A2.2.2) (.slice y3 m3 c3') (.int .i64 A3.2)
 have OF:=OwnS.box7 (OwnS.make (V:=⟨y0,m0,c0',y1,m1,c1',y2,m2,c2',y3,m3,c3'⟩) (s:=⟨A0,A1,A2.1,A2.2.1,A2.2.2,A3.1,A3.2⟩) O0.out O1.out O2.out O3.out M0.out (Nat.le_trans M0.out N0.out) T1.out M2.out M3.out) R (.slice y0 m0 c0') (.slice y1 m1 c1') (.slice y2 m2 c2') (.int .i64 A2.2.1) (.int .i64 A2.2.2) (.slice y3 m3 c3') (.int .i64 A3.2)
 have BF:=below_set7 B.out (Nat.le_add_right w.heap.size 1) (.slice y0 m0 c0') (.slice y1 m1 c1') (.slice y2 m2 c2') (.int .i64 A2.2.1) (.int .i64 A2.2.2) (.slice y3 m3 c3') (.int .i64 A3.2);have SF:=set7_size W5 (w.heap.size+1) (.slice y0 m0 c0') (.slice y1 m1 c1') (.slice y2 m2 c2') (.int .i64 A2.2.1) (.int .i64 A2.2.2) (.slice y3 m3 c3') (.int .i64 A3.2)
 have HF:=hd_ (And.intro (OwnS.base OF lr_ (Nat.le_of_eq SF.symm) lr_) BF);have HY:=hd_ fin;clear fin OF BF SF;go_wp2;rw[<-hW];clear hW ax60 ax61 ax62 ax63 ax64 ax65 ax66 frx6 bx60 bx61 bx62 bx63 bx64 bx65 bx66 br0 br1 br2 br3 br4 br5 br6 fbr
 show bodyPost _ _ _ _ _ (set7 W5 (w.heap.size+1) (.slice y0 m0 c0') (.slice y1 m1 c1') (.slice y2 m2 c2') (.int .i64 A2.2.1) (.int .i64 A2.2.2) (.slice y3 m3 c3') (.int .i64 A3.2))
 obtain⟨d0,d1,d2,d3,d4,d5,d6⟩:=HY.out.cells;generalize set7 W5 (w.heap.size+1) (.slice y0 m0 c0') (.slice y1 m1 c1') (.slice y2 m2 c2') (.int .i64 A2.2.1) (.int .i64 A2.2.2) (.slice y3 m3 c3') (.int .i64 A3.2)=WF at HF d0 d1 d2 d3 d4 d5 d6 ⊢
 refine bodyPost_ret (v:=.tuple #[.agg #[.slice y0 m0 c0',.slice y1 m1 c1',.slice y2 m2 c2',.int .i64 A2.2.1,.int .i64 A2.2.2,.slice y3 m3 c3',.int .i64 A3.2],.bool true]) (by simp[results,Tryz.results295,go_sem,d0,d1,d2,d3,d4,d5,d6]) rfl ?_;rw[EJ.out,HOK.out];exact⟨⟨y0,m0,c0',y1,m1,c1',y2,m2,c2',y3,m3,c3'⟩,rfl,HF.out⟩
theorem spSumAdd_at (w:World) (V:SV) (s:Sm) (t:Int) (h1:RdS w V s):
  Calls Tryz.prog 295 #[.agg #[.slice V.xr V.nr V.cr,.slice V.xf V.nf V.cf,.slice V.xt V.nt V.ct,.int .i64 s.lo,.int .i64 s.al,.slice V.xk V.nk V.ck,.int .i64 s.ka],.int .i64 t] w fun e w'=>∃U,e=.returned (.tuple #[.agg #[.slice U.xr U.nr U.cr,.slice U.xf U.nf U.cf,.slice U.xt U.nt U.ct,.int .i64 (addS s t).lo,.int .i64 (addS s t).al,.slice U.xk U.nk U.ck,.int .i64 (addS s t).ka],.bool (addOkS s t)])/\OwnS w' w.heap.size w'.heap.size U (addS s t)/\Below w.heap.size w w':=by
 cases okA:okS s with
 |false=>exact spSumAdd_noA w V s t h1 okA
 |true=>
  by_cases ht:0<=t/\t<=63
  ·by_cases hs:s.al<2000
   ·exact spSumAdd_yes w V s t h1 ((addOkS_iff s t).2 ⟨(okS_iff _).1 okA,ht,hs⟩)
   ·exact spSumAdd_much w V s t h1 okA ht (by omega)
  ·exact spSumAdd_noT w V s t h1 okA (by omega)
end Go.Proofs.YtcblbdpdbggkbaaGreat
set_option linter.unusedVariables false
namespace Go.Proofs.YtcblbdpdbggkbaaGreat
open Go.RowKit Go.Sort
theorem imSumNew_at (w:World):
  Calls Tryz.prog 77 #[] w fun e w'=>∃V,e=.returned (.agg #[.slice V.xr V.nr V.cr,.slice V.xf V.nf V.cf,.slice V.xt V.nt V.ct,.int .i64 newSm.lo,.int .i64 newSm.al,.slice V.xk V.nk V.ck,.int .i64 newSm.ka])/\OwnS w' w.heap.size w'.heap.size V newSm/\Below w.heap.size w w':=by
 have hA:=(Below.refl w.heap.size w).alloc lr_ (.cells #[.slice none 0 0,.slice none 0 0,.slice none 0 0,.int .i64 0,.int .i64 0,.slice none 0 0,.int .i64 0] 46);have X0:=Box7.new w 46 (.slice none 0 0) (.slice none 0 0) (.slice none 0 0) (.int .i64 0) (.int .i64 0) (.slice none 0 0) (.int .i64 0);have HA:=hd_ hA
 have S0:Hid ((w.alloc (.cells #[.slice none 0 0,.slice none 0 0,.slice none 0 0,.int .i64 0,.int .i64 0,.slice none 0 0,.int .i64 0] 46)).heap.size=w.heap.size+1):=by show _=_;simp
 clear hA;go_enter Tryz.func77,Tryz.ntmps77
 go_wp2_with fail
 refine (imNew_at _).mono ?_;rintro e w1 ⟨u,G,C,rfl,ho,hb⟩;obtain⟨x,c,rfl⟩:=ho.form;have X1:=X0.later hb;have HB:=hd_ (HA.out.trans (hb.mono HA.out.size));have hs:=S0.out;rw[hs]at ho;have HS:=OwnS.box7 (OwnS.rows ho (by have:=hb.size;omega)) X1 (.slice x 3 c) (.slice none 0 0) (.slice none 0 0) (.int .i64 0) (.int .i64 0) (.slice none 0 0) (.int .i64 0)
 have Y:=X1.set (.slice x 3 c) (.slice none 0 0) (.slice none 0 0) (.int .i64 0) (.int .i64 0) (.slice none 0 0) (.int .i64 0);have HW:=below_set7 HB.out lr_ (.slice x 3 c) (.slice none 0 0) (.slice none 0 0) (.int .i64 0) (.int .i64 0) (.slice none 0 0) (.int .i64 0)
 have e:=set7_size w1 w.heap.size (.slice x 3 c) (.slice none 0 0) (.slice none 0 0) (.int .i64 0) (.int .i64 0) (.slice none 0 0) (.int .i64 0);obtain⟨W,hW⟩:∃W,W=set7 w1 w.heap.size (.slice x 3 c) (.slice none 0 0) (.slice none 0 0) (.int .i64 0) (.int .i64 0) (.slice none 0 0) (.int .i64 0):=⟨_,rfl⟩
 rw[<-hW]at HS Y HW e;have fin:=hd_ (And.intro (HS.base (B':=w.heap.size) (by omega) (Nat.le_of_eq e.symm) lr_) HW);have YY:=hd_ Y;have f:=X1.free;obtain⟨c0,c1,c2,c3,c4,c5,c6⟩:=X1.cells;unfold set7 at hW;have HH:=hd_ hW;clear ho hb hs S0 HS HW Y e hW;go_wp2;show bodyPost _ _ _ _ _ (((((((w1.setCell _ (.slice x 3 c)).setCell _ _).setCell _ _).setCell _ _).setCell _ _).setCell _ _).setCell _ _)
 rw[<-HH.out];obtain⟨d0,d1,d2,d3,d4,d5,d6⟩:=YY.out.cells;refine bodyPost_ret (v:=.agg #[.slice x 3 c,.slice none 0 0,.slice none 0 0,.int .i64 0,.int .i64 0,.slice none 0 0,.int .i64 0]) (by simp[results,Tryz.results77,go_sem,d0,d1,d2,d3,d4,d5,d6]) rfl ?_;exact⟨_,rfl,fin.out⟩
theorem spSumNew_at (w:World):
  Calls Tryz.prog 99 #[] w fun e w'=>∃V,e=.returned (.agg #[.slice V.xr V.nr V.cr,.slice V.xf V.nf V.cf,.slice V.xt V.nt V.ct,.int .i64 newSm.lo,.int .i64 newSm.al,.slice V.xk V.nk V.ck,.int .i64 newSm.ka])/\OwnS w' w.heap.size w'.heap.size V newSm/\Below w.heap.size w w':=by
 have hA:=(Below.refl w.heap.size w).alloc lr_ (.cells #[.slice none 0 0,.slice none 0 0,.slice none 0 0,.int .i64 0,.int .i64 0,.slice none 0 0,.int .i64 0] 46);have X0:=Box7.new w 46 (.slice none 0 0) (.slice none 0 0) (.slice none 0 0) (.int .i64 0) (.int .i64 0) (.slice none 0 0) (.int .i64 0);have HA:=hd_ hA
 have S0:Hid ((w.alloc (.cells #[.slice none 0 0,.slice none 0 0,.slice none 0 0,.int .i64 0,.int .i64 0,.slice none 0 0,.int .i64 0] 46)).heap.size=w.heap.size+1):=by show _=_;simp
 clear hA;go_enter Tryz.func99,Tryz.ntmps99
 go_wp2_with fail
 refine (spNew_at _).mono ?_;rintro e w1 ⟨u,G,C,rfl,ho,hb⟩;obtain⟨x,c,rfl⟩:=ho.form;have X1:=X0.later hb;have HB:=hd_ (HA.out.trans (hb.mono HA.out.size));have hs:=S0.out;rw[hs]at ho;have HS:=OwnS.box7 (OwnS.rows ho (by have:=hb.size;omega)) X1 (.slice x 3 c) (.slice none 0 0) (.slice none 0 0) (.int .i64 0) (.int .i64 0) (.slice none 0 0) (.int .i64 0)
 have Y:=X1.set (.slice x 3 c) (.slice none 0 0) (.slice none 0 0) (.int .i64 0) (.int .i64 0) (.slice none 0 0) (.int .i64 0);have HW:=below_set7 HB.out lr_ (.slice x 3 c) (.slice none 0 0) (.slice none 0 0) (.int .i64 0) (.int .i64 0) (.slice none 0 0) (.int .i64 0)
 have e:=set7_size w1 w.heap.size (.slice x 3 c) (.slice none 0 0) (.slice none 0 0) (.int .i64 0) (.int .i64 0) (.slice none 0 0) (.int .i64 0);obtain⟨W,hW⟩:∃W,W=set7 w1 w.heap.size (.slice x 3 c) (.slice none 0 0) (.slice none 0 0) (.int .i64 0) (.int .i64 0) (.slice none 0 0) (.int .i64 0):=⟨_,rfl⟩
 rw[<-hW]at HS Y HW e;have fin:=hd_ (And.intro (HS.base (B':=w.heap.size) (by omega) (Nat.le_of_eq e.symm) lr_) HW);have YY:=hd_ Y;have f:=X1.free;obtain⟨c0,c1,c2,c3,c4,c5,c6⟩:=X1.cells;unfold set7 at hW;have HH:=hd_ hW;clear ho hb hs S0 HS HW Y e hW;go_wp2;show bodyPost _ _ _ _ _ (((((((w1.setCell _ (.slice x 3 c)).setCell _ _).setCell _ _).setCell _ _).setCell _ _).setCell _ _).setCell _ _)
 rw[<-HH.out];obtain⟨d0,d1,d2,d3,d4,d5,d6⟩:=YY.out.cells;refine bodyPost_ret (v:=.agg #[.slice x 3 c,.slice none 0 0,.slice none 0 0,.int .i64 0,.int .i64 0,.slice none 0 0,.int .i64 0]) (by simp[results,Tryz.results99,go_sem,d0,d1,d2,d3,d4,d5,d6]) rfl ?_;exact⟨_,rfl,fin.out⟩
end Go.Proofs.YtcblbdpdbggkbaaGreat
set_option linter.unusedVariables false
namespace Go.Proofs.YtcblbdpdbggkbaaGreat
open Go.RowKit Go.Sort
theorem spSumOf_at (w:World) (x:Option Addr) (n c:Nat) (l:List Int) (h:Ints w (.slice x n c) l):
  Calls Tryz.prog 265 #[.slice x n c] w fun e w'=>∃U,e=.returned (.tuple #[.agg #[.slice U.xr U.nr U.cr,.slice U.xf U.nf U.cf,.slice U.xt U.nt U.ct,.int .i64 (upS l).lo,.int .i64 (upS l).al,.slice U.xk U.nk U.ck,.int .i64 (upS l).ka],.bool (okS (upS l))])/\OwnS w' w.heap.size w'.heap.size U (upS l)/\Below w.heap.size w w':=by
 obtain⟨b,o,hx⟩:∃b o,n=0\/(x=some ⟨b,o,none⟩/\b<w.heap.size/\∀i,i<n->w.cell? ⟨b,o+i,none⟩=some (.int .i64 (l.getD i 0))):=by
  rcases h with ⟨e,rfl⟩|⟨b,o,cap,e,h1,h2,hb,hc⟩
  ·simp at e;exact⟨0,0,.inl e.2.1⟩
  ·simp at e;obtain⟨rfl,rfl,rfl⟩:=e;exact⟨b,o,.inr ⟨rfl,hb,hc⟩⟩
 have HX:=hd_ hx;have hnl:n=l.length:=Ints.len h;have HN:=hd_ hnl;have hmx:n<2 ^ 63:=by
  rcases h with ⟨e,rfl⟩|⟨b,o,cap,e,h1,h2,_⟩
  ·rw[hnl];simp
  ·unfold maxLen at h2;omega
 clear hx h hnl;have hA:=(Below.refl w.heap.size w).alloc lr_ (.cells #[.slice none 0 0,.slice none 0 0,.slice none 0 0,.int .i64 0,.int .i64 0,.slice none 0 0,.int .i64 0] 46);have R:=Box7.new w 46 (.slice none 0 0) (.slice none 0 0) (.slice none 0 0) (.int .i64 0) (.int .i64 0) (.slice none 0 0) (.int .i64 0)
 obtain⟨W0,hW⟩:∃W,W=w.alloc (.cells #[.slice none 0 0,.slice none 0 0,.slice none 0 0,.int .i64 0,.int .i64 0,.slice none 0 0,.int .i64 0] 46):=⟨_,rfl⟩
 rw[<-hW]at hA R;have B:=hd_ hA;have SZ:Hid (W0.heap.size=w.heap.size+1):=by show _=_;rw[hW];simp
 clear hA;go_enter Tryz.func265,Tryz.ntmps265
 go_wp2_with fail
 rw[<-hW];clear hW;refine (spSumNew_at W0).mono ?_;rintro e w1 ⟨V0,rfl,ho,hb⟩;have L4:=hd_ (Nat.le_trans (Nat.le_of_eq SZ.out.symm) hb.size);replace ho:=ho.base (B':=w.heap.size) B.out.size lr_ lr_;replace R:=R.later hb;replace B:=hd_ (B.out.trans (hb.mono B.out.size));have O:=hd_ (ho);clear hb
 obtain⟨W1,hW⟩:∃W,W=(w1.alloc (.cells #[.slice V0.xr V0.nr V0.cr,.slice V0.xf V0.nf V0.cf,.slice V0.xt V0.nt V0.ct,.int .i64 newSm.lo,.int .i64 newSm.al,.slice V0.xk V0.nk V0.ck,.int .i64 newSm.ka] 46)):=⟨_,rfl⟩
 replace R:=R.alloc (.cells #[.slice V0.xr V0.nr V0.cr,.slice V0.xf V0.nf V0.cf,.slice V0.xt V0.nt V0.ct,.int .i64 newSm.lo,.int .i64 newSm.al,.slice V0.xk V0.nk V0.ck,.int .i64 newSm.ka] 46);rw[<-hW]at R
 replace B:=hd_ ((B.out).alloc (Nat.le_trans B.out.size (by simp)) (.cells #[.slice V0.xr V0.nr V0.cr,.slice V0.xf V0.nf V0.cf,.slice V0.xt V0.nt V0.ct,.int .i64 newSm.lo,.int .i64 newSm.al,.slice V0.xk V0.nk V0.ck,.int .i64 newSm.ka] 46));rw[<-hW]at B
 replace O:=hd_ (O.out.alloc (.cells #[.slice V0.xr V0.nr V0.cr,.slice V0.xf V0.nf V0.cf,.slice V0.xt V0.nt V0.ct,.int .i64 newSm.lo,.int .i64 newSm.al,.slice V0.xk V0.nk V0.ck,.int .i64 newSm.ka] 46));rw[<-hW]at O
 have X4:=Box7.new w1 46 (.slice V0.xr V0.nr V0.cr) (.slice V0.xf V0.nf V0.cf) (.slice V0.xt V0.nt V0.ct) (.int .i64 newSm.lo) (.int .i64 newSm.al) (.slice V0.xk V0.nk V0.ck) (.int .i64 newSm.ka);rw[<-hW]at X4;clear ho;obtain⟨b4,hb4⟩:∃b4,b4=w1.heap.size:=⟨_,rfl⟩
 rw[<-hb4]at X4 L4;have HO:=hd_ (show OwnS W1 w.heap.size b4 V0 newSm by rw[hb4];exact O.out);clear O;go_wp2;rw[<-hW, <-hb4];clear hW hb4
 go_loopw [5] (fun i wr=>∃(j:Nat) (V:SV) (T:Nat),i=.int .i64 j/\j<=n/\okS (upS (l.take j))=true/\OwnS wr w.heap.size T V (upS (l.take j))/\BoxS wr b4 V (upS (l.take j))/\Box7 wr w.heap.size 46 (.slice none 0 0) (.slice none 0 0) (.slice none 0 0) (.int .i64 0) (.int .i64 0) (.slice none 0 0) (.int .i64 0)/\Below w.heap.size w wr) (fun i _=>n - (intOf i).toNat)
 case atStart=>exact⟨0,V0,b4,rfl,Nat.zero_le _,okS_new,HO.out,X4,R,B.out⟩
 case round=>
  clear HO X4 R B SZ;obtain⟨j,V,T,rfl,hj,hok,ho,hX,hR,hB⟩:=hrel;obtain⟨s,hs⟩:∃s,s=upS (l.take j):=⟨_,rfl⟩
  rw[<-hs]at hok ho hX;have HS:=hd_ hs;have HOK:=hd_ hok;have O:=hd_ ho;have X4:=hX.box;have R:=hR;have B:=hd_ hB;clear hs hok ho hX hR hB
  by_cases hlt:j<n
  ·obtain⟨t,ht⟩:∃t,t=l.getD j 0:=⟨_,rfl⟩
   obtain⟨rfl,hbw,hce⟩:=HX.out.resolve_left (by omega);have ce:wr.cell? ⟨b,o+j,none⟩=some (.int .i64 t):=by rw[ht];exact cell_later B.out (hce j hlt)
   have HT:=hd_ ht;clear ht hce hbw HX;have UP:=hd_ (show upS (l.take (j+1))=addS s t by rw[HS.out,HT.out];exact up_take (by rw[<-HN.out];exact hlt));have NO:=hd_ (show addOkS s t=false->okS (upS l)=false/\upS l=noSm from fun q=>by have e:=up_stop (l:=l) (k:=j) (by rw[<-HN.out];exact hlt) (by rw[<-HS.out, <-HT.out];exact q);exact⟨by rw[e];rfl,e⟩)
   have YES:=hd_ (show addOkS s t=true->okS (addS s t)=true from fun q=>(okS_iff _).2 (addS_ok q).1);clear HS HT;have KS:=hd_ (fun (W:World) (h:RdS W V s)=>spSumAdd_at W V s t h);generalize addOkS s t=ok at KS NO YES;generalize addS s t=r at KS UP YES;obtain⟨c0,c1,c2,c3,c4,c5,c6⟩:=X4.drew.cells
   obtain⟨e0,e1,e2,e3,e4,e5,e6⟩:=(X4.alloc (.cells #[.slice none 0 0,.slice none 0 0,.slice none 0 0,.int .i64 0,.int .i64 0,.slice none 0 0,.int .i64 0] 46)).drew.cells;have cb:=cell_later (Below.drew (Below.refl wr.heap.size wr)) ce
   have cb':=cell_later (((Below.refl wr.heap.size wr).alloc lr_ (.cells #[.slice none 0 0,.slice none 0 0,.slice none 0 0,.int .i64 0,.int .i64 0,.slice none 0 0,.int .i64 0] 46)).drew) ce;have k0:(0:Int)<=(j:Int):=by omega
   have k1:(j:Int)<(n:Int):=by omega
   go_wp2
   go_region_with (first
        |(go_at_call 295;refine (KS.out wr.drew O.out.rd.drew).mono ?_;rintro e w2 ⟨U,rfl,ho,hb⟩;have HO:=hd_ ho;have HB:=hd_ (Below.trans (Below.drew (Below.refl wr.heap.size wr)) hb);clear ho hb)
        |(go_at_call 295;refine (KS.out (wr.alloc (.cells #[.slice none 0 0,.slice none 0 0,.slice none 0 0,.int .i64 0,.int .i64 0,.slice none 0 0,.int .i64 0] 46)).drew (O.out.rd.alloc _).drew).mono ?_;rintro e w2 ⟨U,rfl,ho,hb⟩;have HO:=hd_ ho;have HB:=hd_ (Below.trans (((Below.refl wr.heap.size wr).alloc lr_ (.cells #[.slice none 0 0,.slice none 0 0,.slice none 0 0,.int .i64 0,.int .i64 0,.slice none 0 0,.int .i64 0] 46)).drew) (hb.mono (by simp)));have XN:=(Box7.new wr 46 (.slice none 0 0) (.slice none 0 0) (.slice none 0 0) (.int .i64 0) (.int .i64 0) (.slice none 0 0) (.int .i64 0)).drew.later hb;obtain⟨f0,f1,f2,f3,f4,f5,f6⟩:=XN.cells;have ff:=XN.free;clear ho hb))
   all_goals
    first
     |(have G:=Got.last HB.out HO.out lr_;generalize w2.alloc (.cells #[.slice U.xr U.nr U.cr,.slice U.xf U.nf U.cf,.slice U.xt U.nt U.ct,.int .i64 r.lo,.int .i64 r.al,.slice U.xk U.nk U.ck,.int .i64 r.ka] 46)=WN at G ⊢;generalize w2.heap.size=PN at G ⊢)
     |(have G:=Got.stored HB.out HO.out (show wr.heap.size<=(wr.alloc (.cells #[.slice none 0 0,.slice none 0 0,.slice none 0 0,.int .i64 0,.int .i64 0,.slice none 0 0,.int .i64 0] 46)).drew.heap.size by simp) XN lr_;show Exit.then _ _ _ _ (set7 w2 wr.heap.size (.slice U.xr U.nr U.cr) (.slice U.xf U.nf U.cf) (.slice U.xt U.nt U.ct) (.int .i64 r.lo) (.int .i64 r.al) (.slice U.xk U.nk U.ck) (.int .i64 r.ka));generalize set7 w2 wr.heap.size (.slice U.xr U.nr U.cr) (.slice U.xf U.nf U.cf) (.slice U.xt U.nt U.ct) (.int .i64 r.lo) (.int .i64 r.al) (.slice U.xk U.nk U.ck) (.int .i64 r.ka)=WN at G ⊢;obtain⟨PN,hPN⟩:∃P,P=wr.heap.size:=⟨_,rfl⟩;clear f0 f1 f2 f3 f4 f5 f6 ff XN;rw[<-hPN]at G ⊢;clear hPN)
    have X4':=X4.later G.below;have R':=R.later G.below;have B':=hd_ (B.out.trans (G.below.mono B.out.size));have XP:=G.box.box;have lo4:=X4.lt;have O':=hd_ (G.own.base (B':=w.heap.size) B.out.size lr_ lr_);have GLO:=hd_ G.lo;have sep:=hd_ (show b4≠PN from fun e=>by have:=G.lo;omega);clear G HB HO c0 c1 c2 c3 c4 c5 c6 e0 e1 e2 e3 e4 e5 e6 cb cb' lo4 X4 R B O ce k0 k1;have X4:=X4';have R:=R'
    have B:=B';have O:=O';clear X4' R' B' O';cases ok with
    |false=>
     have NO1:=hd_ (NO.out rfl).1;have NO2:=hd_ (NO.out rfl).2;clear NO YES UP;obtain⟨cr0,cr1,cr2,cr3,cr4,cr5,cr6⟩:=(R).cells;have frr:=R.free;have fin:=R.set (.slice none 0 0) (.slice none 0 0) (.slice none 0 0) (.int .i64 0) (.int .i64 0) (.slice none 0 0) (.int .i64 0)
     have OF:=OwnS.box7 (OwnS.none _ _ _ B.out.size lr_) R (.slice none 0 0) (.slice none 0 0) (.slice none 0 0) (.int .i64 0) (.int .i64 0) (.slice none 0 0) (.int .i64 0);have BF:=below_set7 B.out lr_ (.slice none 0 0) (.slice none 0 0) (.slice none 0 0) (.int .i64 0) (.int .i64 0) (.slice none 0 0) (.int .i64 0)
     have SF:=set7_size WN w.heap.size (.slice none 0 0) (.slice none 0 0) (.slice none 0 0) (.int .i64 0) (.int .i64 0) (.slice none 0 0) (.int .i64 0);have HF:=hd_ (And.intro (OwnS.base OF lr_ (Nat.le_of_eq SF.symm) lr_) BF);have HY:=hd_ fin;clear fin OF BF SF;go_wp2
     show bodyPost _ _ _ _ _ (set7 WN w.heap.size (.slice none 0 0) (.slice none 0 0) (.slice none 0 0) (.int .i64 0) (.int .i64 0) (.slice none 0 0) (.int .i64 0))
     obtain⟨d0,d1,d2,d3,d4,d5,d6⟩:=HY.out.cells;generalize set7 WN w.heap.size (.slice none 0 0) (.slice none 0 0) (.slice none 0 0) (.int .i64 0) (.int .i64 0) (.slice none 0 0) (.int .i64 0)=WF at HF d0 d1 d2 d3 d4 d5 d6 ⊢
     refine bodyPost_ret (v:=.tuple #[.agg #[.slice none 0 0,.slice none 0 0,.slice none 0 0,.int .i64 0,.int .i64 0,.slice none 0 0,.int .i64 0],.bool false]) (by simp[results,Tryz.results265,go_sem,d0,d1,d2,d3,d4,d5,d6]) rfl ?_;rw[NO1.out,NO2.out];exact⟨SV.none,rfl,HF.out⟩
    |true=>
     have YS:=hd_ (YES.out rfl);clear NO YES;obtain⟨cxp0,cxp1,cxp2,cxp3,cxp4,cxp5,cxp6⟩:=(XP).cells;obtain⟨cx40,cx41,cx42,cx43,cx44,cx45,cx46⟩:=(X4).cells;have fr4:=X4.free;have OX:=hd_ (O.out.box7 X4 (.slice U.xr U.nr U.cr) (.slice U.xf U.nf U.cf) (.slice U.xt U.nt U.ct) (.int .i64 r.lo) (.int .i64 r.al) (.slice U.xk U.nk U.ck) (.int .i64 r.ka))
     have YtcblbdpdbggkbaaGreat4:=X4.set (.slice U.xr U.nr U.cr) (.slice U.xf U.nf U.cf) (.slice U.xt U.nt U.ct) (.int .i64 r.lo) (.int .i64 r.al) (.slice U.xk U.nk U.ck) (.int .i64 r.ka)
     have RX:=R.kept (set7_grown _ b4 (.slice U.xr U.nr U.cr) (.slice U.xf U.nf U.cf) (.slice U.xt U.nt U.ct) (.int .i64 r.lo) (.int .i64 r.al) (.slice U.xk U.nk U.ck) (.int .i64 r.ka)) (by have:=L4.out;simp;omega)
     have BX:=hd_ (below_set7 B.out (Nat.le_trans (Nat.le_add_right _ 1) L4.out) (.slice U.xr U.nr U.cr) (.slice U.xf U.nf U.cf) (.slice U.xt U.nt U.ct) (.int .i64 r.lo) (.int .i64 r.al) (.slice U.xk U.nk U.ck) (.int .i64 r.ka))
     have SX:=set7_size WN b4 (.slice U.xr U.nr U.cr) (.slice U.xf U.nf U.cf) (.slice U.xt U.nt U.ct) (.int .i64 r.lo) (.int .i64 r.al) (.slice U.xk U.nk U.ck) (.int .i64 r.ka);go_wp2;go_roundw
     case rel=>exact⟨j+1,U,WN.heap.size,by go_num,hlt,by rw[UP.out];exact YS.out,by rw[UP.out];exact OX.out,by rw[UP.out];exact YtcblbdpdbggkbaaGreat4,RX,BX.out⟩
     case measure=>simp[intOf];omega
  ·obtain rfl:j=n:=by omega
   have ES:=hd_ (show upS l=s by rw[HS.out,HN.out,List.take_length]);clear HX HS hlt hj;obtain⟨cx40,cx41,cx42,cx43,cx44,cx45,cx46⟩:=(X4).cells;obtain⟨cr0,cr1,cr2,cr3,cr4,cr5,cr6⟩:=(R).cells;have frr:=R.free;have fin:=R.set (.slice V.xr V.nr V.cr) (.slice V.xf V.nf V.cf) (.slice V.xt V.nt V.ct) (.int .i64 s.lo) (.int .i64 s.al) (.slice V.xk V.nk V.ck) (.int .i64 s.ka)
   have OF:=OwnS.box7 (O.out.base lr_ O.out.top lr_) R (.slice V.xr V.nr V.cr) (.slice V.xf V.nf V.cf) (.slice V.xt V.nt V.ct) (.int .i64 s.lo) (.int .i64 s.al) (.slice V.xk V.nk V.ck) (.int .i64 s.ka);have BF:=below_set7 B.out lr_ (.slice V.xr V.nr V.cr) (.slice V.xf V.nf V.cf) (.slice V.xt V.nt V.ct) (.int .i64 s.lo) (.int .i64 s.al) (.slice V.xk V.nk V.ck) (.int .i64 s.ka)
   have SF:=set7_size wr w.heap.size (.slice V.xr V.nr V.cr) (.slice V.xf V.nf V.cf) (.slice V.xt V.nt V.ct) (.int .i64 s.lo) (.int .i64 s.al) (.slice V.xk V.nk V.ck) (.int .i64 s.ka);have HF:=hd_ (And.intro (OwnS.base OF lr_ (Nat.le_of_eq SF.symm) lr_) BF);have HY:=hd_ fin;clear fin OF BF SF;go_wp2
   show bodyPost _ _ _ _ _ (set7 wr w.heap.size (.slice V.xr V.nr V.cr) (.slice V.xf V.nf V.cf) (.slice V.xt V.nt V.ct) (.int .i64 s.lo) (.int .i64 s.al) (.slice V.xk V.nk V.ck) (.int .i64 s.ka))
   obtain⟨d0,d1,d2,d3,d4,d5,d6⟩:=HY.out.cells;generalize set7 wr w.heap.size (.slice V.xr V.nr V.cr) (.slice V.xf V.nf V.cf) (.slice V.xt V.nt V.ct) (.int .i64 s.lo) (.int .i64 s.al) (.slice V.xk V.nk V.ck) (.int .i64 s.ka)=WF at HF d0 d1 d2 d3 d4 d5 d6 ⊢
   refine bodyPost_ret (v:=.tuple #[.agg #[.slice V.xr V.nr V.cr,.slice V.xf V.nf V.cf,.slice V.xt V.nt V.ct,.int .i64 s.lo,.int .i64 s.al,.slice V.xk V.nk V.ck,.int .i64 s.ka],.bool true]) (by simp[results,Tryz.results265,go_sem,d0,d1,d2,d3,d4,d5,d6]) rfl ?_;rw[ES.out,HOK.out];exact⟨V,rfl,HF.out⟩
end Go.Proofs.YtcblbdpdbggkbaaGreat
set_option linter.unusedVariables false
set_option linter.unusedSectionVars false
set_option linter.unusedSimpArgs false
namespace Go.Proofs.YtcblbdpdbggkbaaGreat
open Go.RowKit Go.Sort
namespace N
theorem ints_cut {w:World} {x:Option Addr} {n c:Nat} {zs:List Int} (h:Ints w (.slice x n c) zs) {k:Nat} (hk:k<=n):Ints w (.slice x k c) (zs.take k):=by
 have hn:=h.len;rcases h with ⟨e,rfl⟩|⟨b,o,cap,e,h1,h2,h3,h4⟩
 ·simp at e
  obtain rfl:k=0:=by omega
  exact .inl ⟨by simp[e],by simp⟩
 ·simp at e
  obtain⟨rfl, -,rfl⟩:=e;have hl:(zs.take k).length=k:=by rw[List.length_take];omega
  exact .inr ⟨b,o,c,by rw[hl],by omega,h2,h3,fun i hi=>by
      have hi':i<k:=by omega
      rw[h4 i (by omega),List.getD_eq_getElem?_getD,List.getD_eq_getElem?_getD,List.getElem?_take_of_lt hi']⟩
theorem sv_inj {V1 V2:SV} {s:Sm} (h:([.slice V1.xr V1.nr V1.cr,.slice V1.xf V1.nf V1.cf,.slice V1.xt V1.nt V1.ct,.int .i64 s.lo,.int .i64 s.al,.slice V1.xk V1.nk V1.ck,.int .i64 s.ka]:List Value)=[.slice V2.xr V2.nr V2.cr,.slice V2.xf V2.nf V2.cf,.slice V2.xt V2.nt V2.ct,.int .i64 s.lo,.int .i64 s.al,.slice V2.xk V2.nk V2.ck,.int .i64 s.ka]):V1=V2:=by
 cases V1;cases V2;simp only[List.cons.injEq,Value.slice.injEq,true_and,and_true]at h;obtain⟨⟨a1,a2,a3⟩,⟨a4,a5,a6⟩,⟨a7,a8,a9⟩,a10,a11,a12⟩:=h;subst a1 a2 a3 a4 a5 a6 a7 a8 a9 a10 a11 a12
 rfl
theorem in6_at (z lo hi:Int) (w:World):Calls Tryz.prog 66 #[.int .i64 z,.int .i64 lo,.int .i64 hi] w fun e w'=>e=.returned (.bool (in6 z lo hi))/\w'=w:=by
 unfold in6
 by_cases h:lo<=z/\z<=hi
 ·exact (l6In_yes z lo hi w h.1 h.2).mono fun e w' ⟨h1,h2⟩=>⟨by rw[h1,decide_eq_true h],h2.symm⟩
 ·exact (l6In_no z lo hi w (by omega)).mono fun e w' ⟨h1,h2⟩=>⟨by rw[h1,decide_eq_false h],h2.symm⟩
structure NetRd (w:World) (v1 v2 v3 v4:Value) (n:Nt):Prop where
 nodes:∃f,nodesR TY w [v1] n.nodes f
 links:∃f,linksR TY w [v2] n.links f
 words:∃f,wordsR TY w [v3] n.words f
 past:∃f,pastR TY w [v4] n.past f
theorem NetRd.below {w w':World} {v1 v2 v3 v4:Value} {n:Nt} (h:NetRd w v1 v2 v3 v4 n) {B:Nat} (hb:Below B w w') (hB:w.heap.size<=B):NetRd w' v1 v2 v3 v4 n:=by
 obtain⟨⟨f1,h1⟩,⟨f2,h2⟩,⟨f3,h3⟩,f4,h4⟩:=h;exact⟨⟨f1,(slcR_frame nodeR_frame _ _).below h1 hb hB⟩,⟨f2,(slcR_frame (flatR_frame _) _ _).below h2 hb hB⟩,⟨f3,(slcR_frame wordR_frame _ _).below h3 hb hB⟩,f4,(slcR_frame rowsR_frame _ _).below h4 hb hB⟩
structure Shape (n:Nt):Prop where
 nodes:n.nodes.length=5
 past:n.past.length=5
 rows:∀i:Nat,i<5->((rowsAt n i).length:Int)=(nodeAt n i).born+1
theorem spEntry_at (w:World) {x1 x4:Option Addr} {k1 c1 k4 c4:Nat} {v2 v3:Value} {n:Nt} {V:SV} {e:En} (hn:NetRd w (.slice x1 k1 c1) v2 v3 (.slice x4 k4 c4) n) (hs:Shape n) (he:RdS w V e.s):
  Calls Tryz.prog 205 #[.agg #[.slice x1 k1 c1,v2,v3,.slice x4 k4 c4],.agg #[.int .i64 e.node,.int .i64 e.born,.int .i64 e.num,.slice V.xr V.nr V.cr,.slice V.xf V.nf V.cf,.slice V.xt V.nt V.ct,.int .i64 (e.s).lo,.int .i64 (e.s).al,.slice V.xk V.nk V.ck,.int .i64 (e.s).ka]] w fun r w'=>r=.returned (.bool (entryB n e))/\Below w.heap.size w w':=by
 obtain⟨f1,n1⟩:=hn.nodes;obtain⟨f4,n4⟩:=hn.past;obtain rfl:k1=5:=(slcR_row n1).1.trans hs.nodes;obtain rfl:k4=5:=(slcR_row n4).1.trans hs.past;obtain⟨node,born,num,s⟩:=e;simp only at he ⊢
 have H0:=((M.start w).alloc #[.slice x1 5 c1,v2,v3,.slice x4 5 c4] 30).alloc #[.int .i64 node,.int .i64 born,.int .i64 num,.slice V.xr V.nr V.cr,.slice V.xf V.nf V.cf,.slice V.xt V.nt V.ct,.int .i64 s.lo,.int .i64 s.al,.slice V.xk V.nk V.ck,.int .i64 s.ka] 64;simp only[World.size_alloc]at H0
 have EB:Hid (entryB n ⟨node,born,num,s⟩=(in6 node 0 4&&(in6 born 1 (nodeAt n node).born&&(in6 num 0 (pastAt n node born).length&&(okS (upS ((pastAt n node born).take num.toNat))&&sameS (upS ((pastAt n node born).take num.toNat)) s))))):=hd_ rfl;have HS:=hd_ hs;have HE:=hd_ he;have N1:=hd_ n1;have N4:=hd_ n4;clear hn hs he n1 n4;go_enter Tryz.func205,Tryz.ntmps205;go_upto_region 1 with fail
 obtain⟨p1,hp1⟩:∃p,p=w.heap.size:=⟨_,rfl⟩
 obtain⟨p2,hp2⟩:∃p,p=w.heap.size+1:=⟨_,rfl⟩
 have HP:=hd_ hp1;rw[<-hp2, <-hp1]at H0;rw[<-hp2, <-hp1];clear hp1 hp2;generalize ((w.alloc (.cells #[.slice x1 5 c1,v2,v3,.slice x4 5 c4] 30)).alloc (.cells #[.int .i64 node,.int .i64 born,.int .i64 num,.slice V.xr V.nr V.cr,.slice V.xf V.nf V.cf,.slice V.xt V.nt V.ct,.int .i64 s.lo,.int .i64 s.al,.slice V.xk V.nk V.ck,.int .i64 s.ka] 64))=w1 at H0 ⊢;obtain⟨W,hW⟩:∃W,W=w1.drew:=⟨_,rfl⟩
 have H1:=H0.drew;rw[<-hW]at H1;have EW:=hd_ hW;have H:=hd_ H1;clear H0 H1 hW;obtain⟨d0,d1,d2,d3,d4,d5,d6,d7,d8,d9⟩:=H.out.cells10;obtain⟨a0,a1,a2,a3⟩:=H.out.p1.cells4
 by_cases hA:in6 node 0 4=true
 case neg=>
  have gA:in6 node 0 4=false:=by simpa using hA
  have F:=hd_ (show entryB n ⟨node,born,num,s⟩=false by rw[EB.out,gA];rfl);clear hA;go_upto_region 1 with fail
  refine wp_region_plan 99 (.tk 0 6 (.alt 6 (.tk 7 11 (.alt 18 (.tk 19 16 (.alt 35 (.tk 36 2 .done) .nomore)) .nomore)) .nomore)) (fun w'=>w'=W) (by kernel_rfl) (by kernel_rfl) (fun _ _ _ _ _ h=>h) EW.out.symm ?_;rw[<-EW.out]
  repeat ((first|(refine plan_take (by rfl) (by rfl) ?_;apply Exists.intro;refine⟨fun w' hw'=>?_,?_⟩;(· ((try dsimp only at hw');go_simp;(try with_reducible rfl))))|(refine plan_skip (by rfl) (by rfl) ?_));simp only[Act.put,List.getElem_toArray,List.getElem_cons_succ,pg3,pg4,pg5,pg6])
  refine plan_last (by rfl) (fun K' hK=>?_);go_simp;refine (in6_at node 0 4 W).mono ?_;rintro e w' ⟨rfl,hw'⟩;rw[hw'];clear hw' w';refine hK _ _ (.inr rfl) ?_;clear hK K'
  try simp only[Act.put,List.getElem_toArray,List.getElem_cons_succ,pg3,pg4,pg5,pg6]
  repeat ((first|(refine plan_take (by rfl) (by rfl) ?_;apply Exists.intro;refine⟨fun w' hw'=>?_,?_⟩;(· ((try dsimp only at hw');go_simp;(try with_reducible rfl))))|(refine plan_skip (by rfl) (by rfl) ?_));simp only[Act.put,List.getElem_toArray,List.getElem_cons_succ,pg3,pg4,pg5,pg6])
  refine plan_last (by rfl) (fun K' hK=>?_);go_simp;refine hK _ _ (.inr rfl) ?_;clear hK K'
  try simp only[Act.put,List.getElem_toArray,List.getElem_cons_succ,pg3,pg4,pg5,pg6]
  repeat ((first|(refine plan_take (by rfl) (by rfl) ?_;apply Exists.intro;refine⟨fun w' hw'=>?_,?_⟩;(· ((try dsimp only at hw');go_simp;(try with_reducible rfl))))|(refine plan_skip (by rfl) (by rfl) ?_));simp only[Act.put,List.getElem_toArray,List.getElem_cons_succ,pg3,pg4,pg5,pg6])
  refine plan_last (by rfl) (fun K' hK=>?_);go_simp;refine hK _ _ (.inr rfl) ?_;clear hK K'
  try simp only[Act.put,List.getElem_toArray,List.getElem_cons_succ,pg3,pg4,pg5,pg6]
  repeat ((first|(refine plan_take (by rfl) (by rfl) ?_;apply Exists.intro;refine⟨fun w' hw'=>?_,?_⟩;(· ((try dsimp only at hw');go_simp;(try with_reducible rfl))))|(refine plan_skip (by rfl) (by rfl) ?_));simp only[Act.put,List.getElem_toArray,List.getElem_cons_succ,pg3,pg4,pg5,pg6])
  refine plan_done ?_;go_wp2;go_ret;exact⟨by rw[F.out];rfl,by have:=H.out.below;rwa[HP.out]at this⟩
 have gA:=hd_ hA;obtain⟨iA,iB⟩:=in6_iff.1 hA;clear hA;obtain⟨i,rfl⟩:∃i:Nat,node=i:=⟨node.toNat,by omega⟩
 have i5:i<5:=by omega
 clear iA iB;obtain⟨nd,hnd⟩:∃nd,n.nodes[i]? =some nd:=⟨_,List.getElem?_eq_getElem (by rw[HS.out.nodes];exact i5)⟩
 obtain⟨rs,hrs⟩:∃rs,n.past[i]? =some rs:=⟨_,List.getElem?_eq_getElem (by rw[HS.out.past];exact i5)⟩
 have eN:nodeAt n (i:Int)=nd:=by unfold nodeAt;rw[List.getD_eq_getElem?_getD,Int.toNat_natCast,hnd];rfl
 have eR:rowsAt n (i:Int)=rs:=by unfold rowsAt;rw[List.getD_eq_getElem?_getD,Int.toNat_natCast,hrs];rfl
 have eL:=HS.out.rows i i5;rw[eN,eR]at eL;have EN:=hd_ eN;have hWB:=H.out.below;rw[HP.out]at hWB;obtain⟨g1,xk,ck,fk,rfl,_,_,_,_,_,b0,_⟩:=node_at ((slcR_frame nodeR_frame _ _).below N1.out hWB lr_) hnd;obtain⟨g4,xr,cr,fr,rfl,_,_,rr,_,_,b1⟩:=past_at ((slcR_frame rowsR_frame _ _).below N4.out hWB lr_) hrs;have ER:=hd_ eR;have HL:=hd_ eL;clear hnd hrs eN eR eL hWB;have i0:(0:Int)<=(i:Int):=by omega
 have i5':(i:Int)<5:=by omega
 by_cases hB:in6 born 1 nd.born=true
 case neg=>
  have gB:in6 born 1 nd.born=false:=by simpa using hB
  have F:=hd_ (show entryB n ⟨(i:Int),born,num,s⟩=false by rw[EB.out,EN.out,gA.out,gB];rfl);have gA:=gA.out;clear hB;go_upto_region 1 with fail
  refine wp_region_plan 99 (.tk 0 6 (.alt 6 (.tk 7 11 (.alt 18 (.tk 19 16 (.alt 35 (.tk 36 2 .done) .nomore)) .nomore)) .nomore)) (fun w'=>w'=W) (by kernel_rfl) (by kernel_rfl) (fun _ _ _ _ _ h=>h) EW.out.symm ?_;rw[<-EW.out]
  repeat ((first|(refine plan_take (by rfl) (by rfl) ?_;apply Exists.intro;refine⟨fun w' hw'=>?_,?_⟩;(· ((try dsimp only at hw');go_simp;(try with_reducible rfl))))|(refine plan_skip (by rfl) (by rfl) ?_));simp only[Act.put,List.getElem_toArray,List.getElem_cons_succ,pg3,pg4,pg5,pg6])
  refine plan_last (by rfl) (fun K' hK=>?_);go_simp;refine (in6_at (i:Int) 0 4 W).mono ?_;rintro e w' ⟨rfl,hw'⟩;rw[hw'];clear hw' w';refine hK _ _ (.inr rfl) ?_;clear hK K'
  try simp only[Act.put,List.getElem_toArray,List.getElem_cons_succ,pg3,pg4,pg5,pg6]
  repeat ((first|(refine plan_take (by rfl) (by rfl) ?_;apply Exists.intro;refine⟨fun w' hw'=>?_,?_⟩;(· ((try dsimp only at hw');go_simp;(try with_reducible rfl))))|(refine plan_skip (by rfl) (by rfl) ?_));simp only[Act.put,List.getElem_toArray,List.getElem_cons_succ,pg3,pg4,pg5,pg6])
  refine plan_last (by rfl) (fun K' hK=>?_);go_simp;refine (in6_at born 1 nd.born W).mono ?_;rintro e w' ⟨rfl,hw'⟩;rw[hw'];clear hw' w';refine hK _ _ (.inr rfl) ?_;clear hK K'
  try simp only[Act.put,List.getElem_toArray,List.getElem_cons_succ,pg3,pg4,pg5,pg6]
  repeat ((first|(refine plan_take (by rfl) (by rfl) ?_;apply Exists.intro;refine⟨fun w' hw'=>?_,?_⟩;(· ((try dsimp only at hw');go_simp;(try with_reducible rfl))))|(refine plan_skip (by rfl) (by rfl) ?_));simp only[Act.put,List.getElem_toArray,List.getElem_cons_succ,pg3,pg4,pg5,pg6])
  refine plan_last (by rfl) (fun K' hK=>?_);go_simp;refine hK _ _ (.inr rfl) ?_;clear hK K'
  try simp only[Act.put,List.getElem_toArray,List.getElem_cons_succ,pg3,pg4,pg5,pg6]
  repeat ((first|(refine plan_take (by rfl) (by rfl) ?_;apply Exists.intro;refine⟨fun w' hw'=>?_,?_⟩;(· ((try dsimp only at hw');go_simp;(try with_reducible rfl))))|(refine plan_skip (by rfl) (by rfl) ?_));simp only[Act.put,List.getElem_toArray,List.getElem_cons_succ,pg3,pg4,pg5,pg6])
  refine plan_done ?_;go_wp2;go_ret;exact⟨by rw[F.out];rfl,by have:=H.out.below;rwa[HP.out]at this⟩
 have gB:=hd_ hB;obtain⟨jA,jB⟩:=in6_iff.1 hB;clear hB;obtain⟨j,rfl⟩:∃j:Nat,born=j:=⟨born.toNat,by omega⟩
 have jr:j<rs.length:=by have:=HL.out;omega
 have j0:(0:Int)<=(j:Int):=by omega
 have j1:(j:Int)<(rs.length:Int):=by omega
 clear jA jB;obtain⟨lp,hlp⟩:∃lp,rs[j]? =some lp:=⟨_,List.getElem?_eq_getElem jr⟩
 have EP:Hid (pastAt n (i:Int) (j:Int)=lp):=hd_ (by unfold pastAt;rw[ER.out,List.getD_eq_getElem?_getD,Int.toNat_natCast,hlp];rfl);obtain⟨g5,xl,cl,fl,rfl,_,_,rl,lc,lm,b2⟩:=row_at rr hlp;have RL:=hd_ rl;clear hlp rr rl jr
 by_cases hC:in6 num 0 (lp.length:Int)=true
 case neg=>
  have gC:in6 num 0 (lp.length:Int)=false:=by simpa using hC
  have F:=hd_ (show entryB n ⟨(i:Int),(j:Int),num,s⟩=false by rw[EB.out,EN.out,EP.out,gA.out,gB.out,gC];rfl);have gA:=gA.out;have gB:=gB.out;clear hC;go_upto_region 1 with fail
  refine wp_region_plan 99 (.tk 0 6 (.alt 6 (.tk 7 11 (.alt 18 (.tk 19 16 (.alt 35 (.tk 36 2 .done) .nomore)) .nomore)) .nomore)) (fun w'=>w'=W) (by kernel_rfl) (by kernel_rfl) (fun _ _ _ _ _ h=>h) EW.out.symm ?_;rw[<-EW.out]
  repeat ((first|(refine plan_take (by rfl) (by rfl) ?_;apply Exists.intro;refine⟨fun w' hw'=>?_,?_⟩;(· ((try dsimp only at hw');go_simp;(try with_reducible rfl))))|(refine plan_skip (by rfl) (by rfl) ?_));simp only[Act.put,List.getElem_toArray,List.getElem_cons_succ,pg3,pg4,pg5,pg6])
  refine plan_last (by rfl) (fun K' hK=>?_);go_simp;refine (in6_at (i:Int) 0 4 W).mono ?_;rintro e w' ⟨rfl,hw'⟩;rw[hw'];clear hw' w';refine hK _ _ (.inr rfl) ?_;clear hK K'
  try simp only[Act.put,List.getElem_toArray,List.getElem_cons_succ,pg3,pg4,pg5,pg6]
  repeat ((first|(refine plan_take (by rfl) (by rfl) ?_;apply Exists.intro;refine⟨fun w' hw'=>?_,?_⟩;(· ((try dsimp only at hw');go_simp;(try with_reducible rfl))))|(refine plan_skip (by rfl) (by rfl) ?_));simp only[Act.put,List.getElem_toArray,List.getElem_cons_succ,pg3,pg4,pg5,pg6])
  refine plan_last (by rfl) (fun K' hK=>?_);go_simp;refine (in6_at (j:Int) 1 nd.born W).mono ?_;rintro e w' ⟨rfl,hw'⟩;rw[hw'];clear hw' w';refine hK _ _ (.inr rfl) ?_;clear hK K'
  try simp only[Act.put,List.getElem_toArray,List.getElem_cons_succ,pg3,pg4,pg5,pg6]
  repeat ((first|(refine plan_take (by rfl) (by rfl) ?_;apply Exists.intro;refine⟨fun w' hw'=>?_,?_⟩;(· ((try dsimp only at hw');go_simp;(try with_reducible rfl))))|(refine plan_skip (by rfl) (by rfl) ?_));simp only[Act.put,List.getElem_toArray,List.getElem_cons_succ,pg3,pg4,pg5,pg6])
  refine plan_last (by rfl) (fun K' hK=>?_);go_simp;refine (in6_at num 0 (lp.length:Int) W).mono ?_;rintro e w' ⟨rfl,hw'⟩;rw[hw'];clear hw' w';refine hK _ _ (.inr rfl) ?_;clear hK K'
  try simp only[Act.put,List.getElem_toArray,List.getElem_cons_succ,pg3,pg4,pg5,pg6]
  repeat ((first|(refine plan_take (by rfl) (by rfl) ?_;apply Exists.intro;refine⟨fun w' hw'=>?_,?_⟩;(· ((try dsimp only at hw');go_simp;(try with_reducible rfl))))|(refine plan_skip (by rfl) (by rfl) ?_));simp only[Act.put,List.getElem_toArray,List.getElem_cons_succ,pg3,pg4,pg5,pg6])
  refine plan_done ?_;go_wp2;go_ret;exact⟨by rw[F.out];rfl,by have:=H.out.below;rwa[HP.out]at this⟩
 have gC:=hd_ hC;obtain⟨qA,qB⟩:=in6_iff.1 hC;obtain⟨q,rfl⟩:∃q:Nat,num=q:=⟨num.toNat,by omega⟩
 have FB:Hid (entryB n ⟨(i:Int),(j:Int),(q:Int),s⟩=(okS (upS (lp.take q))&&sameS (upS (lp.take q)) s)):=hd_ (by rw[EB.out,EN.out,EP.out,gA.out,gB.out,gC.out,Int.toNat_natCast];rfl);have hA:=gA.out;have hB:=gB.out;clear qA;go_upto_region 1 with fail
 refine wp_region_plan 99 (.tk 0 6 (.alt 6 (.tk 7 11 (.alt 18 (.tk 19 16 (.alt 35 (.tk 36 2 .done) .nomore)) .nomore)) .nomore)) (fun w'=>w'=W) (by kernel_rfl) (by kernel_rfl) (fun _ _ _ _ _ h=>h) EW.out.symm ?_;rw[<-EW.out]
 repeat ((first|(refine plan_take (by rfl) (by rfl) ?_;apply Exists.intro;refine⟨fun w' hw'=>?_,?_⟩;(· ((try dsimp only at hw');go_simp;(try with_reducible rfl))))|(refine plan_skip (by rfl) (by rfl) ?_));simp only[Act.put,List.getElem_toArray,List.getElem_cons_succ,pg3,pg4,pg5,pg6])
 refine plan_last (by rfl) (fun K' hK=>?_);go_simp;refine (in6_at (i:Int) 0 4 W).mono ?_;rintro e w' ⟨rfl,hw'⟩;rw[hw'];clear hw' w';refine hK _ _ (.inr rfl) ?_;clear hK K'
 try simp only[Act.put,List.getElem_toArray,List.getElem_cons_succ,pg3,pg4,pg5,pg6]
 repeat ((first|(refine plan_take (by rfl) (by rfl) ?_;apply Exists.intro;refine⟨fun w' hw'=>?_,?_⟩;(· ((try dsimp only at hw');go_simp;(try with_reducible rfl))))|(refine plan_skip (by rfl) (by rfl) ?_));simp only[Act.put,List.getElem_toArray,List.getElem_cons_succ,pg3,pg4,pg5,pg6])
 refine plan_last (by rfl) (fun K' hK=>?_);go_simp;refine (in6_at (j:Int) 1 nd.born W).mono ?_;rintro e w' ⟨rfl,hw'⟩;rw[hw'];clear hw' w';refine hK _ _ (.inr rfl) ?_;clear hK K'
 try simp only[Act.put,List.getElem_toArray,List.getElem_cons_succ,pg3,pg4,pg5,pg6]
 repeat ((first|(refine plan_take (by rfl) (by rfl) ?_;apply Exists.intro;refine⟨fun w' hw'=>?_,?_⟩;(· ((try dsimp only at hw');go_simp;(try with_reducible rfl))))|(refine plan_skip (by rfl) (by rfl) ?_));simp only[Act.put,List.getElem_toArray,List.getElem_cons_succ,pg3,pg4,pg5,pg6])
 refine plan_last (by rfl) (fun K' hK=>?_);go_simp;refine (in6_at (q:Int) 0 (lp.length:Int) W).mono ?_;rintro e w' ⟨rfl,hw'⟩;rw[hw'];clear hw' w';refine hK _ _ (.inr rfl) ?_;clear hK K'
 try simp only[Act.put,List.getElem_toArray,List.getElem_cons_succ,pg3,pg4,pg5,pg6]
 repeat ((first|(refine plan_take (by rfl) (by rfl) ?_;apply Exists.intro;refine⟨fun w' hw'=>?_,?_⟩;(· ((try dsimp only at hw');go_simp;(try with_reducible rfl))))|(refine plan_skip (by rfl) (by rfl) ?_));simp only[Act.put,List.getElem_toArray,List.getElem_cons_succ,pg3,pg4,pg5,pg6])
 refine plan_done ?_;clear hA hB hC b0;have hb2:(q:Int)<=(cl:Int):=by omega
 have q0:(0:Int)<=(q:Int):=by omega
 have IL:Hid (Ints W (.slice xl q cl) (lp.take q)):=hd_ (by
    obtain⟨v,ev,ho,_⟩:=intsR_to RL.out
    cases ev
    exact ints_cut ho (by omega))
 have qn:(q:Int).toNat=q:=Int.toNat_natCast q;go_upto_region 3 with fail
 have S0:Hid (∀w',Below W.heap.size W w'->w'.cell? ⟨p1,3,Option.none⟩=some (.slice (some ⟨g4,0,Option.none⟩) 5 c4)/\w'.cell? ⟨p2,0,Option.none⟩=some (.int .i64 (i:Int))/\w'.cell? ⟨p2,1,Option.none⟩=some (.int .i64 (j:Int))/\w'.cell? ⟨p2,2,Option.none⟩=some (.int .i64 (q:Int))/\w'.cell? ⟨g4,i,Option.none⟩=some (.slice (some ⟨g5,0,Option.none⟩) rs.length cr)/\w'.cell? ⟨g5,j,Option.none⟩=some (.slice xl lp.length cl)):=hd_ fun w' hb=>by
  have k:∀(g o:Nat) (v:Value),W.cell? ⟨g,o,Option.none⟩=some v->w'.cell? ⟨g,o,Option.none⟩=some v:=fun g o v hc=>(hb.cell (p:=⟨g,o,Option.none⟩) (World.block_lt_of_cell? _ _ hc)).trans hc
  exact⟨k _ _ _ a3,k _ _ _ d0,k _ _ _ d1,k _ _ _ d2,k _ _ _ b1,k _ _ _ b2⟩
 clear a0 a1 a2 a3 b1 b2 d0 d1 d2 d3 d4 d5 d6 d7 d8 d9
 refine wp_region_plan 19 (.tk 0 13 (.alt 13 (.tk 14 3 (.alt 17 (.alt 18 (.alt 19 .done .nomore) .nomore) .nomore)) (.alt 17 (.alt 13 (.tk 14 3 (.alt 18 (.alt 19 .done .nomore) .nomore)) .nomore) .nomore))) (fun w'=>w'.cell? ⟨p1,3,Option.none⟩=some (.slice (some ⟨g4,0,Option.none⟩) 5 c4)/\w'.cell? ⟨p2,0,Option.none⟩=some (.int .i64 (i:Int))/\w'.cell? ⟨p2,1,Option.none⟩=some (.int .i64 (j:Int))/\w'.cell? ⟨p2,2,Option.none⟩=some (.int .i64 (q:Int))/\w'.cell? ⟨g4,i,Option.none⟩=some (.slice (some ⟨g5,0,Option.none⟩) rs.length cr)/\w'.cell? ⟨g5,j,Option.none⟩=some (.slice xl lp.length cl)) (by kernel_rfl) (by kernel_rfl) (fun _ _ _ _ _ h=>h) (S0.out _ (Below.drew (Below.refl _ _))) ?_
 repeat ((first|(refine plan_take (by rfl) (by rfl) ?_;apply Exists.intro;refine⟨fun w' hw'=>?_,?_⟩;(· ((try dsimp only at hw');go_simp;(try with_reducible rfl))))|(refine plan_skip (by rfl) (by rfl) ?_));simp only[Act.put,List.getElem_toArray,List.getElem_cons_succ,pg3,pg4,pg5,pg6])
 have H3:=hd_ H.out.drew;have BW:Hid (Below W.heap.size W W.drew):=hd_ (Below.drew (Below.refl _ _));have I3:Hid (Ints W.drew (.slice xl q cl) (lp.take q)):=hd_ (IL.out.below BW.out lr_);clear H IL;have hsz:W.heap.size=W.drew.heap.size:=rfl;have HSZ:=hd_ hsz;clear hsz;generalize W.drew=W3 at H3 I3 BW HSZ ⊢
 have KO:=hd_ (fun w' (hb:Below W3.heap.size W3 w')=>spSumOf_at w' xl q cl (lp.take q) (I3.out.below hb lr_));generalize upS (lp.take q)=sm at KO FB;obtain⟨ok,hok⟩:∃ok,ok=okS sm:=⟨_,rfl⟩
 rw[<-hok]at KO FB;clear hok;clear I3;refine plan_alt (by rfl) (fun K' hK=>?_) ?_
 ·go_simp
  refine (KO.out _ (Below.refl _ _)).mono ?_;rintro e w4 ⟨U,rfl,ho,hb⟩;have N4:=(M.start W3).later hb;refine hK _ _ (.inr (S0.out _ (BW.out.trans (by rw[HSZ.out];exact N4.below)))) ?_;clear hK K'
  try simp only[Act.put,List.getElem_toArray,List.getElem_cons_succ,pg3,pg4,pg5,pg6]
  repeat ((first|(refine plan_take (by rfl) (by rfl) ?_;apply Exists.intro;refine⟨fun w' hw'=>?_,?_⟩;(· ((try dsimp only at hw');go_simp;(try with_reducible rfl))))|(refine plan_skip (by rfl) (by rfl) ?_));simp only[Act.put,List.getElem_toArray,List.getElem_cons_succ,pg3,pg4,pg5,pg6])
  have N5:=N4.alloc #[.slice none 0 0,.slice none 0 0,.slice none 0 0,.int .i64 0,.int .i64 0,.slice none 0 0,.int .i64 0] 46;refine plan_last (by rfl) (fun K' hK=>?_);go_simp;refine hK _ _ (.inr (S0.out _ (BW.out.trans (by rw[HSZ.out];exact N5.below)))) ?_;clear hK K'
  try simp only[Act.put,List.getElem_toArray,List.getElem_cons_succ,pg3,pg4,pg5,pg6]
  have N6:=hd_ (N4.alloc #[.slice U.xr U.nr U.cr,.slice U.xf U.nf U.cf,.slice U.xt U.nt U.ct,.int .i64 sm.lo,.int .i64 sm.al,.slice U.xk U.nk U.ck,.int .i64 sm.ka] 46);have R6:=hd_ (ho.rd.below ((M.start w4).alloc #[.slice U.xr U.nr U.cr,.slice U.xf U.nf U.cf,.slice U.xt U.nt U.ct,.int .i64 sm.lo,.int .i64 sm.al,.slice U.xk U.nk U.ck,.int .i64 sm.ka] 46).below lr_)
  have H6:=hd_ (H3.out.later N6.out.below);clear N4 ho hb;refine plan_last (by rfl) (fun K' hK=>?_);go_simp;refine hK _ _ (.inr (S0.out _ (BW.out.trans (by rw[HSZ.out];exact N6.out.below)))) ?_;clear hK K'
  try simp only[Act.put,List.getElem_toArray,List.getElem_cons_succ,pg3,pg4,pg5,pg6]
  clear N5 S0 BW KO;refine plan_last (by rfl) (fun K hK=>?_);go_simp;refine hK _ _ (.inl rfl) ?_;clear hK K
  try simp only[Act.put,List.getElem_toArray,List.getElem_cons_succ,pg3,pg4,pg5,pg6]
  refine plan_done ?_;cases ok with
  |false=>
   have F:=hd_ (show entryB n ⟨(i:Int),(j:Int),(q:Int),s⟩=false by rw[FB.out];rfl);go_wp2;go_ret;exact⟨by rw[F.out];rfl,by have:=H6.out.below;rwa[HP.out]at this⟩
  |true=>
   have F:=hd_ (show entryB n ⟨(i:Int),(j:Int),(q:Int),s⟩=sameS sm s by rw[FB.out];rfl);obtain⟨e0,e1,e2,e3,e4,e5,e6⟩:=N6.out.cells7;obtain⟨d0,d1,d2,d3,d4,d5,d6,d7,d8,d9⟩:=H6.out.cells10;have KS:=hd_ (spSums_at _ (V1:=U) (V2:=V) (s1:=sm) (s2:=s) R6.out (HE.out.below (by have:=H6.out.below;rwa[HP.out]at this) lr_));clear R6
   go_wp2_with fail
   refine KS.out.mono ?_;rintro r w7 ⟨rfl,hb⟩;have H7:=hd_ (H6.out.later hb);clear KS hb e0 e1 e2 e3 e4 e5 e6 d0 d1 d2 d3 d4 d5 d6 d7 d8 d9 N6 H6;go_wp2;go_ret;exact⟨by rw[F.out];rfl,by have:=H7.out.below;rwa[HP.out]at this⟩
 ·refine plan_last (by rfl) (fun K' hK=>?_)
  go_simp;have N4:=(M.start W3).alloc #[.slice none 0 0,.slice none 0 0,.slice none 0 0,.int .i64 0,.int .i64 0,.slice none 0 0,.int .i64 0] 46;refine hK _ _ (.inr (S0.out _ (BW.out.trans (by rw[HSZ.out];exact N4.below)))) ?_;clear hK K'
  try simp only[Act.put,List.getElem_toArray,List.getElem_cons_succ,pg3,pg4,pg5,pg6]
  refine plan_last (by rfl) (fun K' hK=>?_);go_simp;refine (KO.out _ N4.below).mono ?_;rintro e w5 ⟨U,rfl,ho,hb⟩;have N5s:=N4.sum hb ho;have N5:=N5s.p1;refine hK _ _ (.inr (S0.out _ (BW.out.trans (by rw[HSZ.out];exact N5.below)))) ?_;clear hK K'
  try simp only[Act.put,List.getElem_toArray,List.getElem_cons_succ,pg3,pg4,pg5,pg6]
  repeat ((first|(refine plan_take (by rfl) (by rfl) ?_;apply Exists.intro;refine⟨fun w' hw'=>?_,?_⟩;(· ((try dsimp only at hw');go_simp;(try with_reducible rfl))))|(refine plan_skip (by rfl) (by rfl) ?_));simp only[Act.put,List.getElem_toArray,List.getElem_cons_succ,pg3,pg4,pg5,pg6])
  obtain⟨e0,e1,e2,e3,e4,e5,e6⟩:=N5.cells7;have ef:=N5.free;have N6:=hd_ (N5.set7 (.slice U.xr U.nr U.cr) (.slice U.xf U.nf U.cf) (.slice U.xt U.nt U.ct) (.int .i64 sm.lo) (.int .i64 sm.al) (.slice U.xk U.nk U.ck) (.int .i64 sm.ka));have H6:=hd_ (H3.out.later N6.out.below);have R6:Hid (RdS _ U sm):=hd_ (by
      obtain⟨f6,h6,_⟩:=N6.out.p1.first
      obtain⟨U',eU,rU⟩:=sumR_rd h6
      cases sv_inj eU
      exact rU)
  clear ho hb N4 N5s;refine plan_last (by rfl) (fun K' hK=>?_);go_simp;refine hK _ _ (.inr (S0.out _ (BW.out.trans (by rw[HSZ.out];exact N6.out.below)))) ?_;clear hK K'
  try simp only[Act.put,List.getElem_toArray,List.getElem_cons_succ,pg3,pg4,pg5,pg6]
  clear e0 e1 e2 e3 e4 e5 e6 ef N5 S0 BW KO;refine plan_last (by rfl) (fun K hK=>?_);go_simp;refine hK _ _ (.inl rfl) ?_;clear hK K
  try simp only[Act.put,List.getElem_toArray,List.getElem_cons_succ,pg3,pg4,pg5,pg6]
  refine plan_done ?_;cases ok with
  |false=>
   have F:=hd_ (show entryB n ⟨(i:Int),(j:Int),(q:Int),s⟩=false by rw[FB.out];rfl);go_wp2;go_ret;exact⟨by rw[F.out];rfl,by have:=H6.out.below;rwa[HP.out]at this⟩
  |true=>
   have F:=hd_ (show entryB n ⟨(i:Int),(j:Int),(q:Int),s⟩=sameS sm s by rw[FB.out];rfl);obtain⟨e0,e1,e2,e3,e4,e5,e6⟩:=N6.out.cells7;obtain⟨d0,d1,d2,d3,d4,d5,d6,d7,d8,d9⟩:=H6.out.cells10;have KS:=hd_ (spSums_at _ (V1:=U) (V2:=V) (s1:=sm) (s2:=s) R6.out (HE.out.below (by have:=H6.out.below;rwa[HP.out]at this) lr_));clear R6
   go_wp2_with fail
   refine KS.out.mono ?_;rintro r w7 ⟨rfl,hb⟩;have H7:=hd_ (H6.out.later hb);clear KS hb e0 e1 e2 e3 e4 e5 e6 d0 d1 d2 d3 d4 d5 d6 d7 d8 d9 N6 H6;go_wp2;go_ret;exact⟨by rw[F.out];rfl,by have:=H7.out.below;rwa[HP.out]at this⟩
end N
end Go.Proofs.YtcblbdpdbggkbaaGreat
set_option linter.unusedVariables false
set_option linter.unusedSectionVars false
set_option linter.unusedSimpArgs false
namespace Go.Proofs.YtcblbdpdbggkbaaGreat.N
open Go.RowKit Go.Sort
theorem drop_at {α:Type} {l:List α} {k:Nat} {a:α} (h:l[k]? =some a):l.drop k=a::l.drop (k+1):=by
 obtain⟨hk,rfl⟩:=List.getElem?_eq_some_iff.1 h;exact List.drop_eq_getElem_cons hk
theorem take_at {α:Type} {l:List α} {k:Nat} {a:α} (h:l[k]? =some a):l.take (k+1)=l.take k++[a]:=by
 rw[List.take_add_one,h];rfl
theorem find_at {es:List En} {i:Int} {k:Nat} {e:En} (no:∀(j:Nat) (x:En),j<k->es[j]? =some x->x.node≠i) (h:es[k]? =some e) (q:e.node=i):findE es i=some e:=by
 rw[<-List.take_append_drop k es,drop_at h];unfold findE;rw[List.find?_append];have n:(es.take k).find? (fun x=>x.node==i)=none:=by
  rw[List.find?_eq_none];intro x hx;obtain⟨j,hj,rfl⟩:=List.getElem_of_mem hx;rw[List.length_take]at hj;rw[List.getElem_take];have:=no j _ (by omega) (List.getElem?_eq_getElem (by omega));simpa using this
 rw[n,List.find?_cons];simp[q]
theorem find_no {es:List En} {i:Int} (no:∀(j:Nat) (x:En),es[j]? =some x->x.node≠i):findE es i=none:=find_none fun x hx=>by
 obtain⟨j,hj,rfl⟩:=List.getElem_of_mem hx;exact no j _ (List.getElem?_eq_getElem hj)
theorem known_idx {n:Nt} {es:List En}:knownB n es=true↔∀(i:Nat) (e:En),es[i]? =some e->entryB n e=true/\(0<i->∀d:En,es[i - 1]? =some d->d.node<e.node):=by
 rw[knownB_iff]
 constructor
 ·intro h i e hi
  refine⟨entryB_iff.2 (h.all e (List.mem_of_getElem? hi)),fun i0 d hd=>?_⟩;obtain⟨a,rfl⟩:=List.getElem?_eq_some_iff.1 hi;obtain⟨b,rfl⟩:=List.getElem?_eq_some_iff.1 hd;exact List.pairwise_iff_getElem.1 h.asc (i - 1) i b a (by omega)
 ·intro h
  refine⟨fun e he=>?_,?_⟩
  ·obtain⟨i,hi⟩:=List.getElem?_of_mem he
   exact entryB_iff.1 (h i e hi).1
  ·refine List.pairwise_iff_getElem.2 fun i j hi hj ij=>?_
   have key:∀k,i<k->(hk:k<es.length)->es[i].node<es[k].node:=by
    intro k
    induction k with
    |zero=>intro c;omega
    |succ k ih=>
     intro c hk;have s:=(h (k+1) _ (List.getElem?_eq_getElem hk)).2 (by omega) es[k] (List.getElem?_eq_getElem (by omega))
     by_cases q:i=k
     ·subst q;exact s
     ·have:=ih (by omega) (by omega);omega
   exact key j ij hj
theorem known_bad {n:Nt} {es:List En} {i:Nat} {e:En} (hi:es[i]? =some e) (h:entryB n e=false\/(0<i/\∃d:En,es[i - 1]? =some d/\e.node<=d.node)):knownB n es=false:=by
 rw[Bool.eq_false_iff];intro c;obtain⟨c1,c2⟩:=known_idx.1 c i e hi;rcases h with h|⟨i0,d,hd,l⟩
 ·rw[h]at c1;cases c1
 ·have:=c2 i0 d hd;omega
theorem all_idx {α:Type} {p:α->Bool} {l:List α}:l.all p=true↔∀(i:Nat) (a:α),l[i]? =some a->p a=true:=by
 rw[List.all_eq_true];exact⟨fun h i a hi=>h a (List.mem_of_getElem? hi),fun h a ha=>by
    obtain⟨i,hi⟩:=List.getElem?_of_mem ha
    exact h i a hi⟩
theorem all_bad {α:Type} {p:α->Bool} {l:List α} {i:Nat} {a:α} (hi:l[i]? =some a) (h:p a=false):l.all p=false:=by
 rw[Bool.eq_false_iff];intro c;rw[all_idx.1 c i a hi]at h;cases h
end Go.Proofs.YtcblbdpdbggkbaaGreat.N
set_option linter.unusedVariables false
set_option linter.unusedSectionVars false
set_option linter.unusedSimpArgs false
namespace Go.Proofs.YtcblbdpdbggkbaaGreat
open Go.RowKit Go.Sort
namespace N
theorem rds_of {w:World} {V:SV} {s:Sm} {f:List Nat} (h:sumR w [.slice V.xr V.nr V.cr,.slice V.xf V.nf V.cf,.slice V.xt V.nt V.ct,.int .i64 s.lo,.int .i64 s.al,.slice V.xk V.nk V.ck,.int .i64 s.ka] s f):RdS w V s:=by
 obtain⟨V',e,r⟩:=sumR_rd h;cases sv_inj e;exact r
abbrev entV (V:SV) (e:En):Value:=.agg #[.int .i64 e.node,.int .i64 e.born,.int .i64 e.num,.slice V.xr V.nr V.cr,.slice V.xf V.nf V.cf,.slice V.xt V.nt V.ct,.int .i64 (e.s).lo,.int .i64 (e.s).al,.slice V.xk V.nk V.ck,.int .i64 (e.s).ka]
abbrev noEntV:Value:=.agg #[.int .i64 0,.int .i64 0,.int .i64 0,.slice none 0 0,.slice none 0 0,.slice none 0 0,.int .i64 0,.int .i64 0,.slice none 0 0,.int .i64 0]
theorem spOwn_at (w:World) {xk:Option Addr} {k ck:Nat} {es:List En} {f:List Nat} (h:knownR TY w [.slice xk k ck] es f) (i b0 b1 b2 b3:Int):
  Calls Tryz.prog 159 #[.agg #[.int .i64 b0,.slice xk k ck,.int .i64 b1,.int .i64 b2,.int .i64 b3],.int .i64 i] w fun r w'=>(∃u,r=.returned u/\((∃e V,findE es i=some e/\RdS w V e.s/\u=.tuple #[entV V e,.bool true])\/(findE es i=none/\u=.tuple #[noEntV,.bool false])))/\Below w.heap.size w w':=by
 obtain rfl:k=es.length:=(slcR_row h).1;obtain⟨_,_,e1,q1,q2⟩:=slcR_value h;have hm:es.length<=maxLen:=Nat.le_trans q1 q2;unfold maxLen at hm;clear e1 q1 q2;have H1:=hd_ h;clear h
 have H0:=((M.start w).alloc #[.int .i64 b0,.slice xk es.length ck,.int .i64 b1,.int .i64 b2,.int .i64 b3] 55).alloc #[.int .i64 0,.int .i64 0,.int .i64 0,.slice none 0 0,.slice none 0 0,.slice none 0 0,.int .i64 0,.int .i64 0,.slice none 0 0,.int .i64 0] 64;simp only[World.size_alloc]at H0;go_enter Tryz.func159,Tryz.ntmps159;go_wp2;obtain⟨p1,hp1⟩:∃p,p=w.heap.size:=⟨_,rfl⟩
 obtain⟨p2,hp2⟩:∃p,p=w.heap.size+1:=⟨_,rfl⟩
 have HP:=hd_ hp1;rw[<-hp2, <-hp1]at H0;rw[<-hp2, <-hp1];clear hp1 hp2;generalize ((w.alloc (.cells #[.int .i64 b0,.slice xk es.length ck,.int .i64 b1,.int .i64 b2,.int .i64 b3] 55)).alloc (.cells #[.int .i64 0,.int .i64 0,.int .i64 0,.slice none 0 0,.slice none 0 0,.slice none 0 0,.int .i64 0,.int .i64 0,.slice none 0 0,.int .i64 0] 64))=w1 at H0 ⊢;have H:=hd_ H0;clear H0
 go_loopw [6] (fun z wr=>∃j:Nat,j<=es.length/\z=.int .i64 j/\(∀(a:Nat) (x:En),a<j->es[a]? =some x->x.node≠i)/\wr=w1) (fun z _=>es.length - (intOf z).toNat)
 case atStart=>exact⟨0,Nat.zero_le _,rfl,fun a x h=>absurd h (Nat.not_lt_zero _),rfl⟩
 case round=>
  obtain⟨j,hj,rfl,hno,rfl⟩:=hrel;have NO:=hd_ hno;clear hno;have hWB:=H.out.below;rw[HP.out]at hWB;obtain⟨d0,d1,d2,d3,d4,d5,d6,d7,d8,d9⟩:=H.out.cells10;obtain⟨a0,a1,a2,a3,a4⟩:=H.out.p1.cells5
  by_cases hlt:j<es.length
  ·obtain⟨x,hx⟩:∃x,es[j]? =some x:=⟨_,List.getElem?_eq_getElem hlt⟩
   obtain⟨g,V,fe,rfl,_,_,sr,ca0,ca1,ca2,cas⟩:=known_at H1.out hx;have RV:=hd_ (rds_of sr);replace ca0:=cell_later hWB ca0;replace ca1:=cell_later hWB ca1;replace ca2:=cell_later hWB ca2;have ca3:=cell_later hWB (cas 0 _ rfl);have ca4:=cell_later hWB (cas 1 _ rfl);have ca5:=cell_later hWB (cas 2 _ rfl);have ca6:=cell_later hWB (cas 3 _ rfl);have ca7:=cell_later hWB (cas 4 _ rfl)
   have ca8:=cell_later hWB (cas 5 _ rfl);have ca9:=cell_later hWB (cas 6 _ rfl);clear sr;clear cas hWB;have k0:(0:Int)<=(j:Int):=by omega
   have k1:(j:Int)<(es.length:Int):=by omega
   by_cases eq:x.node=i
   ·have g0:(x.node==i)=true:=by simpa using eq
    have F:=hd_ (find_at NO.out hx eq);have ef:=H.out.free;have N:=hd_ (H.out.set10 (.int .i64 x.node) (.int .i64 x.born) (.int .i64 x.num) (.slice V.xr V.nr V.cr) (.slice V.xf V.nf V.cf) (.slice V.xt V.nt V.ct) (.int .i64 x.s.lo) (.int .i64 x.s.al) (.slice V.xk V.nk V.ck) (.int .i64 x.s.ka));clear eq NO hx;go_wp2;obtain⟨e0,e1,e2,e3,e4,e5,e6,e7,e8,e9⟩:=N.out.cells10
    exact bodyPost_ret (v:=.tuple #[entV V x,.bool true]) (by simp[results,Tryz.results159,go_sem,e0,e1,e2,e3,e4,e5,e6,e7,e8,e9]) rfl ⟨⟨_,rfl,.inl ⟨x,V,F.out,RV.out,rfl⟩⟩,by have:=N.out.below;rwa[HP.out]at this⟩
   ·have g0:(x.node==i)=false:=by simpa using eq
    have NO2:Hid (∀(a:Nat) (y:En),a<j+1->es[a]? =some y->y.node≠i):=hd_ fun a y ha hy=>by
     by_cases q:a<j
     ·exact NO.out a y q hy
     ·obtain rfl:a=j:=by omega
      rw[hx]at hy;cases hy;exact eq
    clear eq NO hx;go_wp2;go_roundw
    case rel=>exact⟨j+1,by omega,by go_num,NO2.out,by first|rfl|trivial⟩
    case measure=>simp[intOf];omega
  ·have F:=hd_ (find_no (es:=es) (i:=i) fun a x hx=>NO.out a x (by have:=(List.getElem?_eq_some_iff.1 hx).1;omega) hx)
   have ef:=H.out.free;have N:=hd_ (H.out.set10 (.int .i64 0) (.int .i64 0) (.int .i64 0) (.slice Option.none 0 0) (.slice Option.none 0 0) (.slice Option.none 0 0) (.int .i64 0) (.int .i64 0) (.slice Option.none 0 0) (.int .i64 0));have g:decide (j<es.length)=false:=by simpa using hlt
   clear NO hWB;go_wp2;obtain⟨e0,e1,e2,e3,e4,e5,e6,e7,e8,e9⟩:=N.out.cells10;exact bodyPost_ret (v:=.tuple #[noEntV,.bool false]) (by simp[results,Tryz.results159,go_sem,e0,e1,e2,e3,e4,e5,e6,e7,e8,e9]) rfl ⟨⟨_,rfl,.inr ⟨F.out,rfl⟩⟩,by have:=N.out.below;rwa[HP.out]at this⟩
end N
end Go.Proofs.YtcblbdpdbggkbaaGreat
set_option linter.unusedVariables false
set_option linter.unusedSectionVars false
set_option linter.unusedSimpArgs false
namespace Go.Proofs.YtcblbdpdbggkbaaGreat
open Go.RowKit Go.Sort
section
variable {α:Type} {A:Rep α} {e:TypeId} {size:Nat} {w w' w0:World} {B k:Nat} {l:List Ch} {xs:List α} {x:α} {v:Value} {c:Nat->List Value}
theorem M.plus {d:Ch} {l':List Ch} (h:M B w0 w l) (k:M w.heap.size w w' (d::l')):M B w0 w' (d::l):=by
 obtain⟨f,hf,nd,lo⟩:=k.first;exact h.add k.below hf nd lo
end
namespace N
variable {w w' w0:World} {B k:Nat} {l:List Ch} {v:Value} {es:List En} {x:En} {c:Nat->List Value}
def entC (V:SV) (e:En):Ch:=entryR_frame.ch [.int .i64 e.node,.int .i64 e.born,.int .i64 e.num,.slice V.xr V.nr V.cr,.slice V.xf V.nf V.cf,.slice V.xt V.nt V.ct,.int .i64 (e.s).lo,.int .i64 (e.s).al,.slice V.xk V.nk V.ck,.int .i64 (e.s).ka] e
end N
end Go.Proofs.YtcblbdpdbggkbaaGreat
set_option linter.unusedVariables false
set_option linter.unusedSectionVars false
set_option linter.unusedSimpArgs false
namespace Go.Proofs.YtcblbdpdbggkbaaGreat
open Go.RowKit Go.Sort Go.Deep
def putA:Array Value->Nat->List Value->Array Value
 |xs,_,[]=>xs
 |xs,o,v::r=>putA (xs.setIfInBounds o v) (o+1) r
def putC:List Value->Nat->List Value->List Value
 |xs,_,[]=>xs
 |xs,o,v::r=>putC (xs.set o v) (o+1) r
section
variable {w w0:World} {B b:Nat} {l:List Ch} {t:TypeId} {xs:Array Value}
theorem M.setCells:∀(vs:List Value) {xs:Array Value} {o:Nat} {w:World},M B w0 w (boxC b t xs::l)->M B w0 (w.setCells b o vs) (boxC b t (putA xs o vs)::l)
 | [],_,_,_,h=>h
 |v::r,_,_,_,h=>M.setCells r (h.set v)
theorem M.there (h:M B w0 w (boxC b t xs::l)) {o n:Nat} (hl:o+n<=xs.size):w.there b o n:=fun j hj=>
 ⟨by rw[h.cell (i:=o+j) (Array.getElem?_eq_getElem (by omega))];rfl,h.free _⟩
section
variable {P:Program} {op:Oper} {a:Act} {K:Act->World->Prop} {Q:Exit->Act->World->Prop} {ty:TypeId} {x y:Operand} {o:Nat} {vs:List Value} {ys:Array Value}
theorem wp_mstore (h:M B w0 w (boxC b t xs::l)) (ho:op.op=.store ty x y) (hx:a.eval x=.pointer (some ⟨b,o,none⟩)) (hy:a.eval y=.agg vs.toArray) (hi:(P.info? ty).map (·.size)=some vs.length) (h1:(vs.all (·.oneCell'))=true) (hl:o+vs.length<=xs.size) (he:putA xs o vs=ys)
  (k:∀w',M B w0 w' (boxC b t ys::l)->K (a.put op.dst undef) w'):op.wp P a w K Q:=
 wp_store_mid ty x y ho b o vs.toArray hx hy (by rw[List.size_toArray];exact h.there hl) (by rw[List.size_toArray];exact hi) (by rw[List.all_toArray];exact h1) (k _ (by rw[<-he];exact h.setCells vs))
theorem wpList_mstore {ops:Array Oper} {rest:List Oper} (h:M B w0 w (boxC b t xs::l)) (hgd:op.guard=none) (ho:op.op=.store ty x y) (hx:a.eval x=.pointer (some ⟨b,o,none⟩)) (hy:a.eval y=.agg vs.toArray) (hi:(P.info? ty).map (·.size)=some vs.length) (h1:(vs.all (·.oneCell'))=true) (hl:o+vs.length<=xs.size) (he:putA xs o vs=ys)
  (k:∀w',M B w0 w' (boxC b t ys::l)->wpList P ops Q rest (a.put op.dst undef) w'):wpList P ops Q (op::rest) a w:=
 wpList_plain hgd fun _ hK=>wp_mstore h ho hx hy hi h1 hl he fun w' h'=>hK _ _ (k w' h')
theorem step_mstore {ops:Array Oper} {E:Prop} (h:M B w0 w (boxC b t xs::l)) (hgd:op.guard=none) (ho:op.op=.store ty x y) (hx:a.eval x=.pointer (some ⟨b,o,none⟩)) (hy:a.eval y=.agg vs.toArray) (hi:(P.info? ty).map (·.size)=some vs.length) (h1:(vs.all (·.oneCell'))=true) (hl:o+vs.length<=xs.size) (he:putA xs o vs=ys)
  (k:∀w',M B w0 w' (boxC b t ys::l)->K (a.put op.dst undef) w'):if Region.wanted op (yielded ops a.tmps)=true then Oper.wp P op a w K Q else E:=by
 rw[if_pos (by simp[Region.wanted,hgd])];exact wp_mstore h ho hx hy hi h1 hl he k
end
section
variable {α:Type} {A:Rep α} {FA:A.Frame} {e:TypeId} {size i g n cap:Nat} {zs:List α}
theorem M.hsetCells (hi:i<zs.length):∀(vs:List Value) {ci:List Value} {j:Nat} {w:World},j+vs.length<=size->M B w0 w (holeC FA e size i (.slice (some ⟨g,0,none⟩) n cap) zs ci::l)->M B w0 (w.setCells g (i * size+j) vs) (holeC FA e size i (.slice (some ⟨g,0,none⟩) n cap) zs (putC ci j vs)::l)
 | [],_,_,_,_,h=>h
 |v::r,ci,j,w,hl,h=>by
  rw[List.length_cons]at hl;have:=M.hsetCells hi r (j:=j+1) (by omega) (h.hset hi (j:=j) (by omega) v);rw[World.setCells];exact this
theorem M.hthere {ci:List Value} (h:M B w0 w (holeC FA e size i (.slice (some ⟨g,0,none⟩) n cap) zs ci::l)) (hi:i<zs.length) (hc:ci.length=size) {j m:Nat} (hl:j+m<=size):w.there g (i * size+j) m:=fun k hk=>
 ⟨by rw[Nat.add_assoc,h.hcell hi (j:=j+k) (List.getElem?_eq_getElem (by omega))];rfl,h.hfree _⟩
variable {P:Program} {op:Oper} {a:Act} {K:Act->World->Prop} {Q:Exit->Act->World->Prop} {ty:TypeId} {x y:Operand} {o j:Nat} {vs ci ci':List Value}
theorem wp_hstore (h:M B w0 w (holeC FA e size i (.slice (some ⟨g,0,none⟩) n cap) zs ci::l)) (hi0:i<zs.length) (hc:ci.length=size) (ho:op.op=.store ty x y) (hx:a.eval x=.pointer (some ⟨g,o,none⟩)) (hj:o=i * size+j) (hy:a.eval y=.agg vs.toArray) (hi:(P.info? ty).map (·.size)=some vs.length) (h1:(vs.all (·.oneCell'))=true) (hl:j+vs.length<=size) (he:putC ci j vs=ci')
  (k:∀w',M B w0 w' (holeC FA e size i (.slice (some ⟨g,0,none⟩) n cap) zs ci'::l)->K (a.put op.dst undef) w'):op.wp P a w K Q:=by
 subst hj;exact wp_store_mid ty x y ho g (i * size+j) vs.toArray hx hy (by rw[List.size_toArray];exact h.hthere hi0 hc hl) (by rw[List.size_toArray];exact hi) (by rw[List.all_toArray];exact h1) (k _ (by rw[<-he];exact h.hsetCells hi0 vs hl))
theorem wpList_hstore {ops:Array Oper} {rest:List Oper} (h:M B w0 w (holeC FA e size i (.slice (some ⟨g,0,none⟩) n cap) zs ci::l)) (hi0:i<zs.length) (hc:ci.length=size) (hgd:op.guard=none) (ho:op.op=.store ty x y) (hx:a.eval x=.pointer (some ⟨g,o,none⟩)) (hj:o=i * size+j) (hy:a.eval y=.agg vs.toArray) (hi:(P.info? ty).map (·.size)=some vs.length) (h1:(vs.all (·.oneCell'))=true) (hl:j+vs.length<=size) (he:putC ci j vs=ci')
  (k:∀w',M B w0 w' (holeC FA e size i (.slice (some ⟨g,0,none⟩) n cap) zs ci'::l)->wpList P ops Q rest (a.put op.dst undef) w'):wpList P ops Q (op::rest) a w:=
 wpList_plain hgd fun _ hK=>wp_hstore h hi0 hc ho hx hj hy hi h1 hl he fun w' h'=>hK _ _ (k w' h')
end
end
namespace N
theorem sumI:(Tryz.prog.info? 46).map (·.size)=some 7:=by kernel_rfl
theorem entI:(Tryz.prog.info? 64).map (·.size)=some 10:=by kernel_rfl
theorem nodeI:(Tryz.prog.info? 55).map (·.size)=some 5:=by kernel_rfl
theorem wordI:(Tryz.prog.info? 123).map (·.size)=some 6:=by kernel_rfl
end N
end Go.Proofs.YtcblbdpdbggkbaaGreat
set_option linter.unusedVariables false
set_option linter.unusedSectionVars false
set_option linter.unusedSimpArgs false
namespace Go.Proofs.YtcblbdpdbggkbaaGreat
open Go.RowKit Go.Sort
section
variable {α:Type} {A:Rep α} {e:TypeId} {size:Nat} {w w0:World} {B:Nat} {l:List Ch}
theorem made_flat {z:Value} (hz:z.cells.size=size) (n:Nat):(madeCells z.cells (n * size)).toList=((List.range n).map fun _=>z.cells.toList).flatten:=by
 apply List.ext_getElem?;intro j
 by_cases hj:j<n * size
 ·have s0:0<size:=Nat.pos_of_ne_zero fun q=>by rw[q,Nat.mul_zero]at hj;omega
  obtain⟨q,r,rfl,hr,hq⟩:∃q r,j=q * size+r/\r<size/\q<n:=⟨j / size,j % size,by rw[Nat.mul_comm];exact (Nat.div_add_mod j size).symm,Nat.mod_lt _ s0,(Nat.div_lt_iff_lt_mul s0).2 hj⟩
  rw[flat_at (size:=size) (c:=fun _=>z.cells.toList) (fun i _=>by rw[Array.length_toList];exact hz) hq hr];have e1:(q * size+r) % size=r:=by rw[Nat.add_comm,Nat.add_mul_mod_self_right,Nat.mod_eq_of_lt hr]
  simp[madeCells,hj,hz,e1,hr]
 ·rw[List.getElem?_eq_none (by simp[madeCells];omega),List.getElem?_eq_none (by rw[flat_len (size:=size) (c:=fun _=>z.cells.toList) (fun i _=>by rw[Array.length_toList];exact hz)];omega)]
theorem no_fps (n:Nat):((List.range n).map fun _=>([]:List Nat)).flatten=[]:=by
 induction n with
 |zero=>rfl
 |succ n ih=>rw[List.range_succ,List.map_append,List.flatten_append,ih];rfl
theorem wpList_mkA {P:Program} {t:TypeId} {z:Value} {bytes:Nat} (T:SlT P t e z size bytes) (FA:A.Frame) {z0:α} (hz:∀w,A w z.cells.toList z0 []) (h:M B w0 w l)
  {ops:Array Oper} {rest:List Oper} {o:Oper} {a:Act} {Q:Exit->Act->World->Prop} (hgd:o.guard=none) {lo co:Operand} (hop:o.op=Op.makeSlice t lo co) {kl kc:IntKind} {L C:Int} (n:Nat) (hlo:a.eval lo=.int kl L) (hco:a.eval co=.int kc C) (hL:L=(n:Int)) (hC:C=(n:Int))
  (b2:bytes * n<=281474976710656) (b3:n<=maxLen) (k:∀w',M B w0 w' (slcC FA e size (.slice (some ⟨w.heap.size,0,none⟩) n n) (List.replicate n z0)::l)->Below w.heap.size w w'->wpList P ops Q rest (a.put o.dst (.slice (some ⟨w.heap.size,0,none⟩) n n)) w'):wpList P ops Q (o::rest) a w:=by
 obtain⟨i,hi,hiz,hs,hb⟩:=info_parts T.info;refine wpList_make_full w hgd lo co t hop w.heap.size e i z size T.und hi hiz hs kl kc L C n hlo hco hL hC (by rw[hb];exact b2) b3 lr_ fun w' ho hg=>?_
 have bl:Below w.heap.size w w':=⟨hg.os,hg.tape,hg.output,hg.size,fun q hq=>hg.block q hq (by simp)⟩
 rw[made_flat T.zs]at ho;have lr:(List.replicate n z0).length=n:=List.length_replicate;refine k w' (h.add (f:=[w.heap.size]) bl ⟨_,fun _=>z.cells.toList,fun _=>[],rfl,by rw[lr];exact ownsRow_base ho (Nat.zero_le _),fun i _=>by rw[Array.length_toList];exact T.zs,fun i x hi=>?_,?_⟩ (nodup_one _) fun b hb=>by rw[List.mem_singleton.1 hb];exact Nat.le_refl _) bl
 ·have hx:=List.mem_of_getElem? hi
  rw[List.eq_of_mem_replicate hx];exact hz w'
 ·rw[no_fps];rfl
theorem fill_at {xs:List α} {j n:Nat} {z:α} (hn:n=xs.length) (hj:j<n):(xs.take j++List.replicate (n - j) z)[j]? =some z:=by
 rw[List.getElem?_append_right (by rw[List.length_take];omega),List.length_take,List.getElem?_replicate,if_pos (by omega)]
theorem fill_step {xs:List α} {j n:Nat} {y z:α} (hn:n=xs.length) (hy:xs[j]? =some y):(xs.take j++List.replicate (n - j) z).set j y=xs.take (j+1)++List.replicate (n - (j+1)) z:=by
 have hj:j<xs.length:=(List.getElem?_eq_some_iff.1 hy).1;rw[List.set_append_right _ _ (by rw[List.length_take];omega),List.length_take,Nat.min_eq_left (by omega),Nat.sub_self,show n - j=(n - (j+1))+1 by omega,List.replicate_succ,List.set_cons_zero,List.take_add_one,hy];simp
end
theorem M.front {c:Ch} {w w0:World} {B:Nat} {l:List Ch} (h:M B w0 w (c::l)):M B w0 w [c]:=by
 obtain⟨f,hf,nd,lo⟩:=h.first;exact⟨h.below,h.low,f++[],⟨f,[],rfl,hf,rfl⟩,by rw[List.append_nil];exact nd,fun b hb=>lo b (by rw[List.append_nil]at hb;exact hb)⟩
namespace N
def zeroEn:En:=⟨0,0,0,noSm⟩
def zeroWd:Wd:=⟨0,0,0,0,0,[]⟩
theorem slc_none {α:Type} {A:Rep α} {e:TypeId} {size:Nat} (w:World):slcR e size A w [.slice none 0 0] [] []:=(Els.nil w 0 (fun _=>[]) fun _=>[]).rep
theorem sum_none (w:World):sumR w [.slice none 0 0,.slice none 0 0,.slice none 0 0,.int .i64 0,.int .i64 0,.slice none 0 0,.int .i64 0] noSm []:=
 ⟨⟨none,0,0,none,0,0,none,0,0,none,0,0⟩,[],[],[],[],rfl,rfl,slc_none w,.inl (slc_none w),.inl (slc_none w),.inl (slc_none w)⟩
theorem zero_ent (w:World):entryR w (Value.agg #[.int .i64 0,.int .i64 0,.int .i64 0,.slice none 0 0,.slice none 0 0,.slice none 0 0,.int .i64 0,.int .i64 0,.slice none 0 0,.int .i64 0]).cells.toList zeroEn []:=entryR_iff.2 ⟨_,rfl,sum_none w⟩
theorem zero_nodeA (w:World):nodeR TY w (Value.agg #[.int .i64 0,.slice none 0 0,.int .i64 0,.int .i64 0,.int .i64 0]).cells.toList noNd []:=nodeR_iff.2 ⟨_,rfl,slc_none w⟩
theorem zero_word (w:World):wordR TY w (Value.agg #[.int .i64 0,.int .i64 0,.int .i64 0,.int .i64 0,.int .i64 0,.slice none 0 0]).cells.toList zeroWd []:=wordR_iff.2 ⟨_,rfl,slc_none w⟩
structure LenK (es:List En):Prop where
 len:es.length<=1048576
 sums:∀e ∈ es,LenS e.s
structure LenA (n:Nt):Prop where
 nodes:n.nodes.length<=1048576
 links:n.links.length<=1048576
 words:n.words.length<=1048576
 past:n.past.length<=1048576
 node:∀x ∈ n.nodes,LenK x.known
 word:∀x ∈ n.words,LenK x.known
 rows:∀rs ∈ n.past,Lens rs
theorem szS_mem {α:Type} {f:α->Nat} {l:List α} {a:α} (h:a ∈ l):f a<=szS f l:=by
 obtain⟨i,hi⟩:=List.getElem?_of_mem h;have:=szS_take f l (i+1);rw[szS_at hi]at this;omega
theorem LenK.arg {es:List En} (h:szK es<=1048576):LenK es:=by
 unfold szK at h;exact⟨by omega,fun e he=>LenS.arg (by have:=szS_mem (f:=fun e:En=>lenS e.s) he;omega)⟩
theorem LenA.arg {n:Nt} (h:szNt n<=1048576):LenA n:=by
 unfold szNt szNs szWs szP at h;exact⟨by omega,by omega,by omega,by omega,fun x hx=>LenK.arg (by have:=szS_mem (f:=fun x:Nd=>szK x.known) hx;omega),fun x hx=>LenK.arg (by have:=szS_mem (f:=fun x:Wd=>szK x.known) hx;omega),fun rs hr=>Lens.arg (by have:=szS_mem (f:=fun rs:List (List Int)=>rs.length+ahead rs rs.length) hr;omega)⟩
theorem toSum_M (w:World) (V:SV) (s:Sm) (h:ArgS w V s) (hl:LenS s):Calls Tryz.prog 194 #[.agg #[.slice V.xr V.nr V.cr,.slice V.xf V.nf V.cf,.slice V.xt V.nt V.ct,.int .i64 s.lo,.int .i64 s.al,.slice V.xk V.nk V.ck,.int .i64 s.ka]] w fun r w'=>∃U:SV,r=.returned (.agg #[.slice U.xr U.nr U.cr,.slice U.xf U.nf U.cf,.slice U.xt U.nt U.ct,.int .i64 s.lo,.int .i64 s.al,.slice U.xk U.nk U.ck,.int .i64 s.ka])/\M w.heap.size w w' [sumR_frame.ch [.slice U.xr U.nr U.cr,.slice U.xf U.nf U.cf,.slice U.xt U.nt U.ct,.int .i64 s.lo,.int .i64 s.al,.slice U.xk U.nk U.ck,.int .i64 s.ka] s]:=
 (toSum_at w V s h hl).mono fun _ _ ⟨U,a,b,c⟩=>⟨U,a,(M.start w).sum c b⟩
theorem toEntry_at (w:World) (V:SV) (e:En) (h:ArgS w V e.s) (hl:LenS e.s):
  Calls Tryz.prog 148 #[.agg #[.int .i64 e.node,.int .i64 e.born,.int .i64 e.num,.slice V.xr V.nr V.cr,.slice V.xf V.nf V.cf,.slice V.xt V.nt V.ct,.int .i64 (e.s).lo,.int .i64 (e.s).al,.slice V.xk V.nk V.ck,.int .i64 (e.s).ka]] w fun r w'=>∃U:SV,r=.returned (entV U e)/\M w.heap.size w w' [entC U e]:=by
 have X:=(((M.start w).alloc #[.int .i64 e.node,.int .i64 e.born,.int .i64 e.num,.slice V.xr V.nr V.cr,.slice V.xf V.nf V.cf,.slice V.xt V.nt V.ct,.int .i64 (e.s).lo,.int .i64 (e.s).al,.slice V.xk V.nk V.ck,.int .i64 (e.s).ka] 183).alloc #[.int .i64 0,.int .i64 0,.int .i64 0,.slice none 0 0,.slice none 0 0,.slice none 0 0,.int .i64 0,.int .i64 0,.slice none 0 0,.int .i64 0] 64).alloc #[.int .i64 e.node,.int .i64 e.born,.int .i64 e.num,.slice none 0 0,.slice none 0 0,.slice none 0 0,.int .i64 0,.int .i64 0,.slice none 0 0,.int .i64 0] 64
 simp only[World.size_alloc]at X;obtain⟨p2,hp2⟩:∃p,p=w.heap.size+1:=⟨_,rfl⟩
 obtain⟨p3,hp3⟩:∃p,p=w.heap.size+1+1:=⟨_,rfl⟩
 have L23:p2<p3:=by omega
 have L13:w.heap.size<p3:=by omega
 have L12:w.heap.size<p2:=by omega
 have N23:¬p2=p3:=by omega
 have N32:¬p3=p2:=by omega
 have N13:¬w.heap.size=p3:=by omega
 have N31:¬p3=w.heap.size:=by omega
 rw[<-hp3, <-hp2]at X
 obtain⟨W0,hW⟩:∃W,W=((w.alloc (.cells #[.int .i64 e.node,.int .i64 e.born,.int .i64 e.num,.slice V.xr V.nr V.cr,.slice V.xf V.nf V.cf,.slice V.xt V.nt V.ct,.int .i64 (e.s).lo,.int .i64 (e.s).al,.slice V.xk V.nk V.ck,.int .i64 (e.s).ka] 183)).alloc (.cells #[.int .i64 0,.int .i64 0,.int .i64 0,.slice none 0 0,.slice none 0 0,.slice none 0 0,.int .i64 0,.int .i64 0,.slice none 0 0,.int .i64 0] 64)).alloc (.cells #[.int .i64 e.node,.int .i64 e.born,.int .i64 e.num,.slice none 0 0,.slice none 0 0,.slice none 0 0,.int .i64 0,.int .i64 0,.slice none 0 0,.int .i64 0] 64):=⟨_,rfl⟩
 rw[<-hW]at X;have H:=hd_ X;obtain⟨a0,a1,a2,a3,a4,a5,a6,a7,a8,a9⟩:=X.p2.cells10;obtain⟨d0,d1,d2,d3,d4,d5,d6,d7,d8,d9⟩:=X.cells10;have ff:=X.free;clear X;rw[hp3]at d0 d1 d2 d3 d4 d5 d6 d7 d8 d9 ff;rw[hW]at a0 a1 a2 a3 a4 a5 a6 a7 a8 a9 d0 d1 d2 d3 d4 d5 d6 d7 d8 d9 ff;go_enter Tryz.func148,Tryz.ntmps148
 go_wp2_with fail
 rw[<-hp3, <-hp2, <-hW];clear hW a0 a1 a2 a3 a4 a5 a6 a7 a8 a9 d0 d1 d2 d3 d4 d5 d6 d7 d8 d9 ff hp3 hp2;have H1:=H;clear H;obtain⟨W1,hW1⟩:∃W,W=W0:=⟨_,rfl⟩
 rw[<-hW1]at H1 ⊢;clear hW1;refine (toSum_M W1 V e.s (h.below H1.out.below lr_) hl).mono ?_;rintro r w1 ⟨U,rfl,hU⟩;have H2:=hd_ (H1.out.plus hU).p1;clear hU H1
 go_wp2_with (first|(refine wpList_mstore H2.out (vs:=[.slice U.xr U.nr U.cr,.slice U.xf U.nf U.cf,.slice U.xt U.nt U.ct,.int .i64 e.s.lo,.int .i64 e.s.al,.slice U.xk U.nk U.ck,.int .i64 e.s.ka]) (ys:=#[.int .i64 e.node,.int .i64 e.born,.int .i64 e.num,.slice U.xr U.nr U.cr,.slice U.xf U.nf U.cf,.slice U.xt U.nt U.ct,.int .i64 e.s.lo,.int .i64 e.s.al,.slice U.xk U.nk U.ck,.int .i64 e.s.ka]) rfl rfl rfl rfl sumI rfl (by simp) (by simp[putA]) ?_;intro w2 h3;have H4:=hd_ h3;obtain⟨x0,x1,x2,x3,x4,x5,x6,x7,x8,x9⟩:=h3.cells10;clear h3 H2)|(refine wpList_mstore H4.out.p2 (vs:=[.int .i64 e.node,.int .i64 e.born,.int .i64 e.num,.slice U.xr U.nr U.cr,.slice U.xf U.nf U.cf,.slice U.xt U.nt U.ct,.int .i64 e.s.lo,.int .i64 e.s.al,.slice U.xk U.nk U.ck,.int .i64 e.s.ka]) (ys:=#[.int .i64 e.node,.int .i64 e.born,.int .i64 e.num,.slice U.xr U.nr U.cr,.slice U.xf U.nf U.cf,.slice U.xt U.nt U.ct,.int .i64 e.s.lo,.int .i64 e.s.al,.slice U.xk U.nk U.ck,.int .i64 e.s.ka]) rfl rfl rfl rfl entI rfl (by simp) (by simp[putA]) ?_;intro w3 h6;have H6:=hd_ h6;clear h6))
 obtain⟨e0,e1,e2,e3,e4,e5,e6,e7,e8,e9⟩:=H6.out.cells10
 exact bodyPost_ret (v:=.agg #[.int .i64 e.node,.int .i64 e.born,.int .i64 e.num,.slice U.xr U.nr U.cr,.slice U.xf U.nf U.cf,.slice U.xt U.nt U.ct,.int .i64 e.s.lo,.int .i64 e.s.al,.slice U.xk U.nk U.ck,.int .i64 e.s.ka]) (by simp[results,Tryz.results148,go_sem,e0,e1,e2,e3,e4,e5,e6,e7,e8,e9]) rfl ⟨U,rfl,(H6.out.p2.entry e.node e.born e.num).front⟩
theorem toKnown_at (w:World) (v:Value) (xs:List (En)) (h:knownA w [v] xs) (hn:xs.length<=1048576) (hl:∀e ∈ xs,LenS e.s):
  Calls Tryz.prog 62 #[v] w fun r w'=>∃y c,r=.returned (.slice y xs.length c)/\M w.heap.size w w' [knownC (.slice y xs.length c) xs]:=by
 obtain⟨x,c,ev,_⟩:=slcA_form h;cases ev;obtain⟨n,hn'⟩:∃n,n=xs.length:=⟨_,rfl⟩
 rw[<-hn']at h ⊢ hn;have HN:=hd_ hn';have H1:=hd_ h;have HL:=hd_ hl;clear hl;have H0:=hd_ (M.start w);clear h hn';go_enter Tryz.func62,Tryz.ntmps62
 go_wp2_with (at_make;refine wpList_mkA entS entryR_frame (z0:=zeroEn) zero_ent H0.out rfl rfl n rfl rfl rfl rfl (by omega) (by unfold maxLen;omega) ?_;intro w1 h1 hb1;have H:=hd_ h1;clear H0 h1 hb1)
 go_loopw [4] (fun i wr=>∃j:Nat,j<=n/\i=.int .i64 (j:Int)/\M w.heap.size w wr [knownC (.slice (some ⟨w.heap.size,0,none⟩) n n) (xs.take j++List.replicate (n - j) (zeroEn))]) (fun i _=>n - (intOf i).toNat)
 case atStart=>exact⟨0,Nat.zero_le _,rfl,H.out⟩
 case round=>
  clear H;obtain⟨j,hj,rfl,hm⟩:=hrel;have H:=hd_ hm;clear hm
  by_cases hlt:j<n
  ·obtain⟨y,hy⟩:∃y,xs[j]? =some y:=⟨_,List.getElem?_eq_getElem (by rw[<-HN.out];exact hlt)⟩
   obtain⟨b,o,ci,rfl,_,lc,hr,hA⟩:=slcA_at (knownA_stay.keep H1.out H.out.below lr_) hy;obtain⟨cs,ec,V,ec2,hs⟩:=entryA_iff.1 hA;subst ec2;subst ec;have a0:=hr 0 _ rfl;have a1:=hr 1 _ rfl;have a2:=hr 2 _ rfl;have a3:=hr 3 _ rfl;have a4:=hr 4 _ rfl;have a5:=hr 5 _ rfl;have a6:=hr 6 _ rfl;have a7:=hr 7 _ rfl;have a8:=hr 8 _ rfl;have a9:=hr 9 _ rfl;simp only[Nat.add_zero]at a0
   have KS:=hd_ (toEntry_at wr V y hs (HL.out y (List.mem_of_getElem? hy)));have HF:=hd_ (fill_step (z:=zeroEn) HN.out hy);have FA0:=hd_ (fill_at (z:=zeroEn) HN.out hlt);have k0:(0:Int)<=(j:Int):=by omega
   have kn:(j:Int)<(n:Int):=by omega
   have HJ:Hid (j<(xs.take j++List.replicate (n - j) (zeroEn)).length):=hd_ (by rw[List.length_append,List.length_take,List.length_replicate];have:=HN.out;omega);clear hy lc hr hA
   go_wp2_with fail
   refine KS.out.mono ?_;rintro r w2 ⟨U,rfl,hU⟩;have h1:=H.out.plus hU;obtain⟨g,cap,ci,e,_,h2⟩:=M.open entryR_frame h1.p1 FA0.out;simp only[Value.slice.injEq,Option.some.injEq,Addr.mk.injEq,and_true]at e;obtain⟨rfl,en,rfl⟩:=e;clear en
   obtain⟨Z,rfl⟩:∃Z:SV,ci=[.int .i64 0,.int .i64 0,.int .i64 0,.slice Z.xr Z.nr Z.cr,.slice Z.xf Z.nf Z.cf,.slice Z.xt Z.nt Z.ct,.int .i64 0,.int .i64 0,.slice Z.xk Z.nk Z.ck,.int .i64 0]:=by
    obtain⟨f,hf,_⟩:=h2.first;obtain⟨cs,rfl,Z,_,_,_,_,rfl,_⟩:=entryR_iff.1 hf;exact⟨Z,rfl⟩
   have H2:=hd_ h2.drop;clear h1 h2 hU KS H
   go_wp2_with (go_loud (refine wpList_hstore H2.out HJ.out rfl (j:=0) (vs:=[.int .i64 y.node,.int .i64 y.born,.int .i64 y.num,.slice U.xr U.nr U.cr,.slice U.xf U.nf U.cf,.slice U.xt U.nt U.ct,.int .i64 y.s.lo,.int .i64 y.s.al,.slice U.xk U.nk U.ck,.int .i64 y.s.ka]) (ci':=[.int .i64 y.node,.int .i64 y.born,.int .i64 y.num,.slice U.xr U.nr U.cr,.slice U.xf U.nf U.cf,.slice U.xt U.nt U.ct,.int .i64 y.s.lo,.int .i64 y.s.al,.slice U.xk U.nk U.ck,.int .i64 y.s.ka]) rfl rfl rfl rfl rfl entI rfl (by simp) (by simp[putC]) ?_);intro w4 h3;have h4:=M.close (FA:=entryR_frame) (x:=y) h3.p1 HJ.out;rw[HF.out]at h4;have F:=hd_ h4;clear h3 h4 H2)
   go_roundw
   case rel=>exact⟨j+1,by omega,by go_num,F.out⟩
   case measure=>simp[intOf];omega
  ·obtain rfl:j=n:=by omega
   have e1:xs.take j=xs:=List.take_of_length_le (by rw[HN.out];exact Nat.le_refl _);have hF:=H.out;rw[e1,Nat.sub_self,List.replicate_zero,List.append_nil]at hF;have F:=hd_ hF;clear H hF e1;go_wp2;go_ret;exact⟨_,_,rfl,F.out⟩
theorem toNode_at (w:World) {y:Option Addr} {m0 cy:Nat} (x:Nd) (h:knownA w [.slice y m0 cy] x.known) (hl:LenK x.known):
  Calls Tryz.prog 185 #[.agg #[.int .i64 x.born,.slice y m0 cy,.int .i64 x.beacon,.int .i64 x.level,.int .i64 x.up]] w fun r w'=>∃y2 c2,r=.returned (.agg #[.int .i64 x.born,.slice y2 x.known.length c2,.int .i64 x.beacon,.int .i64 x.level,.int .i64 x.up])/\M w.heap.size w w' [nodeC [.int .i64 x.born,.slice y2 x.known.length c2,.int .i64 x.beacon,.int .i64 x.level,.int .i64 x.up] x]:=by
 have X:=(((M.start w).alloc #[.int .i64 x.born,.slice y m0 cy,.int .i64 x.beacon,.int .i64 x.level,.int .i64 x.up] 220).alloc #[.int .i64 0,.slice none 0 0,.int .i64 0,.int .i64 0,.int .i64 0] 55).alloc #[.int .i64 x.born,.slice none 0 0,.int .i64 0,.int .i64 0,.int .i64 0] 55;simp only[World.size_alloc]at X;obtain⟨p2,hp2⟩:∃p,p=w.heap.size+1:=⟨_,rfl⟩
 obtain⟨p3,hp3⟩:∃p,p=w.heap.size+1+1:=⟨_,rfl⟩
 have L23:p2<p3:=by omega
 have L13:w.heap.size<p3:=by omega
 have L12:w.heap.size<p2:=by omega
 have N23:¬p2=p3:=by omega
 have N32:¬p3=p2:=by omega
 have N13:¬w.heap.size=p3:=by omega
 have N31:¬p3=w.heap.size:=by omega
 rw[<-hp3, <-hp2]at X;obtain⟨W0,hW⟩:∃W,W=((w.alloc (.cells #[.int .i64 x.born,.slice y m0 cy,.int .i64 x.beacon,.int .i64 x.level,.int .i64 x.up] 220)).alloc (.cells #[.int .i64 0,.slice none 0 0,.int .i64 0,.int .i64 0,.int .i64 0] 55)).alloc (.cells #[.int .i64 x.born,.slice none 0 0,.int .i64 0,.int .i64 0,.int .i64 0] 55):=⟨_,rfl⟩
 rw[<-hW]at X;have H:=hd_ X;obtain⟨a0,a1,a2,a3,a4⟩:=X.p2.cells5;obtain⟨d0,d1,d2,d3,d4⟩:=X.cells5;have ff:=X.free;clear X;rw[hp3]at d0 d1 d2 d3 d4 ff;rw[hW]at a0 a1 a2 a3 a4 d0 d1 d2 d3 d4 ff;go_enter Tryz.func185,Tryz.ntmps185
 go_wp2_with fail
 rw[<-hp3, <-hp2, <-hW];clear hW a0 a1 a2 a3 a4 d0 d1 d2 d3 d4 ff hp3 hp2;have H1:=H;clear H;obtain⟨W1,hW1⟩:∃W,W=W0:=⟨_,rfl⟩
 rw[<-hW1]at H1 ⊢;clear hW1;refine (toKnown_at W1 _ x.known (knownA_stay.keep h H1.out.below lr_) hl.len hl.sums).mono ?_;rintro r w1 ⟨y2,c2,rfl,hU⟩;have H2:=hd_ (H1.out.plus hU).p1;clear hU H1;obtain⟨d0,d1,d2,d3,d4⟩:=H2.out.cells5;have ff:=H2.out.free;obtain⟨a0,a1,a2,a3,a4⟩:=H2.out.p3.cells5;have g0:=H2.out.set (i:=1) (.slice y2 x.known.length c2)
 simp only[List.setIfInBounds_toArray,List.set_cons_zero,List.set_cons_succ]at g0;have g1:=g0.set (i:=2) (.int .i64 x.beacon);simp only[List.setIfInBounds_toArray,List.set_cons_zero,List.set_cons_succ]at g1;have g2:=g1.set (i:=3) (.int .i64 x.level);simp only[List.setIfInBounds_toArray,List.set_cons_zero,List.set_cons_succ]at g2;have g3:=g2.set (i:=4) (.int .i64 x.up)
 simp only[List.setIfInBounds_toArray,List.set_cons_zero,List.set_cons_succ]at g3;have H4:=hd_ g3;clear g0 g1 g2 g3 H2;obtain⟨x0,x1,x2,x3,x4⟩:=H4.out.cells5
 go_wp2_with (refine wpList_mstore H4.out.p2 (vs:=[.int .i64 x.born,.slice y2 x.known.length c2,.int .i64 x.beacon,.int .i64 x.level,.int .i64 x.up]) (ys:=#[.int .i64 x.born,.slice y2 x.known.length c2,.int .i64 x.beacon,.int .i64 x.level,.int .i64 x.up]) rfl rfl rfl rfl nodeI rfl (by simp) (by simp[putA]) ?_;intro w3 h6;have H6:=hd_ h6;clear h6)
 obtain⟨e0,e1,e2,e3,e4⟩:=H6.out.cells5;exact bodyPost_ret (v:=.agg #[.int .i64 x.born,.slice y2 x.known.length c2,.int .i64 x.beacon,.int .i64 x.level,.int .i64 x.up]) (by simp[results,Tryz.results185,go_sem,e0,e1,e2,e3,e4]) rfl ⟨y2,c2,rfl,(H6.out.p2.node x.born x.beacon x.level x.up).front⟩
theorem toNodes_at (w:World) (v:Value) (xs:List (Nd)) (h:slcA 5 nodeA w [v] xs) (hn:xs.length<=1048576) (hl:∀x ∈ xs,LenK x.known):
  Calls Tryz.prog 116 #[v] w fun r w'=>∃y c,r=.returned (.slice y xs.length c)/\M w.heap.size w w' [nodesC (.slice y xs.length c) xs]:=by
 obtain⟨x,c,ev,_⟩:=slcA_form h;cases ev;obtain⟨n,hn'⟩:∃n,n=xs.length:=⟨_,rfl⟩
 rw[<-hn']at h ⊢ hn;have HN:=hd_ hn';have H1:=hd_ h;have HL:=hd_ hl;clear hl;have H0:=hd_ (M.start w);clear h hn';go_enter Tryz.func116,Tryz.ntmps116
 go_wp2_with (at_make;refine wpList_mkA nodeS (nodeR_frame (T:=TY)) (z0:=noNd) zero_nodeA H0.out rfl rfl n rfl rfl rfl rfl (by omega) (by unfold maxLen;omega) ?_;intro w1 h1 hb1;have H:=hd_ h1;clear H0 h1 hb1)
 go_loopw [4] (fun i wr=>∃j:Nat,j<=n/\i=.int .i64 (j:Int)/\M w.heap.size w wr [nodesC (.slice (some ⟨w.heap.size,0,none⟩) n n) (xs.take j++List.replicate (n - j) (noNd))]) (fun i _=>n - (intOf i).toNat)
 case atStart=>exact⟨0,Nat.zero_le _,rfl,H.out⟩
 case round=>
  clear H;obtain⟨j,hj,rfl,hm⟩:=hrel;have H:=hd_ hm;clear hm
  by_cases hlt:j<n
  ·obtain⟨y,hy⟩:∃y,xs[j]? =some y:=⟨_,List.getElem?_eq_getElem (by rw[<-HN.out];exact hlt)⟩
   obtain⟨b,o,ci,rfl,_,lc,hr,hA⟩:=slcA_at ((slcA_stay nodeA_stay 5).keep H1.out H.out.below lr_) hy;obtain⟨v,ec,hs⟩:=nodeA_iff.1 hA;subst ec;obtain⟨z,cz,ez,_⟩:=slcA_form hs;cases ez;have a0:=hr 0 _ rfl;have a1:=hr 1 _ rfl;have a2:=hr 2 _ rfl;have a3:=hr 3 _ rfl;have a4:=hr 4 _ rfl;simp only[Nat.add_zero]at a0;have KS:=hd_ (toNode_at wr y hs (HL.out y (List.mem_of_getElem? hy)))
   have HF:=hd_ (fill_step (z:=noNd) HN.out hy);have FA0:=hd_ (fill_at (z:=noNd) HN.out hlt);have k0:(0:Int)<=(j:Int):=by omega
   have kn:(j:Int)<(n:Int):=by omega
   have HJ:Hid (j<(xs.take j++List.replicate (n - j) (noNd)).length):=hd_ (by rw[List.length_append,List.length_take,List.length_replicate];have:=HN.out;omega);clear hy lc hr hA
   go_wp2_with fail
   refine KS.out.mono ?_;rintro r w2 ⟨y2,c2,rfl,hU⟩;have h1:=H.out.plus hU;obtain⟨g,cap,ci,e,_,h2⟩:=M.open (nodeR_frame (T:=TY)) h1.p1 FA0.out;simp only[Value.slice.injEq,Option.some.injEq,Addr.mk.injEq,and_true]at e;obtain⟨rfl,en,rfl⟩:=e;clear en;obtain⟨u,rfl⟩:∃u:Value,ci=[.int .i64 0,u,.int .i64 0,.int .i64 0,.int .i64 0]:=by
    obtain⟨f,hf,_⟩:=h2.first;obtain⟨u,rfl,_⟩:=nodeR_iff.1 hf;exact⟨u,rfl⟩
   have H2:=hd_ h2.drop;clear h1 h2 hU KS H
   go_wp2_with (go_loud (refine wpList_hstore H2.out HJ.out rfl (j:=0) (vs:=[.int .i64 y.born,.slice y2 y.known.length c2,.int .i64 y.beacon,.int .i64 y.level,.int .i64 y.up]) (ci':=[.int .i64 y.born,.slice y2 y.known.length c2,.int .i64 y.beacon,.int .i64 y.level,.int .i64 y.up]) rfl rfl rfl rfl rfl nodeI rfl (by simp) (by simp[putC]) ?_);intro w4 h3;have h4:=M.close (FA:=(nodeR_frame (T:=TY))) (x:=y) h3.p1 HJ.out;rw[HF.out]at h4;have F:=hd_ h4;clear h3 h4 H2)
   go_roundw
   case rel=>exact⟨j+1,by omega,by go_num,F.out⟩
   case measure=>simp[intOf];omega
  ·obtain rfl:j=n:=by omega
   have e1:xs.take j=xs:=List.take_of_length_le (by rw[HN.out];exact Nat.le_refl _);have hF:=H.out;rw[e1,Nat.sub_self,List.replicate_zero,List.append_nil]at hF;have F:=hd_ hF;clear H hF e1;go_wp2;go_ret;exact⟨_,_,rfl,F.out⟩
theorem toWord_at (w:World) {y:Option Addr} {m0 cy:Nat} (x:Wd) (h:knownA w [.slice y m0 cy] x.known) (hl:LenK x.known):
  Calls Tryz.prog 186 #[.agg #[.int .i64 x.kind,.int .i64 x.src,.int .i64 x.dst,.int .i64 x.beacon,.int .i64 x.level,.slice y m0 cy]] w fun r w'=>∃y2 c2,r=.returned (.agg #[.int .i64 x.kind,.int .i64 x.src,.int .i64 x.dst,.int .i64 x.beacon,.int .i64 x.level,.slice y2 x.known.length c2])/\M w.heap.size w w' [wordC [.int .i64 x.kind,.int .i64 x.src,.int .i64 x.dst,.int .i64 x.beacon,.int .i64 x.level,.slice y2 x.known.length c2] x]:=by
 have X:=(((M.start w).alloc #[.int .i64 x.kind,.int .i64 x.src,.int .i64 x.dst,.int .i64 x.beacon,.int .i64 x.level,.slice y m0 cy] 223).alloc #[.int .i64 0,.int .i64 0,.int .i64 0,.int .i64 0,.int .i64 0,.slice none 0 0] 123).alloc #[.int .i64 x.kind,.int .i64 x.src,.int .i64 x.dst,.int .i64 x.beacon,.int .i64 x.level,.slice none 0 0] 123;simp only[World.size_alloc]at X
 obtain⟨p2,hp2⟩:∃p,p=w.heap.size+1:=⟨_,rfl⟩
 obtain⟨p3,hp3⟩:∃p,p=w.heap.size+1+1:=⟨_,rfl⟩
 have L23:p2<p3:=by omega
 have L13:w.heap.size<p3:=by omega
 have L12:w.heap.size<p2:=by omega
 have N23:¬p2=p3:=by omega
 have N32:¬p3=p2:=by omega
 have N13:¬w.heap.size=p3:=by omega
 have N31:¬p3=w.heap.size:=by omega
 rw[<-hp3, <-hp2]at X;obtain⟨W0,hW⟩:∃W,W=((w.alloc (.cells #[.int .i64 x.kind,.int .i64 x.src,.int .i64 x.dst,.int .i64 x.beacon,.int .i64 x.level,.slice y m0 cy] 223)).alloc (.cells #[.int .i64 0,.int .i64 0,.int .i64 0,.int .i64 0,.int .i64 0,.slice none 0 0] 123)).alloc (.cells #[.int .i64 x.kind,.int .i64 x.src,.int .i64 x.dst,.int .i64 x.beacon,.int .i64 x.level,.slice none 0 0] 123):=⟨_,rfl⟩
 rw[<-hW]at X;have H:=hd_ X;obtain⟨a0,a1,a2,a3,a4,a5⟩:=X.p2.cells6;obtain⟨d0,d1,d2,d3,d4,d5⟩:=X.cells6;have ff:=X.free;clear X;rw[hp3]at d0 d1 d2 d3 d4 d5 ff;rw[hW]at a0 a1 a2 a3 a4 a5 d0 d1 d2 d3 d4 d5 ff;go_enter Tryz.func186,Tryz.ntmps186
 go_wp2_with fail
 rw[<-hp3, <-hp2, <-hW];clear hW a0 a1 a2 a3 a4 a5 d0 d1 d2 d3 d4 d5 ff hp3 hp2;have H1:=H;clear H;obtain⟨W1,hW1⟩:∃W,W=W0:=⟨_,rfl⟩
 rw[<-hW1]at H1 ⊢;clear hW1;refine (toKnown_at W1 _ x.known (knownA_stay.keep h H1.out.below lr_) hl.len hl.sums).mono ?_;rintro r w1 ⟨y2,c2,rfl,hU⟩;have H2:=hd_ (H1.out.plus hU).p1;clear hU H1;obtain⟨d0,d1,d2,d3,d4,d5⟩:=H2.out.cells6;have ff:=H2.out.free;obtain⟨a0,a1,a2,a3,a4,a5⟩:=H2.out.p3.cells6;have g0:=H2.out.set (i:=5) (.slice y2 x.known.length c2)
 simp only[List.setIfInBounds_toArray,List.set_cons_zero,List.set_cons_succ]at g0;have H4:=hd_ g0;clear g0 H2;obtain⟨x0,x1,x2,x3,x4,x5⟩:=H4.out.cells6
 go_wp2_with (refine wpList_mstore H4.out.p2 (vs:=[.int .i64 x.kind,.int .i64 x.src,.int .i64 x.dst,.int .i64 x.beacon,.int .i64 x.level,.slice y2 x.known.length c2]) (ys:=#[.int .i64 x.kind,.int .i64 x.src,.int .i64 x.dst,.int .i64 x.beacon,.int .i64 x.level,.slice y2 x.known.length c2]) rfl rfl rfl rfl wordI rfl (by simp) (by simp[putA]) ?_;intro w3 h6;have H6:=hd_ h6;clear h6)
 obtain⟨e0,e1,e2,e3,e4,e5⟩:=H6.out.cells6;exact bodyPost_ret (v:=.agg #[.int .i64 x.kind,.int .i64 x.src,.int .i64 x.dst,.int .i64 x.beacon,.int .i64 x.level,.slice y2 x.known.length c2]) (by simp[results,Tryz.results186,go_sem,e0,e1,e2,e3,e4,e5]) rfl ⟨y2,c2,rfl,(H6.out.p2.word x.kind x.src x.dst x.beacon x.level).front⟩
theorem toWords_at (w:World) (v:Value) (xs:List (Wd)) (h:slcA 6 wordA w [v] xs) (hn:xs.length<=1048576) (hl:∀x ∈ xs,LenK x.known):
  Calls Tryz.prog 118 #[v] w fun r w'=>∃y c,r=.returned (.slice y xs.length c)/\M w.heap.size w w' [wordsC (.slice y xs.length c) xs]:=by
 obtain⟨x,c,ev,_⟩:=slcA_form h;cases ev;obtain⟨n,hn'⟩:∃n,n=xs.length:=⟨_,rfl⟩
 rw[<-hn']at h ⊢ hn;have HN:=hd_ hn';have H1:=hd_ h;have HL:=hd_ hl;clear hl;have H0:=hd_ (M.start w);clear h hn';go_enter Tryz.func118,Tryz.ntmps118
 go_wp2_with (at_make;refine wpList_mkA wordS (wordR_frame (T:=TY)) (z0:=zeroWd) zero_word H0.out rfl rfl n rfl rfl rfl rfl (by omega) (by unfold maxLen;omega) ?_;intro w1 h1 hb1;have H:=hd_ h1;clear H0 h1 hb1)
 go_loopw [4] (fun i wr=>∃j:Nat,j<=n/\i=.int .i64 (j:Int)/\M w.heap.size w wr [wordsC (.slice (some ⟨w.heap.size,0,none⟩) n n) (xs.take j++List.replicate (n - j) (zeroWd))]) (fun i _=>n - (intOf i).toNat)
 case atStart=>exact⟨0,Nat.zero_le _,rfl,H.out⟩
 case round=>
  clear H;obtain⟨j,hj,rfl,hm⟩:=hrel;have H:=hd_ hm;clear hm
  by_cases hlt:j<n
  ·obtain⟨y,hy⟩:∃y,xs[j]? =some y:=⟨_,List.getElem?_eq_getElem (by rw[<-HN.out];exact hlt)⟩
   obtain⟨b,o,ci,rfl,_,lc,hr,hA⟩:=slcA_at ((slcA_stay wordA_stay 6).keep H1.out H.out.below lr_) hy;obtain⟨v,ec,hs⟩:=wordA_iff.1 hA;subst ec;obtain⟨z,cz,ez,_⟩:=slcA_form hs;cases ez;have a0:=hr 0 _ rfl;have a1:=hr 1 _ rfl;have a2:=hr 2 _ rfl;have a3:=hr 3 _ rfl;have a4:=hr 4 _ rfl;have a5:=hr 5 _ rfl;simp only[Nat.add_zero]at a0
   have KS:=hd_ (toWord_at wr y hs (HL.out y (List.mem_of_getElem? hy)));have HF:=hd_ (fill_step (z:=zeroWd) HN.out hy);have FA0:=hd_ (fill_at (z:=zeroWd) HN.out hlt);have k0:(0:Int)<=(j:Int):=by omega
   have kn:(j:Int)<(n:Int):=by omega
   have HJ:Hid (j<(xs.take j++List.replicate (n - j) (zeroWd)).length):=hd_ (by rw[List.length_append,List.length_take,List.length_replicate];have:=HN.out;omega);clear hy lc hr hA
   go_wp2_with fail
   refine KS.out.mono ?_;rintro r w2 ⟨y2,c2,rfl,hU⟩;have h1:=H.out.plus hU;obtain⟨g,cap,ci,e,_,h2⟩:=M.open (wordR_frame (T:=TY)) h1.p1 FA0.out;simp only[Value.slice.injEq,Option.some.injEq,Addr.mk.injEq,and_true]at e;obtain⟨rfl,en,rfl⟩:=e;clear en;obtain⟨u,rfl⟩:∃u:Value,ci=[.int .i64 0,.int .i64 0,.int .i64 0,.int .i64 0,.int .i64 0,u]:=by
    obtain⟨f,hf,_⟩:=h2.first;obtain⟨u,rfl,_⟩:=wordR_iff.1 hf;exact⟨u,rfl⟩
   have H2:=hd_ h2.drop;clear h1 h2 hU KS H
   go_wp2_with (go_loud (refine wpList_hstore H2.out HJ.out rfl (j:=0) (vs:=[.int .i64 y.kind,.int .i64 y.src,.int .i64 y.dst,.int .i64 y.beacon,.int .i64 y.level,.slice y2 y.known.length c2]) (ci':=[.int .i64 y.kind,.int .i64 y.src,.int .i64 y.dst,.int .i64 y.beacon,.int .i64 y.level,.slice y2 y.known.length c2]) rfl rfl rfl rfl rfl wordI rfl (by simp) (by simp[putC]) ?_);intro w4 h3;have h4:=M.close (FA:=(wordR_frame (T:=TY))) (x:=y) h3.p1 HJ.out;rw[HF.out]at h4;have F:=hd_ h4;clear h3 h4 H2)
   go_roundw
   case rel=>exact⟨j+1,by omega,by go_num,F.out⟩
   case measure=>simp[intOf];omega
  ·obtain rfl:j=n:=by omega
   have e1:xs.take j=xs:=List.take_of_length_le (by rw[HN.out];exact Nat.le_refl _);have hF:=H.out;rw[e1,Nat.sub_self,List.replicate_zero,List.append_nil]at hF;have F:=hd_ hF;clear H hF e1;go_wp2;go_ret;exact⟨_,_,rfl,F.out⟩
theorem toLinks_at (w:World) (v:Value) (xs:List Bool) (h:linksA w [v] xs) (hn:xs.length<=1048576):
  Calls Tryz.prog 117 #[v] w fun r w'=>∃y c,r=.returned (.slice y xs.length c)/\M w.heap.size w w' [linksC (.slice y xs.length c) xs]:=by
 obtain⟨x,c,ev,_⟩:=slcA_form h;cases ev;obtain⟨n,hn'⟩:∃n,n=xs.length:=⟨_,rfl⟩
 rw[<-hn']at h ⊢ hn;have HN:=hd_ hn';have H1:=hd_ h;have H0:=hd_ (M.start w);clear h hn';go_enter Tryz.func117,Tryz.ntmps117
 go_wp2_with (at_make;refine wpList_mk linkS (enc:=encB) (z0:=false) rfl rfl (fun _=>rfl) H0.out rfl rfl n rfl rfl rfl rfl (by omega) (by unfold maxLen;omega) ?_;intro w1 h1 hb1;have H:=hd_ h1;clear H0 h1 hb1)
 go_loopw [4] (fun i wr=>∃j:Nat,j<=n/\i=.int .i64 (j:Int)/\M w.heap.size w wr [linksC (.slice (some ⟨w.heap.size,0,none⟩) n n) (xs.take j++List.replicate (n - j) false)]) (fun i _=>n - (intOf i).toNat)
 case atStart=>exact⟨0,Nat.zero_le _,rfl,H.out⟩
 case round=>
  clear H;obtain⟨j,hj,rfl,hm⟩:=hrel;have H:=hd_ hm;clear hm
  by_cases hlt:j<n
  ·obtain⟨y,hy⟩:∃y,xs[j]? =some y:=⟨_,List.getElem?_eq_getElem (by rw[<-HN.out];exact hlt)⟩
   obtain⟨b,o,ci,rfl,_,lc,hr,hA⟩:=slcA_at (linksA_stay.keep H1.out H.out.below lr_) hy;have a0:=hr 0 (.bool y) (by rw[hA];rfl);simp only[Nat.mul_one,Nat.add_zero]at a0;have HF:=hd_ (fill_step (z:=false) HN.out hy);have k0:(0:Int)<=(j:Int):=by omega
   have kn:(j:Int)<(n:Int):=by omega
   have HJ:Hid (j<(xs.take j++List.replicate (n - j) false).length):=hd_ (by rw[List.length_append,List.length_take,List.length_replicate];have:=HN.out;omega);clear hy lc hr hA;obtain⟨⟨z,cz⟩,fz,h1⟩:=H.out.setEl (i:=j) HJ.out y (u:=.bool y) rfl;rw[HF.out]at h1;have F:=hd_ (show M w.heap.size w _ [linksC _ _]from h1);clear h1 H;go_wp2;go_roundw
   case rel=>exact⟨j+1,by omega,by go_num,F.out⟩
   case measure=>simp[intOf];omega
  ·obtain rfl:j=n:=by omega
   have e1:xs.take j=xs:=List.take_of_length_le (by rw[HN.out];exact Nat.le_refl _);have hF:=H.out;rw[e1,Nat.sub_self,List.replicate_zero,List.append_nil]at hF;have F:=hd_ hF;clear H hF e1;go_wp2;go_ret;exact⟨_,_,rfl,F.out⟩
theorem rows_nodup {w:World} {B:Nat} {v:Value} {rs:List (List Int)} {G C:Nat->Nat} (o:OwnR w B v rs G C):(v.ownBlock.toList++(List.range rs.length).map G).Nodup:=by
 refine List.nodup_append.2 ⟨block_nodup _,List.pairwise_map.2 (List.Pairwise.imp_of_mem (fun {i j} hi hj q e=>o.apart i j (List.mem_range.1 hi) (List.mem_range.1 hj) q e) List.nodup_range),fun a ha b hb e=>?_⟩;obtain⟨i,hi,rfl⟩:=List.mem_map.1 hb;exact o.off i (List.mem_range.1 hi) (by rw[block_mem ha,e])
theorem rows_low {w:World} {B:Nat} {v:Value} {rs:List (List Int)} {G C:Nat->Nat} (o:OwnR w B v rs G C):∀b ∈ v.ownBlock.toList++(List.range rs.length).map G,B<=b:=fun b hb=>by
 rcases List.mem_append.1 hb with hb|hb
 ·exact (World.ownsRow.lt o.hdr b (block_mem hb)).1
 ·obtain⟨i,hi,rfl⟩:=List.mem_map.1 hb
  exact ((o.row i (List.mem_range.1 hi)).lt (G i) rfl).1
theorem toRows_M (w:World) (v:Value) (rs:List (List Int)) (h:ArgR w v rs) (hl:Lens rs):
  Calls Tryz.prog 187 #[v] w fun r w'=>∃y c,r=.returned (.slice y rs.length c)/\M w.heap.size w w' [rowsC (.slice y rs.length c) rs]:=
 (toIntSS_own w v rs h hl.len hl.row).mono fun _ w' ⟨a,⟨G,b⟩,c⟩=>⟨_,_,a,(M.start w).add c (rowsR_of b) (rows_nodup b) (rows_low b)⟩
theorem toPast_at (w:World) (v:Value) (xs:List (List (List Int))) (h:pastA w [v] xs) (hn:xs.length<=1048576) (hl:∀rs ∈ xs,Lens rs):
  Calls Tryz.prog 119 #[v] w fun r w'=>∃y c,r=.returned (.slice y xs.length c)/\M w.heap.size w w' [pastC (.slice y xs.length c) xs]:=by
 obtain⟨x,c,ev,_⟩:=slcA_form h;cases ev;obtain⟨n,hn'⟩:∃n,n=xs.length:=⟨_,rfl⟩
 rw[<-hn']at h ⊢ hn;have HN:=hd_ hn';have H1:=hd_ h;have HL:=hd_ hl;clear hl;have H0:=hd_ (M.start w);clear h hn';go_enter Tryz.func119,Tryz.ntmps119
 go_wp2_with (at_make;refine wpList_mkA rowsS rowsR_frame (z0:=([]:List (List Int))) (fun w=>slc_none w) H0.out rfl rfl n rfl rfl rfl rfl (by omega) (by unfold maxLen;omega) ?_;intro w1 h1 hb1;have H:=hd_ h1;clear H0 h1 hb1)
 go_loopw [4] (fun i wr=>∃j:Nat,j<=n/\i=.int .i64 (j:Int)/\M w.heap.size w wr [pastC (.slice (some ⟨w.heap.size,0,none⟩) n n) (xs.take j++List.replicate (n - j) (([]:List (List Int))))]) (fun i _=>n - (intOf i).toNat)
 case atStart=>exact⟨0,Nat.zero_le _,rfl,H.out⟩
 case round=>
  clear H;obtain⟨j,hj,rfl,hm⟩:=hrel;have H:=hd_ hm;clear hm
  by_cases hlt:j<n
  ·obtain⟨y,hy⟩:∃y,xs[j]? =some y:=⟨_,List.getElem?_eq_getElem (by rw[<-HN.out];exact hlt)⟩
   obtain⟨b,o,ci,rfl,_,lc,hr,hA⟩:=slcA_at (pastA_stay.keep H1.out H.out.below lr_) hy;obtain⟨z,cz,ez,_⟩:=slcA_form hA;subst ez;have a0:=hr 0 _ rfl;simp only[Nat.mul_one,Nat.add_zero]at a0;have KS:=hd_ (toRows_M wr _ y (rowsA_arg hA) (HL.out y (List.mem_of_getElem? hy)));have HF:=hd_ (fill_step (z:=([]:List (List Int))) HN.out hy);have FA0:=hd_ (fill_at (z:=([]:List (List Int))) HN.out hlt)
   have k0:(0:Int)<=(j:Int):=by omega
   have kn:(j:Int)<(n:Int):=by omega
   have HJ:Hid (j<(xs.take j++List.replicate (n - j) (([]:List (List Int)))).length):=hd_ (by rw[List.length_append,List.length_take,List.length_replicate];have:=HN.out;omega);clear hy lc hr hA
   go_wp2_with fail
   refine KS.out.mono ?_;rintro r w2 ⟨y2,c2,rfl,hU⟩;have h1:=H.out.plus hU;obtain⟨g,cap,ci,e,_,h2⟩:=M.open rowsR_frame h1.p1 FA0.out;simp only[Value.slice.injEq,Option.some.injEq,Addr.mk.injEq,and_true]at e;obtain⟨rfl,en,rfl⟩:=e;clear en;obtain⟨u,rfl⟩:∃u:Value,ci=[u]:=by
    obtain⟨f,hf,_⟩:=h2.first;obtain⟨u,_,_,rfl,_⟩:=hf;exact⟨u,rfl⟩
   have H2:=hd_ h2.drop;clear h1 h2 hU KS H;have z0:=H2.out.hcell1 HJ.out;have fz:=H2.out.hfree;have h3:=H2.out.hset1 HJ.out (.slice y2 y.length c2);have h4:=M.close (FA:=rowsR_frame) (x:=y) h3.p1 HJ.out;rw[HF.out]at h4;have F:=hd_ (show M w.heap.size w _ [pastC _ _]from h4);clear h3 h4;go_wp2;go_roundw
   case rel=>exact⟨j+1,by omega,by go_num,F.out⟩
   case measure=>simp[intOf];omega
  ·obtain rfl:j=n:=by omega
   have e1:xs.take j=xs:=List.take_of_length_le (by rw[HN.out];exact Nat.le_refl _);have hF:=H.out;rw[e1,Nat.sub_self,List.replicate_zero,List.append_nil]at hF;have F:=hd_ hF;clear H hF e1;go_wp2;go_ret;exact⟨_,_,rfl,F.out⟩
theorem toNet_at (w:World) {x1 x2 x3 x4:Option Addr} {k1 k2 k3 k4 c1 c2 c3 c4:Nat} (n:Nt) (h:netA w [.slice x1 k1 c1,.slice x2 k2 c2,.slice x3 k3 c3,.slice x4 k4 c4] n) (hl:LenA n):
  Calls Tryz.prog 49 #[.agg #[.slice x1 k1 c1,.slice x2 k2 c2,.slice x3 k3 c3,.slice x4 k4 c4]] w fun r w'=>∃y1 d1 y2 d2 y3 d3 y4 d4,r=.returned (.agg #[.slice y1 n.nodes.length d1,.slice y2 n.links.length d2,.slice y3 n.words.length d3,.slice y4 n.past.length d4])/\M w.heap.size w w' [nodesC (.slice y1 n.nodes.length d1) n.nodes,linksC (.slice y2 n.links.length d2) n.links,wordsC (.slice y3 n.words.length d3) n.words,pastC (.slice y4 n.past.length d4) n.past]:=by
 obtain⟨_,_,_,_,ev,h1,h2,h3,h4⟩:=netA_iff.1 h;cases ev;have HL:=hd_ hl;have H1:=hd_ h1;have H2:=hd_ h2;have H3:=hd_ h3;have H4:=hd_ h4;clear h hl h1 h2 h3 h4
 have X:=(((M.start w).alloc #[.slice x1 k1 c1,.slice x2 k2 c2,.slice x3 k3 c3,.slice x4 k4 c4] 80).alloc #[.slice none 0 0,.slice none 0 0,.slice none 0 0,.slice none 0 0] 30).alloc #[.slice none 0 0,.slice none 0 0,.slice none 0 0,.slice none 0 0] 30;simp only[World.size_alloc]at X;obtain⟨p2,hp2⟩:∃p,p=w.heap.size+1:=⟨_,rfl⟩
 obtain⟨p3,hp3⟩:∃p,p=w.heap.size+1+1:=⟨_,rfl⟩
 rw[<-hp3, <-hp2]at X;obtain⟨W0,hW⟩:∃W,W=((w.alloc (.cells #[.slice x1 k1 c1,.slice x2 k2 c2,.slice x3 k3 c3,.slice x4 k4 c4] 80)).alloc (.cells #[.slice none 0 0,.slice none 0 0,.slice none 0 0,.slice none 0 0] 30)).alloc (.cells #[.slice none 0 0,.slice none 0 0,.slice none 0 0,.slice none 0 0] 30):=⟨_,rfl⟩
 rw[<-hW]at X;have H:=hd_ X;obtain⟨a0,a1,a2,a3⟩:=X.p2.cells4;clear X;rw[hW]at a0 a1 a2 a3;go_enter Tryz.func49,Tryz.ntmps49
 go_wp2_with fail
 rw[<-hW];have HP:=hd_ hp3;have HP2:=hd_ hp2;clear hW a0 a1 a2 a3 hp3 hp2;have K:=toNodes_at W0 _ n.nodes ((slcA_stay nodeA_stay 5).keep H1.out H.out.below lr_) HL.out.nodes HL.out.node;refine K.mono ?_;rintro r w1 ⟨y1,d1,rfl,hU⟩;have h:=H.out.plus hU;clear K hU H1;have g:=h.p1;obtain⟨d0',d1',d2',d3'⟩:=g.cells4;have ff:=g.free;obtain⟨a0,a1,a2,a3⟩:=g.p3.cells4
 have g2:=g.set (i:=0) (.slice y1 n.nodes.length d1);simp only[List.setIfInBounds_toArray,List.set_cons_zero,List.set_cons_succ]at g2;have h':=g2.p3.p3.p2;clear h g g2 H;obtain⟨V1,hV⟩:∃W,W=w1.setCell ⟨p3,0,none⟩ (.slice y1 n.nodes.length d1):=⟨_,rfl⟩
 rw[<-hV]at h';have H:=hd_ h';clear h';rw[HP.out]at hV ff d0' d1' d2' d3';obtain⟨b0,b1,b2,b3⟩:=H.out.p2.cells4;rw[hV]at b0 b1 b2 b3
 go_wp2_with fail
 rw[<-hV];clear hV ff d0' d1' d2' d3' a0 a1 a2 a3 b0 b1 b2 b3;have K:=toLinks_at V1 _ n.links (linksA_stay.keep H2.out H.out.below lr_) HL.out.links;refine K.mono ?_;rintro r w2 ⟨y2,d2,rfl,hU⟩;have h:=H.out.plus hU;clear K hU H2;have g:=h.p1;obtain⟨d0',d1',d2',d3'⟩:=g.cells4;have ff:=g.free;obtain⟨a0,a1,a2,a3⟩:=g.p3.cells4;have g2:=g.set (i:=1) (.slice y2 n.links.length d2)
 simp only[List.setIfInBounds_toArray,List.set_cons_zero,List.set_cons_succ]at g2;have h':=g2.p3.p3.p2;clear h g g2 H;obtain⟨V2,hV⟩:∃W,W=w2.setCell ⟨p3,1,none⟩ (.slice y2 n.links.length d2):=⟨_,rfl⟩
 rw[<-hV]at h';have H:=hd_ h';clear h';rw[HP.out]at hV ff d0' d1' d2' d3';obtain⟨b0,b1,b2,b3⟩:=H.out.p2.cells4;rw[hV]at b0 b1 b2 b3
 go_wp2_with fail
 rw[<-hV];clear hV ff d0' d1' d2' d3' a0 a1 a2 a3 b0 b1 b2 b3;have K:=toWords_at V2 _ n.words ((slcA_stay wordA_stay 6).keep H3.out H.out.below lr_) HL.out.words HL.out.word;refine K.mono ?_;rintro r w3 ⟨y3,d3,rfl,hU⟩;have h:=H.out.plus hU;clear K hU H3;have g:=h.p1;obtain⟨d0',d1',d2',d3'⟩:=g.cells4;have ff:=g.free;obtain⟨a0,a1,a2,a3⟩:=g.p3.cells4
 have g2:=g.set (i:=2) (.slice y3 n.words.length d3);simp only[List.setIfInBounds_toArray,List.set_cons_zero,List.set_cons_succ]at g2;have h':=g2.p3.p3.p2;clear h g g2 H;obtain⟨V3,hV⟩:∃W,W=w3.setCell ⟨p3,2,none⟩ (.slice y3 n.words.length d3):=⟨_,rfl⟩
 rw[<-hV]at h';have H:=hd_ h';clear h';rw[HP.out]at hV ff d0' d1' d2' d3';obtain⟨b0,b1,b2,b3⟩:=H.out.p2.cells4;rw[hV]at b0 b1 b2 b3
 go_wp2_with fail
 rw[<-hV];clear hV ff d0' d1' d2' d3' a0 a1 a2 a3 b0 b1 b2 b3;have K:=toPast_at V3 _ n.past (pastA_stay.keep H4.out H.out.below lr_) HL.out.past HL.out.rows;refine K.mono ?_;rintro r w4 ⟨y4,d4,rfl,hU⟩;have h:=H.out.plus hU;clear K hU H4;have g:=h.p1;obtain⟨d0',d1',d2',d3'⟩:=g.cells4;have ff:=g.free;obtain⟨a0,a1,a2,a3⟩:=g.p3.cells4;have g2:=g.set (i:=3) (.slice y4 n.past.length d4)
 simp only[List.setIfInBounds_toArray,List.set_cons_zero,List.set_cons_succ]at g2;obtain⟨r0,r1,r2,r3⟩:=g.p2.cells4;have fr:=g.p2.free;have g4:=g2.p2.set4 (.slice y1 n.nodes.length d1) (.slice y2 n.links.length d2) (.slice y3 n.words.length d3) (.slice y4 n.past.length d4);have F:=hd_ g4;clear h g g2 g4 H;rw[HP2.out]at fr r0 r1 r2 r3;rw[HP.out]at d0' d1' d2' d3' ff;rw[HP.out,HP2.out]at F;go_wp2
 obtain⟨e0,e1,e2,e3⟩:=F.out.cells4;exact bodyPost_ret (v:=.agg #[.slice y1 n.nodes.length d1,.slice y2 n.links.length d2,.slice y3 n.words.length d3,.slice y4 n.past.length d4]) (by simp[results,Tryz.results49,go_sem,e0,e1,e2,e3]) rfl ⟨_,_,_,_,_,_,_,_,rfl,F.out.drop.drop.p1.drop.p1.p2.p3⟩
end N
end Go.Proofs.YtcblbdpdbggkbaaGreat
