/-
  What the laws of XS need of the texts before it, part 4.
-/
import Derived.BigQuiet
import Derived.Carry
import Derived.ChangeSame
import Derived.Deep.AppendLies
import Derived.Deep.Fields
import Derived.Deep.Matrix
import Derived.Deep.OwnRows
import Derived.Deep.QuietTactic
import Derived.Deep.RegionHeld3
import Derived.Deep.RegionLaw
import Derived.Deep.RegionWith
import Derived.Deep.Slices
import Derived.IntWalk
import Derived.Laws.AppendOwnNone
import Derived.Laws.EntriesVeiled
import Derived.Lib.AppendZerosOnto
import Derived.Lib.Hide
import Derived.Lib.QuietBelow
import Derived.Lib.SliceRun
import Derived.Lib.SmallJoins
import Derived.Lib.Walk
import Derived.LoopIn
import Derived.LoopNIn
import Derived.Maps.AppendAt
import Derived.OneCell
import Derived.OwnWalkIn
import Derived.RangeFuncBound
import Derived.RangeFuncBox
import Derived.RangeFuncCalls
import Derived.RangeFuncLeaves
import Derived.RangeFuncNested
import Derived.Shelf.Abstract
import Derived.Shelf.RegionOpen
import Derived.Shelf.SlSortCmp.InsertionK
import Derived.StillTail
import Derived.TacticsInMore
import Derived.Test.YtcblbdpdbggkbaaGreatRows
import Derived.WalkKit
import Derived.WalkLawsBesides
import Derived.WalkSpells
import Derived.Test.YtcblbdpdbggkbaaGreatSXS2
set_option maxRecDepth 100000
set_option maxHeartbeats 16000000
set_option linter.unusedVariables false
set_option linter.unusedSectionVars false
set_option linter.unusedSimpArgs false
namespace Go.Proofs.YtcblbdpdbggkbaaGreat
open _root_.Go.Proofs.Tryz
theorem zl {P:Prop} (h:P:=by
 obtain⟨j,hj,rfl,rfl,hown,hg⟩:=hrel;have HO:=hd_ hown;have HG:=hd_ hg;clear hown hg
 by_cases hlt:j<n
 ·have hl2:(prs (mkP k j++ps.drop j)).length=n * 2:=by rw[eZ];simp[dK,HL.out];omega
  obtain⟨x0,hc0⟩:∃x,wr.cell? ⟨g,j * 2,none⟩=some x:=by
   rw[HO.out.cellAt (j * 2) o_];exact⟨_,List.getElem?_eq_getElem o_⟩
  obtain⟨x1,hc1⟩:∃x,wr.cell? ⟨g,j * 2+1,none⟩=some x:=by
   rw[HO.out.cellAt (j * 2+1) o_];exact⟨_,List.getElem?_eq_getElem o_⟩
  have hf0:=HO.out.frozenAt (j * 2);have hf1:=HO.out.frozenAt (j * 2+1);have s1:=HO.out.stored (j * 2) (iv (k+2 * (j:Int)));have s2:=s1.1.stored (j * 2+1) (iv (k+2 * (j:Int)+1));rw[sB _ j _ _ (by simp[dK,HL.out];omega),wU k ps j (by rw[HL.out];exact hlt)]at s2;have G:=hd_ (aL HG.out (aL s1.2 s2.2));have HS:=hd_ s2.1;have j0:(0:Int)<=(j:Int):=o_
  have jn:(j:Int)<(n:Int):=o_;clear s1 s2 hl2;go_wp2;go_roundw
  case rel=>exact⟨j+1,o_,gn_,by rw[show ((j+1:Nat):Int)=(j:Int)+1 by omega];congr 1;omega,HS.out,G.out⟩
  case measure=>simp[intOf];omega
 ·obtain rfl:j=n:=o_
  go_wp2;go_ret;have h0:ps.drop j=[]:=List.drop_of_length_le (by rw[HL.out];exact Nat.le_refl _);have ho:=HO.out;rw[h0,List.append_nil]at ho;exact⟨rfl,ho,HG.out⟩):P:=h
theorem zp {P:Prop} (h:P:=by
 unfold aF at h;rw[HY.out]at h;exact h
 have hl:=eZ ys;rw[HY.out]at hl;obtain⟨u0,hc0⟩:∃u,w1.cell? ⟨w.heap.size,k * 2,none⟩=some u:=by
  rw[ho.cellAt (k * 2) o_];exact⟨_,List.getElem?_eq_getElem o_⟩
 obtain⟨u1,hc1⟩:∃u,w1.cell? ⟨w.heap.size,k * 2+1,none⟩=some u:=by
  rw[ho.cellAt (k * 2+1) o_];exact⟨_,List.getElem?_eq_getElem o_⟩
 have hf0:=ho.frozenAt (k * 2);have hf1:=ho.frozenAt (k * 2+1);have hs:=((ho.stored (k * 2) (iv t)).1.stored (k * 2+1) (iv z)).1;rw[sB ys k t z (by rw[HY.out];exact hlt)]at hs;have HS:=hd_ hs;have B1:=hd_ (HB.out.trans (hb1.mono HB.out.size));clear hs ho hl hb1 h1 h2;go_wp2;go_roundw
 case rel=>
  refine⟨k+1,ys.set k (t,z),o_,gn_,by simpa using HY.out,fun i hi=>?_,?_,(B1.out.setCell lr_ _).setCell lr_ _⟩
  ·by_cases e:i=k
   ·subst e
    rw[HK.out];simp[pr,HY.out,hlt]
   ·have e1:pr (ys.set k (t,z)) i=pr ys i:=by simp[pr,Ne.symm e]
    rw[e1];exact HYS.out i o_
  ·unfold aF
   rw[List.length_set,HY.out];exact HS.out
 case measure=>simp[intOf];omega):P:=h
theorem zq {P:Prop} (h:P:=by
 have f:∀i,∃p:Pr,i<len->w.cell? ((⟨b,o,sp⟩:Addr).add (i * 2))=some (.int .i64 p.1)/\w.cell? ((⟨b,o,sp⟩:Addr).add (i * 2+1))=some (.int .i64 p.2):=fun i=>by
  by_cases hlt:i<len
  ·obtain⟨p,hp⟩:=key i hlt
   exact⟨p,fun _=>hp⟩
  ·exact⟨(0,0),fun hc=>absurd hc hlt⟩
 have f':∃F:Nat->Pr,∀i,i<len->w.cell? ((⟨b,o,sp⟩:Addr).add (i * 2))=some (.int .i64 (F i).1)/\w.cell? ((⟨b,o,sp⟩:Addr).add (i * 2+1))=some (.int .i64 (F i).2):=⟨fun i=>Classical.choose (f i),fun i=>Classical.choose_spec (f i)⟩
 obtain⟨F,hF⟩:=f';have c0:=(hF 0 o_).1;have hs:sp=none:=by simpa[Addr.add]using World.cell?_spot c0
 subst hs;have e:((List.range len).map F).length=len:=by simp
 refine⟨(List.range len).map F,.inr ⟨b,o,cap,by rw[e],o_,o_,by simpa[Addr.add]using World.block_lt_of_cell? _ _ c0,fun i hi=>?_⟩⟩;rw[e]at hi;have eg:pr ((List.range len).map F) i=F i:=by simp[pr,hi]
 rw[eg];have:=hF i hi;rw[gQ,gQ, <-Nat.add_assoc]at this;exact this):P:=h
theorem zAb {P:Prop} (h:P:=by
 go_wp2_with fail
 refine K.out.mono ?_;rintro e w1 ⟨rfl,rfl⟩;go_wp2;go_ret;exact⟨rfl,HA.out⟩):P:=h
theorem zAk {P:Prop} (h:P:=by
 have R1:=R0.later hb1;have z0:=R1.cell0;have z1:=R1.cell1;have z2:=R1.cell2;have f2:=R1.free;have RZ:=R1.set zn (iv 0) (iv 0);have hr0:=RZ.cell0;have hr1:=RZ.cell1;have hr2:=RZ.cell2;have BZ:=hd_ (cT (b:=w.heap.size+1) (HA.out.trans (hb1.mono HA.out.size)) (Nat.le_succ _) zn (iv 0) (iv 0));clear R1 RZ x0 x1 x2 X0 R0 hb1;go_wp2
 exact bodyPost_ret (v:=.tuple #[.agg #[zn,iv 0,iv 0],.bool false]) (by simp[results,results312,go_sem,hr0,hr1,hr2]) rfl ⟨rfl,BZ.out⟩):P:=h
theorem zAo {P:Prop} (h:P:=by
 obtain⟨b,o,rfl,hb,h1,h2⟩:=PC.out j (by rw[dK];exact hlt)
 rw[aCX k n j hlt]at h1 h2;simp only at h1 h2;have j0:(0:Int)<=(j:Int):=o_;have jn:(j:Int)<(n:Int):=o_;have e1:(k+2 * (j:Int) != k+2 * (j:Int))=false:=by simp
 have e2:(k+2 * (j:Int)+1 != k+2 * (j:Int)+1)=false:=by simp
 go_wp2;go_roundw
 case rel=>exact⟨j+1,o_,gn_,by rw[show ((j+1:Nat):Int)=(j:Int)+1 by omega];congr 1;omega,by first|rfl|trivial⟩
 case measure=>simp[intOf];omega):P:=h
theorem zAs {P:Prop} (h:P:=by
 obtain⟨_,hcl,hat⟩:=World.cells?_some hc;obtain⟨l0,l1,rfl⟩:∃l0 l1,cs=[l0,l1]:=by
  match cs,hcl with
  | [l0,l1],_=>exact⟨l0,l1,rfl⟩
 simp[hC0]at h0 h1;obtain⟨t,e0,_⟩:=DataW.trod_int underlying3 h0;obtain⟨z,e1,_⟩:=DataW.trod_int underlying3 h1;simp at e0 e1;have a0:=hat 0 o_;have a1:=hat 1 o_;rw[Go.Deep.add_add]at a0 a1;exact⟨(t,z),by simpa[e0]using a0,by simpa[e1]using a1⟩):P:=h
theorem zAu {P:Prop} (h:P:=by
 go_wp2_with fail
 refine (KT.out _).mono ?_;rintro e w1 ⟨rfl,rfl⟩;go_wp2;go_ret;exact⟨aH bad.out.symm,(HA.out.trans (HB.out.mono (by simp))).alloc (by have:=HB.out.size;simp at this;omega) _⟩):P:=h
theorem zAw {P:Prop} (h:P:=by
 rcases h.2 with ⟨rfl,h0⟩|⟨g,cap,cur,rfl,hb,hg,hn,hc,hs,ht⟩
 ·exact .inl ⟨rfl,List.eq_nil_of_length_eq_zero h0⟩
 ·refine .inr ⟨g,0,cap,rfl,hn,hc,(Array.getElem?_eq_some_iff.1 hg).1,fun i hi=>?_⟩
  have e:=oM ps i hi;have a:=World.ownsRow.cells h (g:=g) rfl _ _ e.1;have b:=World.ownsRow.cells h (g:=g) rfl _ _ e.2;rw[gQ]at a b;exact⟨a,by rw[Nat.add_assoc];exact b⟩):P:=h
theorem zAy {P:Prop} (h:P:=by
 rcases h.2 with ⟨rfl,h0⟩|⟨g,cap,cur,rfl,_⟩
 ·exact⟨none,0,by rw[h0]⟩
 ·exact⟨_,_,rfl⟩):P:=h
theorem zAz {P:Prop} (h:P:=by
 rw[HB.out.cell (p:=⟨b,j,none⟩) (by show b<_;omega),HA.out.cell (p:=⟨b,j,none⟩) hb];exact h):P:=h
theorem zAC {P:Prop} (h:P:=by
 have hj:j<(prs ps).length:=(List.getElem?_eq_some_iff.1 hu).1;rw[eZ]at hj;obtain⟨b',o',e,_,h1,h2⟩:=h.cells (j / 2) o_;cases e;have hg:=oM ps (j / 2) o_;rw[gQ];rcases (by omega:j % 2=0\/j % 2=1)with h0|h0
 ·have e:j=j / 2 * 2:=o_
  rw[e]at hu ⊢;rw[hg.1]at hu;rw[h1, <-hu]
 ·have e:j=j / 2 * 2+1:=o_
  rw[e]at hu ⊢;rw[hg.2]at hu;rw[<-Nat.add_assoc,h2, <-hu]):P:=h
theorem zAI {P:Prop} (h:P:=by
 have h:=bP.new (w.alloc (.cells #[.slice x n c,iv lost,iv all] 41)) 41 zn (iv 0) (iv 0);rw[hW0];simpa using h):P:=h
theorem zAJ {P:Prop} (h:P:=by
 go_wp2;refine wp_loop_rounds 1 ?_;rw[rounds_succ];exact zt):P:=h
theorem zAN {P:Prop} (h:P:=by
 go_wp2
 go_quiet (first|(with_reducible exact aE (aJ _ _ _ _ ha0 ha1))|(with_reducible exact aE (aJ _ _ _ _ hl0 hl1))|(with_reducible exact aE (KA.out _)))
 go_wp2;go_ret;exact⟨aH (by first|(rw[fv.out];done)|(rw[fv.out];simp;omega)|(rw[fv.out];simpa using hle)),below_drewN FIN.out _⟩):P:=h
theorem zAO {P:Prop} (h:P:=by
 go_wp2;go_ret;exact⟨aH bd.out.symm,below_drewN FIN.out _⟩):P:=h
theorem zAU {P:Prop} (h:P:=by
 obtain rfl:k=n:=o_
 have fin0:ys=ps:=by
  apply List.ext_getElem (by rw[HY.out,HN.out]);intro i h1 h2;have:=HYS.out i (by rw[<-HY.out];exact h1);simpa[pr,h1,h2]using this
 have fin:=hd_ fin0;clear fin0;go_wp2;go_ret;refine⟨rfl,?_,HB.out⟩;rw[<-fin.out];exact HO.out):P:=h
theorem zA0 {P:Prop} (h:P:=by
 rw[e]at e';injection e' with e1;exact⟨b,o,Option.some.inj e1⟩):P:=h
theorem zA1 {P:Prop} (h:P:=by
 rcases h with ⟨rfl,x,c,e⟩|⟨b,o,c,e,_⟩
 ·exact⟨x,c,e⟩
 ·exact⟨_,c,e⟩):P:=h
theorem zA3 {P:Prop} (h:P:=by
 rcases h with ⟨rfl,_⟩|⟨b,o,c,e,h0,h1,_⟩
 ·exact Nat.zero_le _
 ·exact h1):P:=h
theorem zA4 {P:Prop} (h:P:=by
 rcases h with h|⟨b,o,cap,rfl,h1,h2,h3,h4⟩
 ·exact .inl h
 ·exact .inr ⟨b,o,cap,rfl,h1,h2,Nat.lt_of_lt_of_le h3 hb.size,fun i hi=>by
      rw[hb.cell (by show b<B;omega),hb.cell (by show b<B;omega)];exact h4 i hi⟩):P:=h
theorem zA6 {P:Prop} (h:P:=by
 exact .inr ⟨b,o,c,e,h0,h1,Nat.lt_of_lt_of_le h2 hb.size,fun i hi=>by
     rw[hb.cell (p:=⟨b,o+i * 2,none⟩) (by show b<B;omega),hb.cell (p:=⟨b,o+i * 2+1,none⟩) (by show b<B;omega)];exact h3 i hi⟩):P:=h
theorem zA9 {P:Prop} (h:P:=by
 rw[if_neg o_,List.getElem?_append_right (by rw[dK];omega),List.getElem?_append_right (by rw[dK];omega),dK,dK]
 simp only[List.getElem?_drop];rw[show j+(i - j)=i by omega,show j+1+(i - (j+1))=i by omega]):P:=h
theorem zBg {P:Prop} (h:P:=by
 rcases h.2 with ⟨_,e⟩|⟨g,cap,cur,e,_⟩
 ·exact List.eq_nil_of_length_eq_zero e
 ·cases e):P:=h
theorem zBh {P:Prop} (h:P:=by
 rw[gE];cases i with
 |zero=>exact⟨rfl,rfl⟩
 |succ i=>
  have:=ih i (by simpa using h);rw[show (i+1) * 2=i * 2+1+1 by omega];simp only[List.getElem?_cons_succ];exact this):P:=h
theorem zBq {P:Prop} (h:P:=by
 rw[h]at h';cases h'):P:=h
theorem zBs {P:Prop} (h:P:=by
 rw[rounds_succ];go_wp2;go_ret;refine⟨_,rfl,?_,B3.out⟩;unfold aF;have h:=O3.out;rw[<-HA.out, <-HB.out]at h ⊢;rw[qX,List.length_append];exact h):P:=h
theorem zBt {P:Prop} (h:P:=by
 rw[aAz];apply List.ext_getElem?;intro j
 by_cases hj:j<n * 2
 ·have h2:j % 2=0\/j % 2=1:=o_
  rcases h2 with h|h<;>simp[madeCells,hj,h]
 ·simp[madeCells,hj]):P:=h
theorem zBx {P:Prop} (h:P:=by
 go_wp2_with (at_builtin;refine Lib.wpList_append_run _ rfl _ _ _ _ rfl _ _ rfl rfl _ _ (hrz _) ?_)
 go_ret;exact⟨_,rfl,FIN.out.1,FIN.out.2⟩):P:=h
theorem zBy {P:Prop} (h:P:=by
 cases k with
 |zero=>rfl
 |succ k=>
  have:=ih k (by simpa using h);rw[List.set_cons_succ,gE,gE, <-this,show (k+1) * 2=k * 2+1+1 by omega];simp):P:=h
theorem zBz {P:Prop} (h:P:=by
 rw[if_neg o_,List.getElem?_append_left (by rw[dK];exact h),List.getElem?_append_left (by rw[dK];omega)]
 simp[mkP,h,show i<j+1 by omega]):P:=h
theorem zBC {P:Prop} (h:P:=by
 rcases h with ⟨rfl,rfl⟩|⟨b,o,cap,rfl,h1,h2,_⟩
 ·exact⟨none,0,rfl,Nat.le_refl _,Nat.zero_le _⟩
 ·exact⟨_,_,rfl,h1,h2⟩):P:=h
theorem zBG {P:Prop} (h:P:=by
 rw[rounds_succ];go_wp2;go_ret;exact⟨_,rfl,by rw[List.append_nil];have h:=O2.out;rw[<-HA.out]at h ⊢;exact h,B2.out⟩):P:=h
theorem zBJ {P:Prop} (h:P:=by
 rw[rounds_succ];go_wp2;go_ret;refine⟨_,rfl,?_,B3.out⟩;unfold aF;have h:=O3.out;rw[<-HB.out]at h ⊢;simpa using h):P:=h
theorem zBK {P:Prop} (h:P:=by
 subst h0
 exact⟨[],.inl ⟨rfl,_,_,rfl⟩⟩):P:=h
theorem zBR {P:Prop} (h:P:=by
 rcases h with ⟨_,rfl⟩|⟨b,o,cap,e,h1,h2,h3,h4⟩
 ·cases hi
 ·exact⟨b,o,(Value.slice.inj e).1,h3,h4 i hi⟩):P:=h
theorem zBU {P:Prop} (h:P:=by
 rcases h with ⟨rfl,_⟩|⟨b,o,c,e,h0,h1,h2,h3⟩
 ·cases hi
 ·exact⟨b,o,(Value.slice.inj e).1,h2,h3 i hi⟩):P:=h
theorem zBV {P:Prop} (h:P:=by
 intro j u hj
 match j,hj with
 | 0,hj=>simp at hj;subst hj;simp[Addr.add]
 | 1,hj=>simp at hj;subst hj;simp[Addr.add]):P:=h
theorem zBW {P:Prop} (h:P:=by
 subst e;rcases HQ.out with ⟨e,h0⟩|⟨b,o,c,e,_⟩
 ·injection e with e1 e2 e3;exact⟨h0,e2,e3⟩
 ·cases e):P:=h
theorem zBX {P:Prop} (h:P:=by
 subst e;rcases HP.out with ⟨e,h0⟩|⟨b,o,c,e,_⟩
 ·injection e with e1 e2 e3;exact⟨h0,e2,e3⟩
 ·cases e):P:=h
theorem zBY {P:Prop} (h:P:=by
 intro u hu;rw[gE]at hu;simp only[List.mem_cons]at hu;rcases hu with rfl|rfl|hu
 ·rfl
 ·rfl
 ·exact ih u hu):P:=h
end Go.Proofs.YtcblbdpdbggkbaaGreat
namespace Go.Proofs.YtcblbdpdbggkbaaGreat.T
open _root_.Go.Proofs.Tryz
open Go.RowKit Go.Sort
abbrev Pr:=Int × Int
def pr (ps:List Pr) (i:Nat):Pr:=ps.getD i (0,0)
def prs (ps:List Pr):List Value:=ps.flatMap fun p=>[.int .i64 p.1,.int .i64 p.2]
theorem gE (p:Pr) (ps:List Pr):prs (p::ps)=.int .i64 p.1::.int .i64 p.2::prs ps:=rfl
theorem qX (ps qs:List Pr):prs (ps++qs)=prs ps++prs qs:=by simp[prs]
theorem rT (ps:List Pr) (p:Pr):prs (ps++[p])=prs ps++[.int .i64 p.1,.int .i64 p.2]:=by simp[prs]
theorem eZ (ps:List Pr):(prs ps).length=ps.length * 2:=by
 induction ps with
 |nil=>rfl
 |cons p ps ih=>rw[gE];simp[ih];omega
theorem oM (ps:List Pr) (i:Nat) (h:i<ps.length):(prs ps)[i * 2]? =some (.int .i64 (pr ps i).1)/\(prs ps)[i * 2+1]? =some (.int .i64 (pr ps i).2):=by
 induction ps generalizing i with
 |nil=>cases h
 |cons p ps ih=>
  exact zBh
theorem jI {ps:List Pr} {i:Nat} (h:i<ps.length):pr ps i ∈ ps:=lW ps i (0,0) h
theorem kX {ps:List Pr} {p:Pr} (h:p ∈ ps):∃i,i<ps.length/\pr ps i=p:=by
 obtain⟨i,hi,rfl⟩:=List.getElem_of_mem h;exact⟨i,hi,by simp[pr,hi]⟩
def Prs (w:World) (v:Value) (ps:List Pr):Prop:=
 (v=.slice none 0 0/\ps=[])\/
 ∃b o cap,v=.slice (some ⟨b,o,none⟩) ps.length cap/\ps.length<=cap/\cap<=maxLen/\b<w.heap.size/\
  ∀i,i<ps.length->w.cell? ⟨b,o+i * 2,none⟩=some (.int .i64 (pr ps i).1)/\w.cell? ⟨b,o+i * 2+1,none⟩=some (.int .i64 (pr ps i).2)
theorem Prs.below {w w':World} {v:Value} {ps:List Pr} (h:Prs w v ps) {B:Nat} (hb:Below B w w') (hB:w.heap.size<=B):Prs w' v ps:=by
 exact zA4
theorem Prs.form {w:World} {v:Value} {ps:List Pr} (h:Prs w v ps):∃x c,v=.slice x ps.length c/\ps.length<=c/\c<=maxLen:=by
 exact zBC
theorem Prs.cells {w:World} {x:Option Addr} {n c:Nat} {ps:List Pr} (h:Prs w (.slice x n c) ps):∀i,i<ps.length->∃b o,x=some ⟨b,o,none⟩/\b<w.heap.size/\w.cell? ⟨b,o+i * 2,none⟩=some (.int .i64 (pr ps i).1)/\w.cell? ⟨b,o+i * 2+1,none⟩=some (.int .i64 (pr ps i).2):=fun i hi=>by
 exact zBR
def aF (w:World) (B:Nat) (v:Value) (ps:List Pr):Prop:=w.ownsRow B 213 2 v ps.length (prs ps)
theorem gQ (b o i:Nat):(⟨b,o,none⟩:Addr).add i=⟨b,o+i,none⟩:=by unfold Addr.add;split<;>simp_all
theorem aF.rd {w:World} {B:Nat} {v:Value} {ps:List Pr} (h:aF w B v ps):Prs w v ps:=by
 exact zAw
theorem aF.base {w:World} {B B':Nat} {v:Value} {ps:List Pr} (h:aF w B v ps) (hB:B'<=B):aF w B' v ps:=aM h hB
theorem aF.kept {w w':World} {B:Nat} {v:Value} {ps:List Pr} {row:Option Nat} (h:aF w B v ps) (hg:w.grownBy w' row) (hr:∀k,row=some k->k<B):aF w' B v ps:=by
 exact zAj
theorem aF.keep {w w':World} {B:Nat} {v:Value} {ps:List Pr} {row:Option Nat} (h:aF w B v ps) (hg:w.grownBy w' row) (hr:v.ownBlock≠row):aF w' B v ps:=World.ownsRow.kept h hg (.inr hr)
theorem aF.alloc {w:World} {B:Nat} {v:Value} {ps:List Pr} (h:aF w B v ps) (o:Obj):aF (w.alloc o) B v ps:=World.ownsRow.alloc h o
theorem aF.below {w w':World} {B:Nat} {v:Value} {ps:List Pr} (h:aF w B v ps) (hb:Below w.heap.size w w'):aF w' B v ps:=h.kept (row:=none) (cU hb) (fun _ e=>by cases e)
theorem aF.nil (w:World) (B:Nat):aF w B zn []:=World.ownsRow_nil w B _ 2
theorem aF.form {w:World} {B:Nat} {v:Value} {ps:List Pr} (h:aF w B v ps):∃x c,v=.slice x ps.length c/\ps.length<=c/\c<=maxLen:=h.rd.form
theorem dY:(prog.info? 213).map (fun i=>(i.zero,i.size,i.bytes))=some (some (.agg #[iv 0,iv 0]),2,16):=by kernel_rfl
theorem lJ (w:World) (B:Nat) (hB:B<=w.heap.size):aF (w.alloc (.cells #[] 213)) B (.slice (some ⟨w.heap.size,0,none⟩) 0 0) []:=
 World.ownsRow_lit (base:=B) (e:=213) (size:=2) w #[] 0 hB (by simp[maxLen]) (by simp)
def cC (ps:List Pr):Int:=(ps.map (·.2)).sum
theorem rX (ps qs:List Pr):cC (ps++qs)=cC ps+cC qs:=by simp[cC]
theorem dV (ps:List Pr) (k:Nat) (h:k<ps.length):ps.take (k+1)=ps.take k++[pr ps k]:=by
 rw[List.take_succ_eq_append_getElem h];simp[pr,h]
theorem kF (ps:List Pr) (k:Nat) (h:k<ps.length):cC (ps.take (k+1))=cC (ps.take k)+(pr ps k).2:=by
 rw[dV ps k h,rX];simp[cC]
def uR (ps:List Pr) (i:Nat):Prop:=((0<=(pr ps i).1/\(pr ps i).1<=63)/\1<=(pr ps i).2/\(pr ps i).2<=2000)/\(0<i->(pr ps (i - 1)).1<(pr ps i).1)
instance (ps:List Pr) (i:Nat):Decidable (uR ps i):=by unfold uR;infer_instance
def tZ (ps:List Pr) (lost all:Int):Prop:=(ps.length<=4/\(0<=lost/\lost<=2000)/\0<=all/\all<=2000)/\(∀i,i<ps.length->uR ps i)/\cC ps+5 * lost<=all
instance (ps:List Pr) (lost all:Int):Decidable (tZ ps lost all):=by unfold tZ;infer_instance
def cV (ps:List Pr) (lost all:Int):Bool:=decide (tZ ps lost all)
theorem cG (ps:List Pr) (lost all:Int):cV ps lost all=true↔tZ ps lost all:=by simp[cV]
theorem jD {ps:List Pr} {lost all:Int} (h:¬tZ ps lost all):cV ps lost all=false:=by simpa[cV]using h
def uX (ps:List Pr) (k:Nat):Int:=if k=0 then -1 else (pr ps (k - 1)).1
theorem aDq {ps:List Pr} {k:Nat} (hk:k<=ps.length) (h:∀i,i<k->uR ps i):0<=cC (ps.take k)/\cC (ps.take k)<=2000 * k:=by
 induction k with
 |zero=>simp[cC]
 |succ k ih=>
  have:=ih o_ (fun i hi=>h i o_);have g:=(h k o_).1.2;rw[kF ps k o_];omega
theorem aFB {ps:List Pr} {k:Nat} (h:∀i,i<k->uR ps i): -1<=uX ps k/\uX ps k<=63:=by
 unfold uX
 split
 ·omega
 ·have:=(h (k - 1) o_).1.1;omega
theorem aJw {ps:List Pr} {k:Nat} (h:∀i,i<k->uR ps i):uR ps k↔(uX ps k<(pr ps k).1/\(pr ps k).1<64)/\1<=(pr ps k).2/\(pr ps k).2<=2000:=by
 have hb:=aFB h;unfold uR;unfold uX at hb ⊢
 split
 ·subst_vars;simp;omega
 ·have:0<k:=o_
  simp only[this,true_implies];rw[if_neg o_]at hb;omega
theorem aFJ (ps:List Pr) (k:Nat):uX ps (k+1)=(pr ps k).1:=by unfold uX;rw[if_neg o_];rfl
theorem lP (a:Int) (w:World) (h:0<=a/\a<=2000):
  Calls prog 180 #[iv a] w fun e w'=>e=.returned (.bool true)/\w=w':=by
 obtain⟨h0,h1⟩:=h;go_enter func180,ntmps180;go_wp2;go_ret;exact⟨rfl,rfl⟩
theorem pX (a:Int) (w:World) (h:¬(0<=a/\a<=2000)):
  Calls prog 180 #[iv a] w fun e w'=>e=.returned (.bool false)/\w=w':=by
 by_cases h0:0<=a
 ·have h1:¬a<=2000:=o_
  clear h;go_enter func180,ntmps180;exact zt
 ·clear h
  go_enter func180,ntmps180;exact zt
theorem aFS (w:World) (x:Option Addr) (n c:Nat) (ps:List Pr) (lost all:Int) (hl:ps.length=n) (hp:Prs w (.slice x n c) ps) (hn:n<=4) (hlo:0<=lost/\lost<=2000) (hal:0<=all/\all<=2000):
  Calls prog 177 #[.agg #[.slice x n c,iv lost,iv all]] w fun e w'=>e=.returned (.bool (cV ps lost all))/\Below w.heap.size w w':=by
 have hA:=(Below.refl w.heap.size w).alloc lr_ (.cells #[.slice x n c,iv lost,iv all] 41);have HP:=hd_ (hp.cells);have HL:=hd_ hl;have HA:=hd_ hA;have KL:Hid (∀W,Calls prog 180 #[iv lost] W fun e w'=>e=.returned (.bool true)/\W=w'):=fun W=>lP lost W hlo
 have KA:Hid (∀W,Calls prog 180 #[iv all] W fun e w'=>e=.returned (.bool true)/\W=w'):=fun W=>lP all W hal
 have hn':¬(4:Int)<(n:Int):=o_;have c2:(w.alloc (.cells #[.slice x n c,iv lost,iv all] 41)).cell? ⟨w.heap.size,2,none⟩=some (.int .i64 all):=by simp
 have C2:=hd_ c2;obtain⟨lo0,lo1⟩:=hlo;have HAL:=hd_ hal;clear hl hp hA c2 hal;go_enter func177,ntmps177
 go_wp2_with fail
 refine (KL.out _).mono ?_;rintro e w1 ⟨rfl,rfl⟩
 go_wp2_with fail
 refine (KA.out _).mono ?_;rintro e w1 ⟨rfl,rfl⟩;go_wp2;go_loopw [3,4,29] (fun tg la i wr=>∃k:Nat,k<=n/\i=.int .i64 k/\la=.int .i64 (uX ps k)/\tg=.int .i64 (lost * 5+cC (ps.take k))/\(∀i,i<k->uR ps i)/\Below (w.heap.size+1) (w.alloc (.cells #[.slice x n c,iv lost,iv all] 41)) wr) (fun _ _ i _=>n - (intOf i).toNat)
 case atStart=>exact⟨0,Nat.zero_le _,rfl,rfl,by simp[cC],fun _ h=>absurd h (Nat.not_lt_zero _),Below.refl _ _⟩
 case round=>
  obtain⟨k,hk,rfl,rfl,rfl,hg,hbl⟩:=hrel;have G:=hd_ hg;have I:=hd_ (aJw hg);have HB:=hd_ hbl;have hsb:=aDq (by rw[HL.out];exact hk) hg;have cw:wr.cell? ⟨w.heap.size,2,none⟩=some (.int .i64 all):=(HB.out.cell (p:=⟨w.heap.size,2,none⟩) (by simp)).trans C2.out
  by_cases hlt:k<n
  ·obtain⟨b,o,rfl,hb,h1,h2⟩:=HP.out k (by rw[HL.out];exact hlt)
   have tr:∀j v,w.cell? ⟨b,j,none⟩=some v->wr.cell? ⟨b,j,none⟩=some v:=fun j v h=>by
    exact zAz
   replace h1:=tr _ _ h1;replace h2:=tr _ _ h2;have hs:=hd_ (kF ps k (by rw[HL.out];exact hlt));have hla:=hd_ (aFJ ps k);have hPr:Hid (∃q,q=pr ps k):=⟨_,rfl⟩
   generalize pr ps k=q at h1 h2 I hs hla;obtain⟨t,m⟩:=q;have hLb:=aFB hg;generalize uX ps k=L at I hLb ⊢;generalize cC (ps.take k)=S at *;clear hg hbl tr hPr
   by_cases hx:t<=L
   ·have bad:Hid (cV ps lost all=false):=jD (fun q=>by have:=(I.out.1 (q.2.1 k (by rw[HL.out];exact hlt))).1.1;simp at this;omega)
    go_wp2;go_ret;exact⟨aH bad.out.symm,(HA.out.trans (HB.out.mono (by simp))).alloc (by have:=HB.out.size;simp at this;omega) _⟩
   have hx':L<t:=o_
   by_cases hy:64<=t
   ·have bad:Hid (cV ps lost all=false):=jD (fun q=>by have:=(I.out.1 (q.2.1 k (by rw[HL.out];exact hlt))).1.2;simp at this;omega)
    have KT:Hid (∀W,Calls prog 106 #[iv t] W fun e w'=>e=.returned (.bool false)/\W=w'):=fun W=>nI t W (.inr hy)
    exact zAu
   have KT:Hid (∀W,Calls prog 106 #[iv t] W fun e w'=>e=.returned (.bool true)/\W=w'):=fun W=>jZ t W o_ o_
   by_cases hm:m<1
   ·have bad:Hid (cV ps lost all=false):=jD (fun q=>by have:=(I.out.1 (q.2.1 k (by rw[HL.out];exact hlt))).2.1;simp at this;omega)
    exact zAu
   by_cases hm2:2000<m
   ·have bad:Hid (cV ps lost all=false):=jD (fun q=>by have:=(I.out.1 (q.2.1 k (by rw[HL.out];exact hlt))).2.2;simp at this;omega)
    exact zAu
   go_wp2_with fail
   refine (KT.out _).mono ?_;rintro e w1 ⟨rfl,rfl⟩;go_wp2;go_roundw
   case rel=>exact⟨k+1,o_,gn_,by rw[hla.out],by rw[hs.out];go_num,fun i hi=>by
        by_cases h:i<k
        · exact G.out i h
        · obtain rfl:i=k:=o_
          exact I.out.2 ⟨⟨hx',o_⟩,o_,o_⟩,HB.out.alloc (by have:=HB.out.size;simp at this;omega) _⟩
   case measure=>simp[intOf];omega
  ·obtain rfl:k=n:=o_
   have e1:ps.take k=ps:=List.take_of_length_le (by rw[HL.out];exact Nat.le_refl _);rw[e1]at hsb ⊢;generalize hS:cC ps=S at *;have HS:=hd_ hS;clear hg hbl e1 hS
   by_cases hle:lost * 5+S<=all
   ·have good:Hid (cV ps lost all=true):=(cG _ _ _).2 ⟨⟨by rw[HL.out];exact hn,⟨lo0,lo1⟩,HAL.out⟩,fun i hi=>G.out i (by rw[HL.out]at hi;exact hi),by rw[HS.out];omega⟩
    go_wp2;go_ret;exact⟨aH (by first|(rw[good.out];done)|(rw[good.out];simpa using hle)),HA.out.trans (HB.out.mono (by simp))⟩
   ·have bad:Hid (cV ps lost all=false):=jD (fun q=>by have:=q.2.2;rw[HS.out]at this;omega)
    go_wp2;go_ret;exact⟨aH (by first|(rw[bad.out];done)|(rw[bad.out];simpa using hle)),HA.out.trans (HB.out.mono (by simp))⟩
theorem nW (w:World) (u:Value) (ps:List Pr) (lost all:Int) (hp:Prs w u ps):
  Calls prog 177 #[.agg #[u,iv lost,iv all]] w fun e w'=>e=.returned (.bool (cV ps lost all))/\Below w.heap.size w w':=by
 obtain⟨x,c,rfl,hc0,hc⟩:=hp.form;obtain⟨n,hn⟩:=nm_ ps.length
 by_cases h4:ps.length<=4
 ·by_cases hlo:0<=lost/\lost<=2000
  ·by_cases hal:0<=all/\all<=2000
   ·exact aFS w x _ c ps lost all rfl hp h4 hlo hal
   ·have bad:cV ps lost all=false:=jD (fun q=>hal q.1.2.2)
    rw[bad];have KL:Hid (∀W,Calls prog 180 #[iv lost] W fun e w'=>e=.returned (.bool true)/\W=w'):=fun W=>lP lost W hlo
    have KA:Hid (∀W,Calls prog 180 #[iv all] W fun e w'=>e=.returned (.bool false)/\W=w'):=fun W=>pX all W hal
    rw[<-hn]at h4 ⊢;have hn':¬(4:Int)<(n:Int):=o_;clear hp hn bad hal hlo hc hc0;go_enter func177,ntmps177
    go_wp2_with fail
    refine (KL.out _).mono ?_;rintro e w1 ⟨rfl,rfl⟩
    go_wp2_with fail
    refine (KA.out _).mono ?_;rintro e w1 ⟨rfl,rfl⟩;exact zAE
  ·have bad:cV ps lost all=false:=jD (fun q=>hlo q.1.2.1)
   rw[bad];have KL:Hid (∀W,Calls prog 180 #[iv lost] W fun e w'=>e=.returned (.bool false)/\W=w'):=fun W=>pX lost W hlo
   rw[<-hn]at h4 ⊢;have hn':¬(4:Int)<(n:Int):=o_;clear hp hn bad hlo hc hc0;go_enter func177,ntmps177
   go_wp2_with fail
   refine (KL.out _).mono ?_;rintro e w1 ⟨rfl,rfl⟩;exact zAE
 ·have bad:cV ps lost all=false:=jD (fun q=>h4 q.1.1)
  rw[bad];rw[<-hn]at h4 ⊢;have hn':(4:Int)<(n:Int):=o_;clear hp hn bad hc hc0 h4;go_enter func177,ntmps177;exact zAE
theorem aK2 (w:World) (x:Option Addr) (n c:Nat) (ps:List Pr) (hl:ps.length=n) (hp:Prs w (.slice x n c) ps) (hn:n<=4) (hg:∀i,i<n->uR ps i):
  Calls prog 277 #[.slice x n c] w fun e w'=>e=.returned (iv (cC ps))/\w=w':=by
 have HP:=hd_ hp.cells;have HL:=hd_ hl;have G:=hd_ hg;clear hl hp hg;go_enter func277,ntmps277;go_wp2
 go_loop [3,4] (fun q i=>∃k:Nat,k<=n/\i=.int .i64 k/\q=.int .i64 (cC (ps.take k))) (fun _ i=>n - (intOf i).toNat)
 case atStart=>exact⟨0,Nat.zero_le _,rfl,rfl⟩
 case round=>
  obtain⟨k,hk,rfl,rfl⟩:=hrel;have hsb:=aDq (by rw[HL.out];exact hk) (fun i hi=>G.out i o_)
  by_cases hlt:k<n
  ·obtain⟨b,o,rfl,hb,h1,h2⟩:=HP.out k (by rw[HL.out];exact hlt)
   have g:=(G.out k hlt).1.2;have hs:=hd_ (kF ps k (by rw[HL.out];exact hlt));generalize pr ps k=q at h1 h2 hs g;obtain⟨t,m⟩:=q;generalize cC (ps.take k)=S at *;obtain⟨g1,g2⟩:=g;go_wp2
   go_round
   case rel=>exact⟨k+1,o_,gn_,by rw[hs.out]⟩
   case measure=>simp[intOf];omega
  ·obtain rfl:k=n:=o_
   have e1:ps.take k=ps:=List.take_of_length_le (by rw[HL.out];exact Nat.le_refl _);rw[e1];exact zt
theorem aG8 (w:World) (x:Option Addr) (n c:Nat) (ps:List Pr) (lost all:Int) (hl:ps.length=n) (hp:Prs w (.slice x n c) ps) (hn:n<=maxLen):
  Calls prog 221 #[.agg #[.slice x n c,iv lost,iv all]] w fun e w'=>e=.returned (.bool (cV ps lost all))/\Below w.heap.size w w':=by
 unfold maxLen at hn;have hA:=(Below.refl w.heap.size w).alloc lr_ (.cells #[.slice x n c,iv lost,iv all] 41);have c0:(w.alloc (.cells #[.slice x n c,iv lost,iv all] 41)).cell? ⟨w.heap.size,0,none⟩=some (.slice x n c):=by simp
 have c1:(w.alloc (.cells #[.slice x n c,iv lost,iv all] 41)).cell? ⟨w.heap.size,1,none⟩=some (.int .i64 lost):=by simp
 have c2:(w.alloc (.cells #[.slice x n c,iv lost,iv all] 41)).cell? ⟨w.heap.size,2,none⟩=some (.int .i64 all):=by simp
 have HC:=hd_ (And.intro c0 (And.intro c1 c2));have HPR:=hd_ hp;have HP:=hd_ hp.cells;have HL:=hd_ hl;have HA:=hd_ hA;clear hl hp hA c0 c1 c2;go_enter func221,ntmps221;go_wp2;go_loopw [3] (fun i wr=>∃k:Nat,k<=n/\i=.int .i64 k/\(∀i,i<k->uR ps i)/\Below (w.heap.size+1) (w.alloc (.cells #[.slice x n c,iv lost,iv all] 41)) wr) (fun i _=>n - (intOf i).toNat)
 case atStart=>exact⟨0,Nat.zero_le _,rfl,fun _ h=>absurd h (Nat.not_lt_zero _),Below.refl _ _⟩
 case round=>
  obtain⟨k,hk,rfl,hg,hbl⟩:=hrel;have G:=hd_ hg;have HB:=hd_ hbl;have cw0:wr.cell? ⟨w.heap.size,0,none⟩=some (.slice x n c):=(HB.out.cell (p:=⟨w.heap.size,0,none⟩) (by simp)).trans HC.out.1;have cw1:wr.cell? ⟨w.heap.size,1,none⟩=some (.int .i64 lost):=(HB.out.cell (p:=⟨w.heap.size,1,none⟩) (by simp)).trans HC.out.2.1
  have cw2:wr.cell? ⟨w.heap.size,2,none⟩=some (.int .i64 all):=(HB.out.cell (p:=⟨w.heap.size,2,none⟩) (by simp)).trans HC.out.2.2;have FIN:=hd_ (HA.out.trans (HB.out.mono (Nat.le_succ _)))
  by_cases hlt:k<n
  ·obtain⟨b,o,rfl,hb,h1,h2⟩:=HP.out k (by rw[HL.out];exact hlt)
   have tr:∀j v,w.cell? ⟨b,j,none⟩=some v->wr.cell? ⟨b,j,none⟩=some v:=fun j v h=>by
    exact zAz
   have TR:=hd_ tr;replace h1:=tr _ _ h1;replace h2:=tr _ _ h2;have HQ:Hid (uR ps k↔(((0<=(pr ps k).1/\(pr ps k).1<=63)/\1<=(pr ps k).2/\(pr ps k).2<=2000)/\(0<k->(pr ps (k - 1)).1<(pr ps k).1))):=Iff.rfl;have bad:Hid (¬uR ps k->cV ps lost all=false):=fun h=>jD (fun q=>h (q.2.1 k (by rw[HL.out];exact hlt)))
   generalize pr ps k=q at h1 h2 HQ;obtain⟨t,m⟩:=q;have k0:(0:Int)<=(k:Int):=o_;have kn:(k:Int)<(n:Int):=o_;clear hg hbl tr
   by_cases ht:t<0\/63<t
   ·have bd:=hd_ (bad.out (fun q=>by have:=(HQ.out.1 q).1.1;simp at this;omega))
    clear HQ bad;go_wp2
    go_quiet (with_reducible exact aE (fY _ _ _ _ ht))
    exact zAO
   have ht0:0<=t:=o_;have ht1:t<=63:=o_
   by_cases hm:m<1\/2000<m
   ·have bd:=hd_ (bad.out (fun q=>by have:=(HQ.out.1 q).1.2;simp at this;omega))
    clear HQ bad;go_wp2
    go_quiet (first|(with_reducible exact aE (aJ _ _ _ _ ht0 ht1))|(with_reducible exact aE (fY _ _ _ _ hm)))
    exact zAO
   have hm0:1<=m:=o_;have hm1:m<=2000:=o_;rcases Nat.eq_zero_or_pos k with h0|h0
   ·subst h0
    have good:=hd_ (HQ.out.2 ⟨⟨⟨ht0,ht1⟩,hm0,hm1⟩,fun h=>absurd h (Nat.lt_irrefl _)⟩);clear HQ bad;have e0:o+0 * 2=o:=o_;rw[e0]at h1 h2;go_wp2
    go_quiet (first|(with_reducible exact aE (aJ _ _ _ _ ht0 ht1))|(with_reducible exact aE (aJ _ _ _ _ hm0 hm1)))
    go_wp2;go_roundw
    case rel=>exact⟨1,o_,gn_,fun i hi=>by
          obtain rfl:i=0:=o_
          exact good.out,below_drewN HB.out _⟩
    case measure=>simp[intOf];omega
   ·obtain⟨j,rfl⟩:∃j,k=j+1:=⟨k - 1,o_⟩
    obtain⟨b',o',e',hb',h3,_⟩:=HP.out j (by rw[HL.out];omega);cases e';replace h3:=TR.out _ _ h3;rw[Nat.add_sub_cancel]at HQ;generalize pr ps j=q' at h3 HQ;obtain⟨t',m'⟩:=q';have p0:(0:Int)<((j+1:Nat):Int):=o_;have e1:((j+1:Nat):Int) - 1=(j:Int):=o_;have j0:(0:Int)<=(j:Int):=o_;have jn:(j:Int)<(n:Int):=o_
    by_cases hyx:t<=t'
    ·have bd:=hd_ (bad.out (fun q=>by have:=(HQ.out.1 q).2 h0;simp at this;omega))
     have hd:decide (t<=t')=true:=decide_eq_true hyx;clear HQ bad;go_wp2
     go_quiet (first|(with_reducible exact aE (aJ _ _ _ _ ht0 ht1))|(with_reducible exact aE (aJ _ _ _ _ hm0 hm1)))
     exact zAO
    ·have good:=hd_ (HQ.out.2 ⟨⟨⟨ht0,ht1⟩,hm0,hm1⟩,fun _=>by simp;omega⟩)
     have hd:decide (t<=t')=false:=decide_eq_false hyx;clear HQ bad;go_wp2
     go_quiet (first|(with_reducible exact aE (aJ _ _ _ _ ht0 ht1))|(with_reducible exact aE (aJ _ _ _ _ hm0 hm1)))
     go_wp2;go_roundw
     case rel=>exact⟨j+1+1,o_,gn_,fun i hi=>by
            by_cases h:i<j+1
            · exact G.out i h
            · obtain rfl:i=j+1:=o_
              exact good.out,below_drewN HB.out _⟩
     case measure=>simp[intOf];omega
  ·obtain rfl:k=n:=o_
   clear hg hbl
   by_cases h4:4<k
   ·have bd:Hid (cV ps lost all=false):=jD (fun q=>by have:=q.1.1;rw[HL.out]at this;omega)
    have h4':decide ((k:Int)<=4)=false:=decide_eq_false o_;go_wp2
    go_quiet (fail)
    exact zAO
   have h4':(k:Int)<=4:=o_
   by_cases ha:all<0\/2000<all
   ·have bd:Hid (cV ps lost all=false):=jD (fun q=>by have:=q.1.2.2;omega)
    go_wp2
    go_quiet (first|(with_reducible exact aE (fY _ _ _ _ ha)))
    exact zAO
   have ha0:0<=all:=o_;have ha1:all<=2000:=o_
   by_cases hl:lost<0\/2000<lost
   ·have bd:Hid (cV ps lost all=false):=jD (fun q=>by have:=q.1.2.1;omega)
    go_wp2
    go_quiet (first|(with_reducible exact aE (aJ _ _ _ _ ha0 ha1))|(with_reducible exact aE (fY _ _ _ _ hl)))
    exact zAO
   have hl0:0<=lost:=o_;have hl1:lost<=2000:=o_;have KA:Hid (∀q,Calls prog 277 #[.slice x k c] (wr.drewN q) fun e w'=>e=.returned (iv (cC ps))/\wr.drewN q=w'):=fun q=>
    aK2 _ x k c ps HL.out (Prs.below HPR.out (below_drewN FIN.out q) lr_) o_ G.out
   have hsb:=aDq (k:=k) (by rw[HL.out];exact Nat.le_refl _) G.out;rw[List.take_of_length_le (by rw[HL.out];exact Nat.le_refl _)]at hsb;have HI:=hd_ (cG ps lost all);have HF:Hid (cC ps+5 * lost<=all->cV ps lost all=true):=fun h=>(cG _ _ _).2 ⟨⟨by rw[HL.out];omega,⟨hl0,hl1⟩,ha0,ha1⟩,fun i hi=>G.out i (by rw[HL.out]at hi;exact hi),h⟩
   have HN:Hid (¬cC ps+5 * lost<=all->cV ps lost all=false):=fun h=>jD (fun q=>h q.2.2)
   generalize cC ps=S at *;have ws:IntKind.i64.wrap (5 * lost)=5 * lost:=IntWalk.i64_in _ o_;have ws2:IntKind.i64.wrap (S+5 * lost)=S+5 * lost:=IntWalk.i64_in _ o_
   by_cases hle:S+5 * lost<=all
   ·have fv:=hd_ (HF.out hle)
    exact zAN
   ·have fv:=hd_ (HN.out hle)
    exact zAN
theorem jY (w:World) (u:Value) (ps:List Pr) (lost all:Int) (hp:Prs w u ps):
  Calls prog 221 #[.agg #[u,iv lost,iv all]] w fun e w'=>e=.returned (.bool (cV ps lost all))/\Below w.heap.size w w':=by
 obtain⟨x,c,rfl,hc0,hc⟩:=hp.form;exact aG8 w x _ c ps lost all rfl hp o_
def tot:List Pr->Int->Int
 | [],_=>0
 |p::ps,t=>(if p.1=t then p.2 else 0)+tot ps t
theorem lB (ps qs:List Pr) (t:Int):tot (ps++qs) t=tot ps t+tot qs t:=by
 induction ps with
 |nil=>simp[tot]
 |cons p ps ih=>simp only[List.cons_append,tot,ih];omega
theorem aL0 (p:Pr) (t:Int):tot [p] t=if p.1=t then p.2 else 0:=by simp[tot]
theorem hZ {ps:List Pr} {t:Int} (h:∀p ∈ ps,p.1≠t):tot ps t=0:=by
 induction ps with
 |nil=>rfl
 |cons p ps ih=>
  have h1:=h p (by simp);simp only[tot,if_neg h1,ih (fun q hq=>h q (by simp[hq]))];rfl
def Asc (ps:List Pr):Prop:=∀i,0<i->i<ps.length->(pr ps (i - 1)).1<(pr ps i).1
theorem Asc.lt {ps:List Pr} (h:Asc ps) {i:Nat}:∀{j:Nat},i<j->j<ps.length->(pr ps i).1<(pr ps j).1:=by
 intro j
 induction j with
 |zero=>intro h0;omega
 |succ j ih=>
  intro hij hj;have h1:=h (j+1) o_ hj;rw[Nat.add_sub_cancel]at h1
  by_cases e:i=j
  ·rw[e];exact h1
  ·have:=ih o_ o_;omega
theorem aHi {ps:List Pr} {k i:Nat} (h:i<k):pr (ps.take k) i=pr ps i:=by simp[pr,h]
theorem aFl (ps:List Pr) (k:Nat) (t:Int) (h:k<ps.length):tot (ps.take (k+1)) t=tot (ps.take k) t+if (pr ps k).1=t then (pr ps k).2 else 0:=by
 rw[dV ps k h,lB,aL0]
theorem Asc.before {ps:List Pr} (h:Asc ps) {k:Nat} {t:Int} (hk:k<ps.length) (ht:(pr ps k).1<=t):tot (ps.take k) t=0:=hZ fun p hp=>by
 obtain⟨i,hi,rfl⟩:=kX hp;have hi':i<k:=by simp at hi;omega
 rw[aHi hi'];have:=h.lt hi' hk;omega
theorem Asc.at {ps:List Pr} (h:Asc ps) {k:Nat} (hk:k<ps.length):tot ps (pr ps k).1=(pr ps k).2:=by
 have e1:tot (ps.drop (k+1)) (pr ps k).1=0:=hZ fun p hp=>by
  obtain⟨i,hi,rfl⟩:=kX hp;have e2:pr (ps.drop (k+1)) i=pr ps (k+1+i):=by simp[pr]
  rw[e2];simp at hi;have:=h.lt (i:=k) (j:=k+1+i) o_ o_;omega
 have e2:tot ps (pr ps k).1=tot (ps.take (k+1)) (pr ps k).1+tot (ps.drop (k+1)) (pr ps k).1:=by rw[<-lB,List.take_append_drop]
 rw[e2,e1,aFl ps k _ hk,h.before hk (Int.le_refl _)];simp
theorem tZ.asc {ps:List Pr} {lost all:Int} (h:tZ ps lost all):Asc ps:=fun i h0 hi=>(h.2.1 i hi).2 h0
def isT (t:Int):Bool:=decide (0<=t/\t<64)
theorem aLQ {t:Int} (h:isT t=true):0<=t/\t<64:=by simpa[isT]using h
theorem aMQ {t:Int} (h:isT t=false):t<0\/64<=t:=by simp[isT]at h;omega
theorem aJp {ps:List Pr} {t:Int} (h:∀i,i<ps.length->uR ps i) (ha:Asc ps):0<=tot ps t/\tot ps t<=2000:=by
 by_cases hx:∃i,i<ps.length/\(pr ps i).1=t
 ·obtain⟨i,hi,rfl⟩:=hx
  rw[ha.at hi];have:=(h i hi).1.2;omega
 ·rw[hZ fun p hp e=>by obtain⟨i,hi,rfl⟩:=kX hp;exact hx ⟨i,hi,e⟩]
  omega
theorem dI (w:World) (x y:Value) (t:TypeId):∀j u,[x,y][j]? =some u->(w.alloc (.cells #[x,y] t)).cell? ((⟨w.heap.size,0,none⟩:Addr).add j)=some u:=by
 exact zBV
theorem oY {w w':World} {row:Option Nat} (h:w.drew.grownBy w' row):w.grownBy w' row:=⟨h.os,h.tape,h.output,h.size,h.block⟩
def dC:List Pr->Pr->List Pr
 | [],x=>[x]
 |p::ps,x=>if p.1<x.1 then p::dC ps x else if p.1=x.1 then (x.1,x.2+p.2)::ps else x::p::ps
def qZ (ps:List Pr) (x:Pr) (d:Bool):List Pr:=if d then ps else dC ps x
theorem aD9 (ps:List Pr) (x:Pr):(dC ps x).length<=ps.length+1:=by
 induction ps with
 |nil=>simp[dC]
 |cons p ps ih=>
  unfold dC
  split
  ·simp;omega
  ·split<;>simp
theorem aLD {ps:List Pr} {k:Nat} (h:k<ps.length):ps.drop k=pr ps k::ps.drop (k+1):=by
 rw[List.drop_eq_getElem_cons h];simp[pr,h]
theorem fM {w:World} {B no:Nat} {v:Value} {os:List Pr} {t m:Int} (h:w.ownsRow B 213 2 v (no+1) (prs os++[.int .i64 t,.int .i64 m])) (hn:no=os.length):aF w B v (os++[(t,m)]):=by
 unfold aF;rw[rT,List.length_append, <-hn];exact h
theorem bU {B:Nat} {w wr w':World} {o:Obj} {e:TypeId} {size:Nat} {v:Value} {n:Nat} {xs:List Value} (hb:Below B w wr) (hB:B<=wr.heap.size) (ho:wr.ownsRow B e size v n xs) (hg:(wr.alloc o).grownBy w' v.ownBlock):Below B w w':=
 (hb.alloc hB o).grown hg (Nat.le_trans hB (by simp)) (fun k e=>(ho.lt k e).1)
theorem uO {B:Nat} {wr w':World} {o:Obj} {e:TypeId} {size:Nat} {v u:Value} {n:Nat} {xs:List Value} {a:Addr} (hc:wr.cell? a=some u) (ha:a.block<B) (ho:wr.ownsRow B e size v n xs) (hg:(wr.alloc o).grownBy w' v.ownBlock):w'.cell? a=some u:=
 hg.cell ((World.cell?_alloc_lt (h:=World.block_lt_of_cell? _ _ hc) ..).trans hc) (fun h=>by have:=(ho.lt _ h.symm).1;omega)
theorem aKF (w:World) (x:Option Addr) (n c:Nat) (ps:List Pr) (t m:Int) (hl:ps.length=n) (hp:Prs w (.slice x n c) ps) (hn:n<=100) (hm:∀i,i<n->0<=(pr ps i).2/\(pr ps i).2<=100000) (m0:0<=m) (m1:m<=100000):
  Calls prog 226 #[.slice x n c,.agg #[iv t,iv m]] w fun e w'=>∃v,e=.returned v/\aF w' w.heap.size v (dC ps (t,m))/\Below w.heap.size w w':=by
 obtain⟨i0,hi,hz0,hz1,hz2⟩:=info_parts dY;have HP:=hd_ hp.cells;have HL:=hd_ hl;have HM:=hd_ hm;have hA:=(Below.refl w.heap.size w).alloc lr_ (.cells #[iv t,iv m] 213);have HA:=hd_ hA;have C0:Hid ((w.alloc (.cells #[iv t,iv m] 213)).cell? ⟨w.heap.size,0,none⟩=some (.int .i64 t)):=by show _=_;simp
 have C1:Hid ((w.alloc (.cells #[iv t,iv m] 213)).cell? ⟨w.heap.size,1,none⟩=some (.int .i64 m)):=by show _=_;simp
 have E0:Hid (aF ((w.alloc (.cells #[iv t,iv m] 213)).alloc (.cells #[] 213)) (w.heap.size+1) (.slice (some ⟨w.heap.size+1,0,none⟩) 0 0) []):=by
  have h:=lJ (w.alloc (.cells #[iv t,iv m] 213)) (w.heap.size+1) (by simp);have e:(w.alloc (.cells #[iv t,iv m] 213)).heap.size=w.heap.size+1:=by simp
  rw[e]at h;exact h
 clear hl hp hm hA;go_enter func226,ntmps226;go_wp2;go_loopw [5,6,7] (fun u d i wr=>∃(k:Nat) (dn:Bool) (os:List Pr),k<=n/\i=.int .i64 k/\d=.bool dn/\os.length<=k+dn.toNat/\aF wr (w.heap.size+1) u os/\os++qZ (ps.drop k) (t,m) dn=dC ps (t,m)/\Below (w.heap.size+1) (w.alloc (.cells #[iv t,iv m] 213)) wr) (fun _ _ i _=>n - (intOf i).toNat)
 case atStart=>exact⟨0,false,[],Nat.zero_le _,rfl,rfl,Nat.zero_le _,E0.out,rfl,(Below.refl _ _).alloc (by simp) _⟩
 case round=>
  obtain⟨k,dn,os,hk,rfl,rfl,hos,hown,hput,hbl⟩:=hrel;obtain⟨y,cp,hu,_,_⟩:=hown.form;obtain⟨no,hno⟩:=nm_ os.length;have hdn:dn.toNat<=1:=by cases dn<;>simp
  have hno2:no<=200:=o_;clear hdn;rw[<-hno]at hu;subst hu;have HN:=hd_ hno;have HPT:=hd_ hput;have HB:=hd_ hbl;have hsz:=hbl.size;simp only[World.size_alloc]at hsz;have ho:wr.ownsRow (w.heap.size+1) 213 2 (.slice y no cp) no (prs os):=by have h:=hown;unfold aF at h;rw[<-hno]at h;exact h
  have HO:=hd_ ho;have b0:wr.cell? ⟨w.heap.size,0,none⟩=some (.int .i64 t):=(hbl.cell (p:=⟨w.heap.size,0,none⟩) (by simp)).trans C0.out;have b1:wr.cell? ⟨w.heap.size,1,none⟩=some (.int .i64 m):=(hbl.cell (p:=⟨w.heap.size,1,none⟩) (by simp)).trans C1.out;have hlt1:w.heap.size<w.heap.size+1:=Nat.lt_succ_self _;clear hput hbl hown hno ho
  by_cases hlt:k<n
  ·obtain⟨b,o,rfl,hb,h1,h2⟩:=HP.out k (by rw[HL.out];exact hlt)
   have tr:∀j v,w.cell? ⟨b,j,none⟩=some v->wr.cell? ⟨b,j,none⟩=some v:=fun j v h=>by
    exact zAz
   replace h1:=tr _ _ h1;replace h2:=tr _ _ h2;have hb1:b<w.heap.size+1:=o_;have hd:=aLD (ps:=ps) (k:=k) (by rw[HL.out];exact hlt);have hmm:=HM.out k hlt;have H200:no<=200:=hno2;generalize pr ps k=q at h1 h2 hd hmm;obtain⟨t',m'⟩:=q;simp only at h1 h2 hmm;rw[hd]at HPT;obtain⟨mm0,mm1⟩:=hmm;clear hd tr;have k0:(0:Int)<=(k:Int):=o_;have kn:(k:Int)<(n:Int):=o_;cases dn with
   |true=>
    have hos1:os.length<=k+1:=hos;clear hos;go_wp2
    go_quiet (fail)
    obtain⟨wq,hwq⟩:=nm_ (wr.drewN nq);have HOq:Hid (wq.ownsRow (w.heap.size+1) 213 2 (.slice y no cp) no (prs os)):=by rw[hwq];exact HO.out
    have HBq:Hid (Below (w.heap.size+1) (w.alloc (.cells #[iv t,iv m] 213)) wq):=by rw[hwq];exact below_drewN HB.out _
    have hszq:w.heap.size+1<=wq.heap.size:=by rw[hwq];exact hsz
    have h1q:wq.cell? ⟨b,o+k * 2,none⟩=some (.int .i64 t'):=by rw[hwq];exact h1
    have h2q:wq.cell? ⟨b,o+k * 2+1,none⟩=some (.int .i64 m'):=by rw[hwq];exact h2
    have b0q:wq.cell? ⟨w.heap.size,0,none⟩=some (.int .i64 t):=by rw[hwq];exact b0
    have b1q:wq.cell? ⟨w.heap.size,1,none⟩=some (.int .i64 m):=by rw[hwq];exact b1
    rw[<-hwq];clear hwq h1 h2 b0 b1 HO HB hsz
    go_wp2_with (first|(at_builtin;refine wpList_append_own _ rfl _ _ 39 rfl (w.heap.size+1) 213 i0 (.agg #[iv 0,iv 0]) 2 16 underlying39 hi hz0 hz1 hz2 rfl dc_ _ _ _ rfl (HOq.out.alloc _) ⟨wq.heap.size,0,none⟩ 1 1 [iv t',iv m'] rfl rfl (dI _ _ _ _) (by simp[Value.oneCell']) (by unfold maxLen;omega) o_ (by simp;omega) ?_;intro v1 w1 ho1 hg1 _;obtain⟨g_v1,c_v1,rfl,_,_⟩:=World.ownsRow.form ho1 (Nat.succ_pos _)))
    go_roundw
    case rel=>exact⟨k+1,true,os++[(t',m')],o_,gn_,rfl,by simp;omega,fM ho1 HN.out,by rw[<-HPT.out];simp[qZ],bU HBq.out hszq HOq.out hg1⟩
    case measure=>simp[intOf];omega
   |false=>
    have hos1:os.length<=k:=hos;clear hos
    by_cases hlt2:t'<t
    ·have hD:decide (t<=t')=false:=decide_eq_false o_
     go_wp2
     go_quiet (fail)
     obtain⟨wq,hwq⟩:=nm_ (wr.drewN nq);have HOq:Hid (wq.ownsRow (w.heap.size+1) 213 2 (.slice y no cp) no (prs os)):=by rw[hwq];exact HO.out
     have HBq:Hid (Below (w.heap.size+1) (w.alloc (.cells #[iv t,iv m] 213)) wq):=by rw[hwq];exact below_drewN HB.out _
     have hszq:w.heap.size+1<=wq.heap.size:=by rw[hwq];exact hsz
     have h1q:wq.cell? ⟨b,o+k * 2,none⟩=some (.int .i64 t'):=by rw[hwq];exact h1
     have h2q:wq.cell? ⟨b,o+k * 2+1,none⟩=some (.int .i64 m'):=by rw[hwq];exact h2
     have b0q:wq.cell? ⟨w.heap.size,0,none⟩=some (.int .i64 t):=by rw[hwq];exact b0
     have b1q:wq.cell? ⟨w.heap.size,1,none⟩=some (.int .i64 m):=by rw[hwq];exact b1
     rw[<-hwq];clear hwq h1 h2 b0 b1 HO HB hsz
     go_wp2_with (first|(at_builtin;refine wpList_append_own _ rfl _ _ 39 rfl (w.heap.size+1) 213 i0 (.agg #[iv 0,iv 0]) 2 16 underlying39 hi hz0 hz1 hz2 rfl dc_ _ _ _ rfl (HOq.out.alloc _) ⟨wq.heap.size,0,none⟩ 1 1 [iv t',iv m'] rfl rfl (dI _ _ _ _) (by simp[Value.oneCell']) (by unfold maxLen;omega) o_ (by simp;omega) ?_;intro v1 w1 ho1 hg1 _;obtain⟨g_v1,c_v1,rfl,_,_⟩:=World.ownsRow.form ho1 (Nat.succ_pos _)))
     go_roundw
     case rel=>exact⟨k+1,false,os++[(t',m')],o_,gn_,rfl,by simp;omega,fM ho1 HN.out,by rw[<-HPT.out];simp[qZ,dC,hlt2],bU HBq.out hszq HOq.out hg1⟩
     case measure=>simp[intOf];omega
    ·have hD:decide (t<=t')=true:=decide_eq_true o_
     by_cases he:t'=t
     ·have he':=he.symm
      subst he';go_wp2
      go_quiet (fail)
      obtain⟨wq,hwq⟩:=nm_ (wr.drewN nq);have HOq:Hid (wq.ownsRow (w.heap.size+1) 213 2 (.slice y no cp) no (prs os)):=by rw[hwq];exact HO.out
      have HBq:Hid (Below (w.heap.size+1) (w.alloc (.cells #[iv t,iv m] 213)) wq):=by rw[hwq];exact below_drewN HB.out _
      have hszq:w.heap.size+1<=wq.heap.size:=by rw[hwq];exact hsz
      have h1q:wq.cell? ⟨b,o+k * 2,none⟩=some (.int .i64 t):=by rw[hwq];exact h1
      have h2q:wq.cell? ⟨b,o+k * 2+1,none⟩=some (.int .i64 m'):=by rw[hwq];exact h2
      have b0q:wq.cell? ⟨w.heap.size,0,none⟩=some (.int .i64 t):=by rw[hwq];exact b0
      have b1q:wq.cell? ⟨w.heap.size,1,none⟩=some (.int .i64 m):=by rw[hwq];exact b1
      rw[<-hwq];clear hwq h1 h2 b0 b1 HO HB hsz;have ws:IntKind.i64.wrap (m+m')=m+m':=IntWalk.i64_in _ o_;go_wp2
      go_quiet (fail)
      obtain⟨w3,hw3⟩:=nm_ (wq.drewN nq);have HO3:Hid (w3.ownsRow (w.heap.size+1) 213 2 (.slice y no cp) no (prs os)):=by rw[hw3];exact HOq.out
      have HB3:Hid (Below (w.heap.size+1) (w.alloc (.cells #[iv t,iv m] 213)) w3):=by rw[hw3];exact below_drewN HBq.out _
      have hsz3:w.heap.size+1<=w3.heap.size:=by rw[hw3];exact hszq
      have h2r:w3.cell? ⟨b,o+k * 2+1,none⟩=some (.int .i64 m'):=by rw[hw3];exact h2q
      have b0r:w3.cell? ⟨w.heap.size,0,none⟩=some (.int .i64 t):=by rw[hw3];exact b0q
      have b1r:w3.cell? ⟨w.heap.size,1,none⟩=some (.int .i64 m):=by rw[hw3];exact b1q
      rw[<-hw3];clear hw3 h1q h2q b0q b1q HOq HBq hszq
      go_wp2_with fail
      go_region_law ((refine step_append_lies _ r_ _ _ _ r_ (w.heap.size+1) 213 i0 _ 2 16 underlying39 hi hz0 hz1 hz2 rfl dc_ (.slice y no cp) no (prs os) r_ ((HO3.out.alloc _).drew) ⟨w3.heap.size,0,none⟩ 1 1 [iv t,iv (m+m')] r_ r_ (World.news_of_block (cs:=#[.int .i64 t,.int .i64 (m+m')]) (t:=213) (fr:=(0,0)) (heap_alloc_new w3 _)) (by simp[Value.oneCell']) o_ (by unfold maxLen;omega) o_ (by simp;omega) (w3.heap.size+1) (by simp) ?_;intro g1 cap1 w4 hown4 hgrow4 hat4 hlt4))
      all_goals
       have hg5:(w3.alloc (.cells #[iv t,iv (m+m')] 213)).grownBy w4 (Value.slice y no cp).ownBlock:=oY hgrow4;go_wp2;go_roundw
       case rel=>exact⟨k+1,true,os++[(t,m+m')],o_,gn_,rfl,by simp;omega,fM hown4 HN.out,by rw[<-HPT.out];simp[qZ,dC],bU HB3.out hsz3 HO3.out hg5⟩
       case measure=>simp[intOf];omega
     ·have he1:(t'==t)=false:=by simpa using he
      have he2:decide (t'=t)=false:=by simpa using he
      go_wp2
      go_quiet (fail)
      obtain⟨wq,hwq⟩:=nm_ (wr.drewN nq);have HOq:Hid (wq.ownsRow (w.heap.size+1) 213 2 (.slice y no cp) no (prs os)):=by rw[hwq];exact HO.out
      have HBq:Hid (Below (w.heap.size+1) (w.alloc (.cells #[iv t,iv m] 213)) wq):=by rw[hwq];exact below_drewN HB.out _
      have hszq:w.heap.size+1<=wq.heap.size:=by rw[hwq];exact hsz
      have h1q:wq.cell? ⟨b,o+k * 2,none⟩=some (.int .i64 t'):=by rw[hwq];exact h1
      have h2q:wq.cell? ⟨b,o+k * 2+1,none⟩=some (.int .i64 m'):=by rw[hwq];exact h2
      have b0q:wq.cell? ⟨w.heap.size,0,none⟩=some (.int .i64 t):=by rw[hwq];exact b0
      have b1q:wq.cell? ⟨w.heap.size,1,none⟩=some (.int .i64 m):=by rw[hwq];exact b1
      rw[<-hwq];clear hwq h1 h2 b0 b1 HO HB hsz;go_wp2
      go_quiet (fail)
      obtain⟨w3,hw3⟩:=nm_ (wq.drewN nq);have HO3:Hid (w3.ownsRow (w.heap.size+1) 213 2 (.slice y no cp) no (prs os)):=by rw[hw3];exact HOq.out
      have HB3:Hid (Below (w.heap.size+1) (w.alloc (.cells #[iv t,iv m] 213)) w3):=by rw[hw3];exact below_drewN HBq.out _
      have hsz3:w.heap.size+1<=w3.heap.size:=by rw[hw3];exact hszq
      have h1r:w3.cell? ⟨b,o+k * 2,none⟩=some (.int .i64 t'):=by rw[hw3];exact h1q
      have h2r:w3.cell? ⟨b,o+k * 2+1,none⟩=some (.int .i64 m'):=by rw[hw3];exact h2q
      have b0r:w3.cell? ⟨w.heap.size,0,none⟩=some (.int .i64 t):=by rw[hw3];exact b0q
      have b1r:w3.cell? ⟨w.heap.size,1,none⟩=some (.int .i64 m):=by rw[hw3];exact b1q
      rw[<-hw3];clear hw3 h1q h2q b0q b1q HOq HBq hszq
      go_wp2_with (first|(at_builtin;refine wpList_append_own _ rfl _ _ 39 rfl (w.heap.size+1) 213 i0 (.agg #[iv 0,iv 0]) 2 16 underlying39 hi hz0 hz1 hz2 rfl dc_ _ _ _ rfl (HO3.out.alloc _) ⟨w3.heap.size,0,none⟩ 1 1 [iv t,iv m] rfl rfl (dI _ _ _ _) (by simp[Value.oneCell']) (by unfold maxLen;omega) o_ (by simp;omega) ?_;intro v1 w1 ho1 hg1 _;obtain⟨g_v1,c_v1,rfl,_,_⟩:=World.ownsRow.form ho1 (Nat.succ_pos _);have c_1:=uO h1r hb1 HO3.out hg1;have c_2:=uO h2r hb1 HO3.out hg1;have sz1:=hg1.size;simp only[World.size_alloc]at sz1;clear h1r h2r)|(at_builtin;refine wpList_append_own _ rfl _ _ 39 rfl (w.heap.size+1) 213 i0 (.agg #[iv 0,iv 0]) 2 16 underlying39 hi hz0 hz1 hz2 rfl dc_ _ _ _ rfl (ho1.alloc _) ⟨w1.heap.size,0,none⟩ 1 1 [iv t',iv m'] rfl rfl (dI _ _ _ _) (by simp[Value.oneCell']) (by unfold maxLen;omega) o_ (by simp;omega) ?_;intro v2 w2 ho2 hg2 _;obtain⟨g_v2,c_v2,rfl,_,_⟩:=World.ownsRow.form ho2 (Nat.succ_pos _)))
      have o1:=fM ho1 HN.out;have o2:=fM (os:=os++[(t,m)]) (by have h:=ho2;rw[show prs os++[Value.int .i64 t,Value.int .i64 m]=prs (os++[(t,m)])from (rT os (t,m)).symm]at h;exact h) (by simp;exact HN.out);have e2:qZ ((t',m')::ps.drop (k+1)) (t,m) false=[(t,m)]++[(t',m')]++ps.drop (k+1):=by simp[qZ,dC,he,hlt2]
      rw[e2]at HPT;have B1:=bU HB3.out hsz3 HO3.out hg1;have B2:=bU B1 o_ ho1 hg2;clear e2 B1;go_roundw
      case rel=>exact⟨k+1,true,os++[(t,m)]++[(t',m')],o_,gn_,rfl,by simp;omega,o2,by rw[<-HPT.out];simp[qZ],B2⟩
      case measure=>simp[intOf];omega
  ·have hd0:ps.drop k=[]:=List.drop_of_length_le (by rw[HL.out];omega)
   rw[hd0]at HPT;clear hd0;cases dn with
   |true=>
    go_wp2;go_ret;refine⟨_,rfl,?_,HA.out.trans (HB.out.mono (Nat.le_succ _))⟩;have e:dC ps (t,m)=os:=by rw[<-HPT.out];simp[qZ]
    rw[e];have ho:=HO.out;rw[HN.out]at ho ⊢;exact aM ho (Nat.le_succ _)
   |false=>
    go_wp2_with (first|(at_builtin;refine wpList_append_own _ rfl _ _ 39 rfl (w.heap.size+1) 213 i0 (.agg #[iv 0,iv 0]) 2 16 underlying39 hi hz0 hz1 hz2 rfl dc_ _ _ _ rfl (HO.out.alloc _) ⟨wr.heap.size,0,none⟩ 1 1 [iv t,iv m] rfl rfl (dI _ _ _ _) (by simp[Value.oneCell']) (by unfold maxLen;omega) o_ (by simp;omega) ?_;intro v1 w1 ho1 hg1 _;obtain⟨g_v1,c_v1,rfl,_,_⟩:=World.ownsRow.form ho1 (Nat.succ_pos _)))
    go_ret;refine⟨_,rfl,?_,HA.out.trans ((bU HB.out hsz HO.out hg1).mono (Nat.le_succ _))⟩;have e:dC ps (t,m)=os++[(t,m)]:=by rw[<-HPT.out];simp[qZ,dC]
    rw[e];exact (fM ho1 HN.out).base (Nat.le_succ _)
theorem aA7 (w:World) (v:Value) (ps:List Pr) (t m:Int) (hp:Prs w v ps) (hn:ps.length<=100) (hm:∀i,i<ps.length->0<=(pr ps i).2/\(pr ps i).2<=100000) (m0:0<=m) (m1:m<=100000):
  Calls prog 226 #[v,.agg #[iv t,iv m]] w fun e w'=>∃v,e=.returned v/\aF w' w.heap.size v (dC ps (t,m))/\Below w.heap.size w w':=by
 obtain⟨x,c,rfl,_,_⟩:=hp.form;exact aKF w x _ c ps t m rfl hp hn hm m0 m1
def bP (W:World) (b:Nat) (t:TypeId) (x y z:Value):Prop:=W.heap[b]? =some (.cells #[x,y,z] t (0,0))
section
variable {W W':World} {b:Nat} {t:TypeId} {x y z:Value}
theorem bP.lt (h:bP W b t x y z):b<W.heap.size:=(Array.getElem?_eq_some_iff.1 h).1
theorem bP.new (W:World) (t:TypeId) (x y z:Value):bP (W.alloc (.cells #[x,y,z] t)) W.heap.size t x y z:=heap_alloc_new W _
theorem bP.below (h:bP W b t x y z) {B:Nat} (hb:Below B W W') (hB:b<B):bP W' b t x y z:=(hb.block b hB).trans h
theorem bP.later (h:bP W b t x y z) (hb:Below W.heap.size W W'):bP W' b t x y z:=h.below hb h.lt
theorem bP.drew (h:bP W b t x y z):bP W.drew b t x y z:=h
theorem bP.alloc (h:bP W b t x y z) (o:Obj):bP (W.alloc o) b t x y z:=h.later ((Below.refl _ _).alloc lr_ o)
theorem bP.kept {row:Option Nat} (h:bP W b t x y z) (hg:W.grownBy W' row) (hr:row≠some b):bP W' b t x y z:=(hg.block b h.lt (fun e=>hr e.symm)).trans h
theorem bP.cell0 (h:bP W b t x y z):W.cell? ⟨b,0,none⟩=some x:=by unfold bP at h;simp[World.cell?,h]
theorem bP.cell1 (h:bP W b t x y z):W.cell? ⟨b,1,none⟩=some y:=by unfold bP at h;simp[World.cell?,h]
theorem bP.cell2 (h:bP W b t x y z):W.cell? ⟨b,2,none⟩=some z:=by unfold bP at h;simp[World.cell?,h]
theorem bP.free (h:bP W b t x y z) (i:Nat):W.frozen? ⟨b,i,none⟩=false:=by unfold bP at h;simp[World.frozen?,h]
theorem bP.set0 (h:bP W b t x y z) (u:Value):bP (W.setCell ⟨b,0,none⟩ u) b t u y z:=by unfold bP at h ⊢;rw[heap_setCell_same W b 0 _ _ _ h];rfl
theorem bP.set1 (h:bP W b t x y z) (u:Value):bP (W.setCell ⟨b,1,none⟩ u) b t x u z:=by unfold bP at h ⊢;rw[heap_setCell_same W b 1 _ _ _ h];rfl
theorem bP.set2 (h:bP W b t x y z) (u:Value):bP (W.setCell ⟨b,2,none⟩ u) b t x y u:=by unfold bP at h ⊢;rw[heap_setCell_same W b 2 _ _ _ h];rfl
theorem bP.set (h:bP W b t x y z) (x' y' z':Value):bP (((W.setCell ⟨b,0,none⟩ x').setCell ⟨b,1,none⟩ y').setCell ⟨b,2,none⟩ z') b t x' y' z':=((h.set0 x').set1 y').set2 z'
theorem bP.not_row {B:Nat} {e:TypeId} {size n:Nat} {v:Value} {xs:List Value} (h:bP W b t x y z) (ht:t≠e) (ho:W.ownsRow B e size v n xs):v.ownBlock≠some b:=fun hb=>by
 rcases ho.2 with ⟨rfl,_⟩|⟨g,cap,cur,rfl,_,hg,_⟩
 ·cases hb
 ·obtain rfl:g=b:=by simpa[Value.ownBlock]using hb
  unfold bP at h;rw[hg]at h;cases h;exact ht rfl
end
theorem cT {B b:Nat} {w W:World} (h:Below B w W) (hb:B<=b) (x y z:Value):Below B w (((W.setCell ⟨b,0,none⟩ x).setCell ⟨b,1,none⟩ y).setCell ⟨b,2,none⟩ z):=((h.setCell hb _).setCell hb _).setCell hb _
theorem aF.set3 {W:World} {B b:Nat} {v:Value} {ps:List Pr} (h:aF W B v ps) (hv:v.ownBlock≠some b) (x y z:Value):aF (((W.setCell ⟨b,0,none⟩ x).setCell ⟨b,1,none⟩ y).setCell ⟨b,2,none⟩ z) B v ps:=
 ((h.keep (aA W ⟨b,0,none⟩ x) hv).keep (aA _ ⟨b,1,none⟩ y) hv).keep (aA _ ⟨b,2,none⟩ z) hv
def cF (ps:List Pr) (v:Int):Nat:=(ps.filter fun p=>decide (v<=p.2)).length
def kE (ps:List Pr):Nat->Int
 | 0=>0
 |k+1=>if 4<cF ps (pr ps k).2 then max (kE ps k) (pr ps k).2 else kE ps k
def bN (ps:List Pr):Int:=kE ps ps.length
theorem vU (ps:List Pr) (v:Int):cF ps v<=ps.length:=List.length_filter_le _ _
theorem aGc (ps:List Pr) (k:Nat) (v:Int) (h:k<ps.length):cF (ps.take (k+1)) v=cF (ps.take k) v+if v<=(pr ps k).2 then 1 else 0:=by
 rw[dV ps k h];unfold cF;rw[List.filter_append,List.length_append]
 by_cases h:v<=(pr ps k).2<;>simp[h]
theorem aEg {ps:List Pr} {M:Int} {k:Nat} (hM:0<=M) (hk:k<=ps.length) (h:∀i,i<ps.length->0<=(pr ps i).2/\(pr ps i).2<=M):0<=kE ps k/\kE ps k<=M:=by
 induction k with
 |zero=>exact⟨Int.le_refl _,hM⟩
 |succ k ih=>
  have:=ih o_;have:=h k o_;unfold kE
  split<;>omega
theorem aAG {ps:List Pr} {M:Int} (hM:0<=M) (h:∀i,i<ps.length->0<=(pr ps i).2/\(pr ps i).2<=M):0<=bN ps/\bN ps<=M:=aEg hM lr_ h
theorem aIV (w:World) (x:Option Addr) (n c:Nat) (ps:List Pr) (hl:ps.length=n) (hp:Prs w (.slice x n c) ps) (hn:n<=100) (hm:∀i,i<n->0<=(pr ps i).2/\(pr ps i).2<=100000):
  Calls prog 278 #[.slice x n c] w fun e w'=>e=.returned (iv (bN ps))/\Below w.heap.size w w':=by
 have HP:=hd_ hp.cells;have HL:=hd_ hl;have HM:=hd_ hm;clear hl hp hm;go_enter func278,ntmps278;go_wp2;go_loopw [3,4] (fun q i wr=>∃k:Nat,k<=n/\i=.int .i64 k/\q=.int .i64 (kE ps k)/\Below w.heap.size w wr) (fun _ i _=>n - (intOf i).toNat)
 case atStart=>exact⟨0,Nat.zero_le _,rfl,rfl,Below.refl _ _⟩
 case round=>
  obtain⟨k,hk,rfl,rfl,hbl⟩:=hrel;have HB:=hd_ hbl;have ob:=aEg (ps:=ps) (M:=100000) (k:=k) o_ (by rw[HL.out];exact hk) (fun i hi=>HM.out i (by rw[HL.out]at hi;exact hi));clear hbl
  by_cases hlt:k<n
  ·obtain⟨b,o,rfl,hb,g1,g2⟩:=HP.out k (by rw[HL.out];exact hlt)
   have G2:=hd_ g2;have hmk:=HM.out k hlt;have hov:Hid (kE ps (k+1)=if 4<cF ps (pr ps k).2 then max (kE ps k) (pr ps k).2 else kE ps k):=by show kE _ _=_;rfl
   have k0:(0:Int)<=(k:Int):=o_;have kn:(k:Int)<(n:Int):=o_;obtain⟨wo,rfl⟩:∃wo:World,wo=wr:=⟨_,rfl⟩
   generalize (pr ps k).2=v at G2 hmk hov;clear g1 g2;go_wp2;go_loopw [5,6] (fun q i wr=>∃j:Nat,j<=n/\i=.int .i64 j/\q=.int .i64 (cF (ps.take j) v)/\Below wo.heap.size wo wr) (fun _ i _=>n - (intOf i).toNat)
   case atStart=>exact⟨0,Nat.zero_le _,rfl,rfl,Below.refl _ _⟩
   case round=>
    obtain⟨j,hj,rfl,rfl,hbj⟩:=hrel;have HJ:=hd_ hbj;have FB:=hd_ (HB.out.trans (hbj.mono HB.out.size));have cb:=vU (ps.take j) v;have cl:(ps.take j).length<=100:=by have:=HL.out;simp;omega
    have g2w:wr.cell? ⟨b,o+k * 2+1,none⟩=some (.int .i64 v):=(FB.out.cell (p:=⟨b,o+k * 2+1,none⟩) hb).trans G2.out;clear hbj
    by_cases hjl:j<n
    ·obtain⟨b',o',e',hb',h1,h2⟩:=HP.out j (by rw[HL.out];exact hjl)
     cases e';have h2w:=(FB.out.cell (p:=⟨b,o+j * 2+1,none⟩) hb).trans h2;have hc:=hd_ (aGc ps j v (by rw[HL.out];exact hjl));have hmj:=HM.out j hjl;generalize (pr ps j).2=u at h2w hc hmj;generalize cF (ps.take j) v=C at *;have j0:(0:Int)<=(j:Int):=o_;have jn:(j:Int)<(n:Int):=o_;clear h1 h2
     by_cases hvu:v<=u
     ·rw[if_pos hvu]at hc
      go_wp2
      go_quiet (fail)
      go_wp2;go_roundw
      case rel=>exact⟨j+1,o_,gn_,by rw[hc.out];go_num,below_drewN HJ.out _⟩
      case measure=>simp[intOf];omega
     ·rw[if_neg hvu]at hc
      go_wp2
      go_quiet (fail)
      go_wp2;go_roundw
      case rel=>exact⟨j+1,o_,gn_,by rw[hc.out];rfl,below_drewN HJ.out _⟩
      case measure=>simp[intOf];omega
    ·obtain rfl:j=n:=o_
     have e1:ps.take j=ps:=List.take_of_length_le (by rw[HL.out];exact Nat.le_refl _);rw[e1]at cb ⊢;generalize cF ps v=C at *;clear e1 cl
     by_cases h4:4<C
     ·rw[if_pos h4]at hov
      go_wp2;go_roundw
      case rel=>exact⟨k+1,o_,gn_,by rw[hov.out]<;>first|rfl|(congr 1;omega)|(congr 1;simp[Int.max_def];omega),FB.out⟩
      case measure=>simp[intOf];omega
     ·rw[if_neg h4]at hov
      go_wp2;go_roundw
      case rel=>exact⟨k+1,o_,gn_,by rw[hov.out],FB.out⟩
      case measure=>simp[intOf];omega
  ·obtain rfl:k=n:=o_
   go_wp2;go_ret;exact⟨iW (by unfold bN;rw[HL.out]),HB.out⟩
theorem aIq (w:World) (v:Value) (ps:List Pr) (hp:Prs w v ps) (hn:ps.length<=100) (hm:∀i,i<ps.length->0<=(pr ps i).2/\(pr ps i).2<=100000):
  Calls prog 278 #[v] w fun e w'=>e=.returned (iv (bN ps))/\Below w.heap.size w w':=by
 obtain⟨x,c,rfl,_,_⟩:=hp.form;exact aIV w x _ c ps rfl hp hn hm
end Go.Proofs.YtcblbdpdbggkbaaGreat.T
namespace Go.Proofs.YtcblbdpdbggkbaaGreat.T
open _root_.Go.Proofs.Tryz
open Go.RowKit Go.Sort Go.Shelf
def aI2:Go.Shelf.Ren:=⟨fun| 20=>325|n=>n,fun| 24=>213| 22=>39| 3=>3| 25=>321| 4=>4| 0=>0|n=>n,fun|n=>n⟩
theorem aM5:Go.Proofs.SlLaysF0.n20 prog aI2:={
  mixed:=by kernel_rfl
  f20:=⟨Tryz.f325.name,by decide,func325.trans (congrArg some kr_)⟩
  t0:=underlying0
  a0:=Tryz.isAgg0
  z0:=Tryz.sizeOf0
  v0:=Tryz.zeroValue0
  t3:=underlying3
  a3:=Tryz.isAgg3
  z3:=Tryz.sizeOf3
  v3:=Tryz.zeroValue3
  t4:=underlying4
  a4:=Tryz.isAgg4
  z4:=Tryz.sizeOf4
  v4:=Tryz.zeroValue4
  t22:=underlying39
  a22:=Tryz.isAgg39
  z22:=Tryz.sizeOf39
  v22:=Tryz.zeroValue39
  t25:=underlying321
  a25:=Tryz.isAgg321
  z25:=Tryz.sizeOf321
  v25:=Tryz.zeroValue321 }
def nX (a b:Int):Int:=if a<b then -1 else if b<a then 1 else 0
theorem aAC (a b:Int) (w:World):Calls prog 314 #[iv a,iv b] w fun e w'=>e=.returned (iv (nX a b))/\w=w':=by
 have e1:(a != a)=false:=by simp
 have e2:(b != b)=false:=by simp
 rcases (by omega:a<b\/a=b\/b<a)with h|h|h
 ·have e:nX a b= -1:=if_pos h
  rw[e];clear e;go_enter func314,ntmps314;exact zt
 ·subst h
  have e:nX a a=0:=by simp[nX]
  rw[e];clear e;go_enter func314,ntmps314;exact zt
 ·have e:nX a b=1:=by simp[nX,h];omega
  have h':¬a<b:=o_;rw[e];clear e;go_enter func314,ntmps314;exact zt
def orV (a b:Int):Int:=if a=0 then b else a
theorem aNa (g:Nat) (a b:Int) (w:World) (h0:w.cell? ⟨g,0,none⟩=some (.int .i64 a)) (h1:w.cell? ⟨g,1,none⟩=some (.int .i64 b)):
  Calls prog 315 #[.slice (some ⟨g,0,none⟩) 2 2] w fun e w'=>e=.returned (iv (orV a b))/\w=w':=by
 by_cases ha:a=0
 ·subst ha
  rw[show orV 0 b=b from if_pos rfl]
  by_cases hb:b=0
  ·subst hb
   go_enter func315,ntmps315;go_wp2;refine wp_loop_rounds 3 ?_;rw[rounds_succ];go_wp2;rw[rounds_succ];go_wp2;rw[rounds_succ];exact zt
  ·have e1:(b != 0)=true:=by simpa using hb
   have e2:decide (b=0)=false:=by simpa using hb
   clear hb;go_enter func315,ntmps315;go_wp2;refine wp_loop_rounds 2 ?_;rw[rounds_succ];go_wp2;rw[rounds_succ];exact zt
 ·have e1:(a != 0)=true:=by simpa using ha
  have e2:decide (a=0)=false:=by simpa using ha
  rw[show orV a b=a from if_neg ha];clear ha;go_enter func315,ntmps315;exact zAJ
def lX (p:Pr):List Value:=[iv p.1,iv p.2]
theorem rA (x y:Pr) (w:World):Calls prog 301 #[.agg #[iv x.1,iv x.2],.agg #[iv y.1,iv y.2]] w fun e w'=>e=.returned (iv (nX x.1 y.1))/\
  (w.alloc (.cells #[iv x.1,iv x.2] 213)).alloc (.cells #[iv y.1,iv y.2] 213)=w':=by
 obtain⟨a,b⟩:=x;obtain⟨c,d⟩:=y;simp only;have K:Hid (∀W,Calls prog 314 #[iv a,iv c] W fun e w'=>e=.returned (iv (nX a c))/\W=w'):=fun W=>aAC a c W
 generalize nX a c=V at K ⊢;go_enter func301,ntmps301
 go_wp2_with fail
 refine (K.out _).mono ?_;rintro e w1 ⟨rfl,rfl⟩;go_wp2;go_ret;exact⟨rfl,rfl⟩
def aAr (x y:Pr):Int:=orV (nX y.2 x.2) (nX x.1 y.1)
theorem aBE (x y:Pr) (w:World):Calls prog 302 #[.agg #[iv x.1,iv x.2],.agg #[iv y.1,iv y.2]] w fun e w'=>e=.returned (iv (aAr x y))/\∃q os,w'=grow (w.drewN q) os:=by
 obtain⟨a,b⟩:=x;obtain⟨c,d⟩:=y;have K:Hid (∀W,Calls prog 314 #[iv d,iv b] W fun e w'=>e=.returned (iv (nX d b))/\W=w'):=fun W=>aAC d b W
 have KT:Hid (∀W,Calls prog 301 #[.agg #[iv a,iv b],.agg #[iv c,iv d]] W fun e w'=>e=.returned (iv (nX a c))/\
    (W.alloc (.cells #[iv a,iv b] 213)).alloc (.cells #[iv c,iv d] 213)=w'):=fun W=>rA (a,b) (c,d) W
 show Calls _ _ #[.agg #[iv a,iv b],.agg #[iv c,iv d]] _ fun e w'=>e=.returned (iv (orV (nX d b) (nX a c)))/\_
 generalize nX d b=V at K ⊢;generalize nX a c=U at KT ⊢;have KO:Hid (∀W g,W.cell? ⟨g,0,none⟩=some (.int .i64 V)->W.cell? ⟨g,1,none⟩=some (.int .i64 U)->Calls prog 315 #[.slice (some ⟨g,0,none⟩) 2 2] W fun e w'=>e=.returned (iv (orV V U))/\W=w'):=fun W g h0 h1=>aNa g V U W h0 h1
 generalize orV V U=Z at KO ⊢;obtain⟨W0,hW0⟩:=nm_ ((w.alloc (.cells #[iv a,iv b] 213)).alloc (.cells #[iv c,iv d] 213));have G0:Hid (∃os,W0=grow w os):=by show ∃os,_;rw[hW0,alloc_eq_grow,alloc_eq_grow,grow_grow];exact⟨_,rfl⟩
 have c0:W0.cell? ⟨w.heap.size,0,none⟩=some (.int .i64 a)/\W0.cell? ⟨w.heap.size,1,none⟩=some (.int .i64 b):=by constructor<;>(rw[hW0,World.cell?_alloc_past (hn:=by simp)];simp)
 have c1:W0.cell? ⟨w.heap.size+1,0,none⟩=some (.int .i64 c)/\W0.cell? ⟨w.heap.size+1,1,none⟩=some (.int .i64 d):=by constructor<;>(rw[hW0,World.cell?_alloc_at (hn:=by simp)];simp)
 have far:∀(p:Addr) v o,W0.cell? p=some v->(W0.alloc o).cell? p=some v:=fun p v o h=>(World.cell?_alloc_lt (h:=World.block_lt_of_cell? _ _ h) ..).trans h
 have far2:∀(p:Addr) v o o',W0.cell? p=some v->((W0.alloc o).alloc o').cell? p=some v:=fun p v o o' h=>(World.cell?_alloc_lt (h:=World.block_lt_of_cell? _ _ (far p v o h)) ..).trans (far p v o h)
 have F2:=hd_ far2;have HW0:=hd_ hW0;obtain⟨x0,x1⟩:=c0;obtain⟨y0,y1⟩:=c1;have a0:=fun o o'=>F2.out _ _ o o' x0
 have a1:=fun o o'=>F2.out _ _ o o' x1
 have b0:=fun o o'=>F2.out _ _ o o' y0
 have b1:=fun o o'=>F2.out _ _ o o' y1
 have n0:∀o o',(((W0.alloc o).alloc o').alloc (.cells #[iv V,iv U] 3)).cell? ⟨W0.heap.size+1+1,0,none⟩=some (.int .i64 V):=fun o o'=>by rw[World.cell?_alloc_at (hn:=by simp)];simp
 have n1:∀o o',(((W0.alloc o).alloc o').alloc (.cells #[iv V,iv U] 3)).cell? ⟨W0.heap.size+1+1,1,none⟩=some (.int .i64 U):=fun o o'=>by rw[World.cell?_alloc_at (hn:=by simp)];simp
 clear hW0 far far2;go_enter func302,ntmps302
 go_wp2_with fail
 rw[<-HW0.out];clear HW0
 go_wp2_with fail
 go_region_held3 (fun w'=>w'.cell? ⟨w.heap.size,0,none⟩=some (.int .i64 a)/\w'.cell? ⟨w.heap.size,1,none⟩=some (.int .i64 b)/\w'.cell? ⟨w.heap.size+1,0,none⟩=some (.int .i64 c)/\w'.cell? ⟨w.heap.size+1,1,none⟩=some (.int .i64 d)) (go_keep)
  (first
      |(go_at_call 314;refine (K.out _).mono ?_;rintro e w1 ⟨rfl,rfl⟩)
      |(go_at_call 301;refine (KT.out _).mono ?_;rintro e w1 ⟨rfl,rfl⟩)
      |(go_at_call 315;refine (KO.out _ _ (by simpa using n0 _ _) (by simpa using n1 _ _)).mono ?_;rintro e w1 ⟨rfl,rfl⟩))
 all_goals
  go_wp2;go_ret;obtain⟨os,hg⟩:=G0.out;exact⟨rfl,1,_,by rw[hg,alloc_eq_grow,alloc_eq_grow,alloc_eq_grow,grow_grow,grow_grow,grow_grow];rfl⟩
theorem aFz (ps:List Pr):flatK lX 2 ps.toArray=(prs ps).toArray:=by
 apply ext_get!
 ·simp[eZ]
 ·intro t ht
  simp only[size_flatK,List.size_toArray]at ht;rw[get_flatK lX 2 ps.toArray t (by simpa using ht)];have hi:t / 2<ps.length:=o_;have hg:=oM ps (t / 2) hi;have e1:ps.toArray[t / 2]! =pr ps (t / 2):=by
   rw[getElem!_pos _ _ (by simpa using hi)];simp[pr,hi]
  rw[e1];have hl:t<(prs ps).length:=by rw[eZ];exact ht
  have key:(prs ps)[t]? =some ((lX (pr ps (t / 2)))[t % 2]!):=by
   rcases (by omega:t % 2=0\/t % 2=1)with h|h
   ·rw[show t=t / 2 * 2 by omega,hg.1,show t / 2 * 2 / 2=t / 2 by omega,show t / 2 * 2 % 2=0 by omega];rfl
   ·rw[show t=t / 2 * 2+1 by omega,hg.2,show (t / 2 * 2+1) / 2=t / 2 by omega,show (t / 2 * 2+1) % 2=1 by omega];rfl
  rw[getElem!_pos (prs ps).toArray t (by simpa using hl)];rw[List.getElem?_eq_getElem hl]at key;simpa using (Option.some.inj key).symm
theorem aF.holds {w:World} {B g n c:Nat} {ps:List Pr} (h:aF w B (.slice (some ⟨g,0,none⟩) n c) ps):HoldsK lX 2 w g 0 ps.toArray/\g<w.heap.size/\B<=g/\n=ps.length:=by
 rcases h.2 with ⟨e,_⟩|⟨g',cap,cur,e,hb,hg,hn,hc,hs,ht⟩
 ·cases e
 ·obtain⟨e1,rfl,rfl⟩:=Value.slice.inj e
  have e2:g=g':=by simpa using e1
  subst e2;have hl:=(Array.getElem?_eq_some_iff.1 hg).1;refine⟨?_,hl,hb,rfl⟩;unfold HoldsK;rw[aFz];intro j hj;simp only[List.size_toArray]at hj
  constructor
  ·have:=World.ownsRow.cells h (g:=g) rfl j ((prs ps)[j]) (List.getElem?_eq_getElem hj)
   rw[gQ]at this;rw[this];simp[getElem!_pos,hj]
  ·simp[World.frozen?,hg]
theorem wW (w:World) (g n:Nat) (d:Array Pr) (os:Array Obj):w.grownBy (sortWorldK lX 2 w g 0 n d os) (some g):=by
 refine⟨rfl,rfl,rfl,size_sortWorldK_c lX 2 w g 0 n d os,fun k hk hne=>?_⟩;have hne':g≠k:=fun e=>hne (by rw[e])
 show ((w.heap.modify g _)++os)[k]? =_
 rw[Array.getElem?_append_left (by simpa using hk)];simp[Array.getElem?_modify,hne']
theorem aAS {w:World} {g c n:Nat} {d d':Array Pr} {os:Array Obj} (h:HoldsK lX 2 w g 0 d) (hg:g<w.heap.size) (hs:d'.size=d.size) (hc:d.size<=c) (hm:c<=maxLen):
  Prs (sortWorldK lX 2 w g 0 n d' os) (.slice (some ⟨g,0,none⟩) d.size c) d'.toList:=by
 have H:=holdsK_sortWorldK_c lX 2 w g 0 d d' n os h hg hs;have e:d'.toList.toArray=d':=by simp
 rw[<-e]at H;unfold HoldsK at H;rw[aFz]at H;refine .inr ⟨g,0,c,by simp[hs],by simpa[hs]using hc,hm,Nat.lt_of_lt_of_le hg (size_sortWorldK_c lX 2 w g 0 n _ os),fun i hi=>?_⟩;have hgg:=oM d'.toList i hi;have hl:=eZ d'.toList;have a:=(H (i * 2) (by simp only[List.size_toArray];omega)).1;have b:=(H (i * 2+1) (by simp only[List.size_toArray];omega)).1
 have l0:i * 2<(prs d'.toList).length:=o_;have l1:i * 2+1<(prs d'.toList).length:=o_;rw[List.getElem?_eq_getElem l0]at hgg;rw[List.getElem?_eq_getElem l1]at hgg;rw[e]at a b;refine⟨by rw[a];rw[getElem!_pos _ _ (by simpa using l0)];simpa using hgg.1,?_⟩;rw[Nat.add_assoc,b,getElem!_pos _ _ (by simpa using l1)];simpa using hgg.2
def qG (cf:Pr->Pr->Int) (qs:List Pr):Prop:=∀i j,i<j->j<qs.length->ltOf cf (pr qs j) (pr qs i)=false
theorem aKk (n:Nat) (w:World) (h:n<=8):Calls prog 164 #[.int .u64 n] w fun e w'=>(∃l:Int,e=.returned (iv l))/\w=w':=by
 rcases (by omega:n=0\/n=1\/n=2\/n=3\/n=4\/n=5\/n=6\/n=7\/n=8)with rfl|rfl|rfl|rfl|rfl|rfl|rfl|rfl|rfl
 all_goals
  clear h;go_enter func164,ntmps164;go_wp2;go_ret;exact⟨⟨_,rfl⟩,rfl⟩
section
variable (g:Nat) (cf:Pr->Pr->Int) (eg:∀args w,(callFunc g args).run prog w=.ok (.enter g args) w) (hg:∀x y W,Calls prog g #[.agg (lX x).toArray,.agg (lX y).toArray] W fun e w'=>e=.returned (iv (cf x y))/\∃q os,w'=grow (W.drewN q) os)
include eg hg
theorem aIZ (w:World) (k c:Nat) (d:Array Pr) (hH:HoldsK lX 2 w k 0 d) (hk:k<w.heap.size) (hn:d.size<=8):
  Calls prog 325 #[.slice (some ⟨k,0,none⟩) d.size c,iv 0,iv d.size,.func (.func g) #[] #[]] w fun e w'=>e=.returned (.tuple #[])/\∃n os,w'=sortWorldK lX 2 w k 0 n (Sort.insertionSort (ltOf cf) d 0 d.size) os:=by
 have h:=AnyQ.insertionSortCmpFunc aM5 2 Tryz.isAgg213 Tryz.sizeOf213 lX (fun _=>rfl) (fun x v hv=>by simp[lX]at hv;rcases hv with rfl|rfl<;>rfl) cf g #[] k 0 c 0 d.size d w eg
  (fun m os dk _ x y=>hg x y _) hH hk (Nat.zero_le _) lr_ o_
 exact h
theorem aBJ (w:World) (k c n:Nat) (d:Array Pr) (hs:d.size=n) (hH:HoldsK lX 2 w k 0 d) (hk:k<w.heap.size) (hn:n<=8):
  Calls prog 317 #[.slice (some ⟨k,0,none⟩) n c,.func (.func g) #[] #[]] w fun e w'=>e=.returned (.tuple #[])/\∃n os,w'=sortWorldK lX 2 w k 0 n (Sort.insertionSort (ltOf cf) d 0 d.size) os:=by
 have hi:Hid (Calls prog 325 #[.slice (some ⟨k,0,none⟩) n c,iv 0,iv n,.func (.func g) #[] #[]] w fun e w'=>e=.returned (.tuple #[])/\∃n os,w'=sortWorldK lX 2 w k 0 n (Sort.insertionSort (ltOf cf) d 0 d.size) os):=by
  have h:=aIZ g cf eg hg w k c d hH hk o_;rw[hs]at h ⊢;exact h
 clear hH hs;have hp:Hid (∀l:Int,Calls prog 323 #[.slice (some ⟨k,0,none⟩) n c,iv 0,iv n,iv l,.func (.func g) #[] #[]] w fun e w'=>e=.returned (.tuple #[])/\∃n os,w'=sortWorldK lX 2 w k 0 n (Sort.insertionSort (ltOf cf) d 0 d.size) os):=fun l=>by
  generalize Sort.insertionSort (ltOf cf) d 0 d.size=r at hi ⊢;go_enter func323,ntmps323;go_wp2;refine wp_loop_rounds 1 ?_;rw[rounds_succ]
  go_wp2_with fail
  refine hi.out.mono ?_;rintro e w' ⟨rfl,n',os,rfl⟩;go_wp2
  (try simp only[Exit.inBlock,Exit.then]);refine bodyPost_ret (results_none rfl _ _ _) rfl ?_
  exact⟨rfl,n',os,rfl⟩
 generalize Sort.insertionSort (ltOf cf) d 0 d.size=r at hp ⊢;have e0:IntKind.u64.wrap (n:Int)=(n:Int):=by unfold IntKind.wrap;simp[IntKind.bits,IntKind.signed];omega
 clear hi;go_enter func317,ntmps317
 go_wp2_with fail
 refine (aKk n w hn).mono ?_;rintro e w' ⟨⟨l,rfl⟩,rfl⟩
 go_wp2_with fail
 refine (hp.out l).mono ?_;rintro e w' ⟨rfl,n',os,rfl⟩;go_wp2
 go_end0
 exact⟨rfl,n',os,rfl⟩
omit eg hg in
theorem aBn (w:World):Calls prog 317 #[zn,.func (.func g) #[] #[]] w fun e w'=>e=.returned (.tuple #[])/\w=w':=by
 have hi:Hid (Calls prog 325 #[zn,iv 0,iv 0,.func (.func g) #[] #[]] w fun e w'=>e=.returned (.tuple #[])/\w=w'):=by
  show Calls _ _ _ _ _
  go_enter func325,ntmps325;go_wp2;refine wp_loop_rounds 1 ?_;rw[rounds_succ];go_wp2
  go_end0
  exact⟨rfl,rfl⟩
 have hp:Hid (∀l:Int,Calls prog 323 #[zn,iv 0,iv 0,iv l,.func (.func g) #[] #[]] w fun e w'=>e=.returned (.tuple #[])/\w=w'):=fun l=>by
  go_enter func323,ntmps323;go_wp2;refine wp_loop_rounds 1 ?_;rw[rounds_succ]
  go_wp2_with fail
  refine hi.out.mono ?_;rintro e w' ⟨rfl,rfl⟩;go_wp2
  (try simp only[Exit.inBlock,Exit.then]);refine bodyPost_ret (results_none rfl _ _ _) rfl ?_
  exact⟨rfl,rfl⟩
 go_enter func317,ntmps317
 go_wp2_with fail
 refine (aKk 0 w o_).mono ?_;rintro e w' ⟨⟨l,rfl⟩,rfl⟩
 go_wp2_with fail
 refine (hp.out l).mono ?_;rintro e w' ⟨rfl,rfl⟩;go_wp2
 go_end0
 exact⟨rfl,rfl⟩
theorem aEU (hS:SWO (ltOf cf)) (w:World) (B:Nat) (v:Value) (ps:List Pr) (h:aF w B v ps) (hn:ps.length<=8):
  Calls prog 317 #[v,.func (.func g) #[] #[]] w fun e w'=>e=.returned (.tuple #[])/\∃qs:List Pr,qs.Perm ps/\qG cf qs/\Prs w' v qs/\w.grownBy w' v.ownBlock:=by
 by_cases hv:v=.slice none 0 0
 ·subst hv
  have h0:ps=[]:=by
   rcases h.2 with ⟨_,h0⟩|⟨g',cap,cur,e,_⟩
   ·exact List.eq_nil_of_length_eq_zero h0
   ·cases e
  subst h0;refine (aBn g w).mono fun e w' ⟨he,hw⟩=>⟨he,[],List.Perm.refl _,fun i j _ hj=>(by cases hj),.inl ⟨rfl,rfl⟩,?_⟩
  subst hw;exact eS _ _
 ·rcases h.2 with ⟨e,_⟩|⟨k,c,cur,e,_,_,hnc,hcm,_⟩
  ·exact absurd e hv
  ·subst e
   have hh:=h.holds;refine (aBJ g cf eg hg w k c ps.length ps.toArray (by simp) hh.1 hh.2.1 hn).mono fun e w' ⟨he,n,os,hw⟩=>⟨he,?_⟩
   have hi:=insertionSort_holds (lt:=ltOf cf) hS ps.toArray 0 ps.toArray.size (Nat.zero_le _) lr_;obtain⟨⟨hsz,_,hperm⟩,hsrt⟩:=hi;generalize Sort.insertionSort (ltOf cf) ps.toArray 0 ps.toArray.size=d' at hw hsz hperm hsrt;subst hw;have hp:=aAS (n:=n) (os:=os) (c:=c) hh.1 hh.2.1 hsz (by simpa using hnc) hcm
   refine⟨d'.toList,?_,?_,by simpa using hp,by simpa[Value.ownBlock]using wW w k n d' os⟩
   ·have e1:(d'.extract 0 ps.toArray.size).toList=d'.toList:=by simp[<-hsz]
    have e2:(ps.toArray.extract 0 ps.toArray.size).toList=ps:=by simp
    rw[e1,e2]at hperm;exact hperm
   ·intro i j hij hj
    have h2:=hsrt i j (Nat.zero_le _) hij (by rw[<-hsz];simpa using hj);have f:∀k,k<d'.toList.length->pr d'.toList k=d'[k]! :=fun k hk=>by
     have hk':k<d'.size:=by simpa using hk
     rw[getElem!_pos d' k hk'];simp[pr,List.getD_eq_getElem?_getD,hk']
    rw[f j hj,f i o_];exact h2
end
end Go.Proofs.YtcblbdpdbggkbaaGreat.T
namespace Go.Proofs.YtcblbdpdbggkbaaGreat.T
open _root_.Go.Proofs.Tryz
open Go.RowKit Go.Shelf
attribute [local go_sem] Oper.semAt_some
def InP (n₀:Nat) (w:World) (v:Value) (ps:List Pr):Prop:=
 (v=.slice none 0 0/\ps=[])\/
 ∃b o c,v=.slice (some ⟨b,o,none⟩) ps.length c/\ps.length<=c/\c<=maxLen/\b<n₀/\∀i,i<ps.length->w.cell? ⟨b,o+i * 2,none⟩=some (.int .i64 (pr ps i).1)/\w.cell? ⟨b,o+i * 2+1,none⟩=some (.int .i64 (pr ps i).2)
theorem InP.below {n₀:Nat} {w w':World} {v:Value} {ps:List Pr} (h:InP n₀ w v ps) (hb:Below n₀ w w'):InP n₀ w' v ps:=by
 rcases h with h|⟨b,o,c,e,h1,h2,h3,h4⟩
 ·exact .inl h
 ·exact .inr ⟨b,o,c,e,h1,h2,h3,fun i hi=>⟨(hb.cell (p:=⟨b,o+i * 2,none⟩) h3).trans (h4 i hi).1,(hb.cell (p:=⟨b,o+i * 2+1,none⟩) h3).trans (h4 i hi).2⟩⟩
theorem Prs.inP {w:World} {v:Value} {ps:List Pr} (h:Prs w v ps):InP w.heap.size w v ps:=h
theorem aCJ (n:Nat) (hn:1<=n) (l Bs n₀ b off len cap:Nat) (ps:List Pr) (hl:ps.length=len) (hm:len<=1000) (hb:b<n₀) (J Jx:List Pr->World->Prop)
  (hY:∀pre (x:Pr) W,J pre W->pre.length<len->YieldAt Fence.wide (n - 1) prog l #[.agg #[iv x.1,iv x.2]] W fun e W'=>
      (e=.returned (.bool true)/\J (pre++[x]) W'/\Below n₀ W W')\/(e=.returned (.bool false)/\Jx (pre++[x]) W'))
  (hJa:∀s W1 o,J s W1->J s (W1.alloc o)) (W:World) (hW:n₀<=W.heap.size) (hBs:W.cell? ⟨Bs,0,none⟩=some (.slice (some ⟨b,off,none⟩) len cap))
  (hc:∀i,i<len->W.cell? ⟨b,off+i * 2,none⟩=some (.int .i64 (pr ps i).1)/\W.cell? ⟨b,off+i * 2+1,none⟩=some (.int .i64 (pr ps i).2)) (h0:J [] W):
  CallsIn Fence.wide n prog 318 #[.func (.yield l) #[] #[],.pointer (some ⟨Bs,0,none⟩)] W fun e W'=>(∃v,e=.returned v)/\
   ((∃ys,ys=ps/\J ys W')\/(∃pre,pre<+:ps/\Jx pre W')):=by
 have HY:=hd_ hY;have HA:=hd_ hJa;have HC:=hd_ hc;have HL:=hd_ hl;have H0:=hd_ h0;clear hY hJa hc hl h0;refine callsIn_of_wp func318 rfl trivial ?_ rfl;simp only[ntmps318,List.size_toArray,List.length_cons,List.length_nil,Nat.reduceAdd,Nat.reduceSub,Array.replicate_succ,Array.replicate_zero,List.push_toArray,List.append_toArray,List.nil_append,List.cons_append]
 gi_wp2
 gi_loopw [7] (fun i wr=>∃k:Nat,k<=len/\i=.int .i64 k/\J (ps.take k) wr/\Below n₀ W wr)
  (fun i _=>len - (intOf i).toNat)
 case atStart=>exact⟨0,Nat.zero_le _,rfl,by simpa using H0.out,Below.refl _ _⟩
 case round=>
  obtain⟨k,hk,rfl,hJs,hnx⟩:=hrel;have HJ:=hd_ hJs;have HX:=hd_ hnx;have hsz:=hnx.size;clear hJs hnx
  by_cases hlt:k<len
  ·have h1:=(HX.out.cell (p:=⟨b,off+k * 2,none⟩) hb).trans (HC.out k hlt).1
   have h2:=(HX.out.cell (p:=⟨b,off+k * 2+1,none⟩) hb).trans (HC.out k hlt).2;have hs:Hid (ps.take (k+1)=ps.take k++[pr ps k]):=dV ps k (by rw[HL.out];exact hlt);have HLt:Hid ((ps.take k).length<len):=by show _<_;have:=HL.out;simp;omega
   generalize pr ps k=q at h1 h2 hs;obtain⟨t,m⟩:=q;simp only at h1 h2;obtain⟨fn,tmps,assign,body,hy,hR⟩:=HY.out (ps.take k) (t,m) (wr.alloc (.cells #[iv t,iv m] 213)) (HA.out _ _ _ HJ.out) HLt.out;dsimp only at hy
   gi_wp2
   refine hR.mono ?_;rintro e W3 (⟨rfl,hJ3,hk3⟩|⟨rfl,hJx3⟩)
   ·have B3:=hd_ (hk3)
    have J3:=hd_ hJ3;clear hk3 hJ3 hR hy
    gi_wp2
    go_roundw
    case rel=>exact⟨k+1,o_,by simp,by rw[hs.out];exact J3.out,(HX.out.alloc o_ _).trans B3.out⟩
    case measure=>simp[intOf];omega
   ·have JX:=hd_ hJx3
    have PF:Hid (ps.take k++[(t,m)]<+:ps):=by show _<+:_;rw[<-hs.out];exact List.take_prefix _ _
    clear hJx3 hR hy
    gi_wp2
    refine bodyPost_ret (results_none rfl _ _ _) rfl ?_;exact⟨⟨_,rfl⟩,.inr ⟨_,PF.out,JX.out⟩⟩
  ·obtain rfl:k=len:=o_
   have e1:ps.take k=ps:=List.take_of_length_le (by rw[HL.out];exact Nat.le_refl _);have E1:=hd_ e1;clear e1
   gi_wp2
   go_end0
   exact⟨⟨_,rfl⟩,.inl ⟨ps,rfl,by have h:=HJ.out;rw[E1.out]at h;exact h⟩⟩
theorem aE2 (n:Nat) (l Bs:Nat) (J:List Pr->World->Prop) (W:World) (hBs:W.cell? ⟨Bs,0,none⟩=some (.slice none 0 0)) (h0:J [] W):
  CallsIn Fence.wide n prog 318 #[.func (.yield l) #[] #[],.pointer (some ⟨Bs,0,none⟩)] W fun e W'=>(∃v,e=.returned v)/\J [] W':=by
 have H0:=hd_ h0;clear h0;refine callsIn_of_wp func318 rfl trivial ?_ rfl;simp only[ntmps318,List.size_toArray,List.length_cons,List.length_nil,Nat.reduceAdd,Nat.reduceSub,Array.replicate_succ,Array.replicate_zero,List.push_toArray,List.append_toArray,List.nil_append,List.cons_append]
 gi_wp2
 gi_loopw [7] (fun i wr=>i=.int .i64 0/\J [] wr) (fun _ _=>0)
 case atStart=>exact⟨rfl,H0.out⟩
 case round=>
  obtain⟨rfl,hJs⟩:=hrel;have HJ:=hd_ hJs;clear hJs
  gi_wp2
  go_end0
  exact⟨⟨_,rfl⟩,HJ.out⟩
theorem aDD (n:Nat) (hn:1<=n) (Bs n₀:Nat) (v:Value) (ps:List Pr) (hm:ps.length<=1000) (w:World) (hBs:Bs<w.heap.size) (hn₀:n₀<=w.heap.size) (hc:w.cell? ⟨Bs,0,none⟩=some v) (hI:InP n₀ w v ps):
  SeqStopsK Fence.wide n prog 318 #[.pointer (some ⟨Bs,0,none⟩)] (fun x:Pr=>#[.agg #[iv x.1,iv x.2]]) (Below n₀) (fun ys=>ys=ps) (fun pre=>pre<+:ps) ps.length w:=fun l J Jx W hW hJ _ hY h0=>by
 have hc':=(hW.cell (p:=⟨Bs,0,none⟩) hBs).trans hc;have hJa:∀s W1 o,J s W1->J s (W1.alloc o):=fun s W1 o h=>hJ s W1 _ none h (World.grownBy_alloc W1 o none) (fun r e=>by cases e)
 rcases hI.below (hW.mono hn₀)with ⟨rfl,rfl⟩|⟨b,off,cap,rfl,h1,h2,hb,hcs⟩
 ·exact (aE2 n l Bs J W hc' h0).mono fun e W' ⟨he,hj⟩=>⟨he,.inl ⟨_,rfl,hj⟩⟩
 ·exact aCJ n hn l Bs n₀ b off ps.length cap ps rfl hm hb J Jx hY hJa W (Nat.le_trans hn₀ hW.size) hc' hcs h0
def aS (W:World) (B:Nat) (x:Pr):Prop:=W.heap[B]? =some (.cells #[iv x.1,iv x.2] 213 (0,0))
theorem aS.cell0 {W:World} {B:Nat} {x:Pr} (h:aS W B x):W.cell? ⟨B,0,none⟩=some (.int .i64 x.1):=by unfold aS at h;simp[World.cell?,h]
theorem aS.cell1 {W:World} {B:Nat} {x:Pr} (h:aS W B x):W.cell? ⟨B,1,none⟩=some (.int .i64 x.2):=by unfold aS at h;simp[World.cell?,h]
theorem aKA (B:Nat) (x:Pr) {X Y:World} {row:Option Nat} (h:aS X B x) (hg:X.grownBy Y row) (hr:∀r,row=some r->∃o:Obj,X.heap[r]? =some o/\o.isCells=false):aS Y B x:=by
 unfold aS at h ⊢;refine (hg.block B (Array.getElem?_eq_some_iff.1 h).1 (fun e=>?_)).trans h;obtain⟨o,ho,hc⟩:=hr B e.symm;rw[h]at ho;cases ho;cases hc
theorem aCD (w:World) (Bs:Nat) (v:Value) (ps:List Pr) (hm:ps.length<=1000) (hc:w.cell? ⟨Bs,0,none⟩=some v) (hp:Prs w v ps):
  CallsIn Fence.wide 8 prog 322 #[zn,.func (.func 318) #[] #[.pointer (some ⟨Bs,0,none⟩)]] w fun e w'=>∃u,e=.returned u/\aF w' w.heap.size u ps/\Below w.heap.size w w':=by
 obtain⟨i0,hi,hz0,hz1,hz2⟩:=info_parts dY;have hBs:=World.block_lt_of_cell? _ _ hc;simp only at hBs;have IA:=hd_ hp.inP;have hb0:=(Below.refl w.heap.size w).alloc lr_ (.cells #[zn] 39);have B0:=hd_ hb0;have C0:=hd_ (cell_later hb0 hc);have S0:Hid ((w.alloc (.cells #[zn] 39)).heap.size=w.heap.size+1):=by show _=_;simp
 have X0:=hd_ (Go.Boxed.new w 39 zn);have HM:=hd_ hm;clear hc hp hb0 hm;refine callsIn_of_wp_marks func322 rfl trivial ?_ rfl;simp only[ntmps322,List.size_toArray,List.length_cons,List.length_nil,Nat.reduceAdd,Nat.reduceSub,Array.replicate_succ,Array.replicate_zero,List.push_toArray,List.append_toArray,List.nil_append,List.cons_append]
 gi_wp2
 obtain⟨W0,hW0⟩:=nm_ (w.alloc (.cells #[zn] 39));rw[<-hW0]at B0 C0 S0 X0 ⊢;clear hW0;refine wpIn_rangeFunc_ownH rfl o_ (gf:=318) (lb:=#[.pointer (some ⟨Bs,0,none⟩)]) rfl trivial (enters_of func318 kr_ rfl)
  (aDD 7 o_ Bs w.heap.size v ps HM.out W0 (by rw[S0.out];omega) B0.out.size C0.out (IA.out.below B0.out)) belowK_t (belowK_b (by rw[S0.out];omega)) (Below.refl _ _) (fun _=>rfl)
  (fun (pre:List Pr) W=>(∃u,Go.Boxed W w.heap.size 39 u/\W.ownsRow w.heap.size 213 2 u pre.length (prs pre)/\True)/\Below w.heap.size w W)
  (fun _ _ _=>False)
  (OwnFrom.and (Own.from (holdsRow_own w.heap.size w.heap.size 39 213 2 (fun pre:List Pr=>pre.length) (fun pre=>prs pre) (fun _ _=>True)) _) (ownFrom_below lr_ (by rw[S0.out];omega)))
  (fun _ _ _ _ _ hs _ _=>hs)
  ⟨⟨_,X0.out,World.ownsRow_nil _ _ _ _,trivial⟩,B0.out⟩
  (fun x a' W=>∃Bx,w.heap.size<Bx/\aS W Bx x/\a'={ tmps:=#[zn,.func (.func 318) #[] #[.pointer (some ⟨Bs,0,none⟩)],.pointer (some ⟨w.heap.size,0,none⟩),undef,zn,.pointer (some ⟨Bx,0,none⟩),.func (.func 318) #[] #[.pointer (some ⟨Bs,0,none⟩)],.agg #[iv x.1,iv x.2],undef,undef,undef,undef,undef],defers:=[] })
  (fun x a' _ X Y row hs hg hr=>by obtain⟨Bx,h1,h2,h3⟩:=hs;exact⟨Bx,h1,aKA Bx x h2 hg (fun r e=>(hr r e).2),h3⟩)
  ?assign ?body ?done ?stop
 case assign=>
  rintro l pre x W K ⟨⟨u,hu,hrow,_⟩,hB⟩ hK;obtain⟨t,m⟩:=x
  gi_wp2
  exact hK _ _ ((KeepsOthers.alloc _ _).from _) ((Below.refl _ W).alloc hB.size _) ⟨⟨u,hu.alloc _,hrow.alloc _,trivial⟩,hB.alloc hB.size _⟩ ⟨W.heap.size,hu.lt,heap_alloc_new W _,rfl⟩
 case body=>
  rintro l pre x a' W hl hr ⟨⟨u,hu,hrow,_⟩,hB⟩ ⟨Bx,hBx,bX,rfl⟩ hlt;obtain⟨t,m⟩:=x;obtain⟨xu,cu,rfl,_,_⟩:=(show aF W w.heap.size u pre from hrow).form;obtain⟨np,hnp⟩:=nm_ pre.length;have n1000:np<1000:=by have:=HM.out;omega
  rw[<-hnp]at hu hrow;have NP:=hd_ hnp;have c0:=hu.cell;have x0:=bX.cell0;have x1:=bX.cell1;have HBW:=hd_ hB;have lS:=hB.size;simp only at x0 x1;clear hr hB hnp hlt bX
  gi_wp2_with (gi_at_builtin;refine wpListIn_append_own _ rfl _ _ 39 rfl w.heap.size 213 i0 (.agg #[iv 0,iv 0]) 2 16 underlying39 hi hz0 hz1 hz2 rfl dc_ _ _ _ rfl (hrow.alloc _) ⟨W.heap.size,0,none⟩ 1 1 [iv t,iv m] rfl rfl (dI _ _ _ _) (by simp[Value.oneCell']) (by unfold maxLen;omega) o_ (by simp;omega) ?_;intro v' w1 hown' hgrow _;obtain⟨g',cap',rfl⟩:=ownsRow_succ hown';obtain⟨hv1,hv2,hr2,hk2,hb2⟩:=hu.appended dc_ hrow lS lr_ hown' hgrow;have hc1:=hv1.cell;have hf1:=hv1.frozen)
  have R:(w1.setCell ⟨w.heap.size,0,none⟩ (.slice (some ⟨g',0,none⟩) (np+1) cap')).ownsRow w.heap.size 213 2 (.slice (some ⟨g',0,none⟩) (np+1) cap') (pre++[(t,m)]).length (prs (pre++[(t,m)])):=by
   rw[List.length_append, <-NP.out,rT];exact hr2
  first
   |exact⟨hk2.from _,hb2,⟨_,hv2,R,trivial⟩,HBW.out.trans hb2⟩
   |exact⟨hk2.from _,hb2,⟨_,hv2,R⟩,HBW.out.trans hb2⟩
 case done=>
  rintro D xs W hD rfl ⟨⟨u,hu,hrow,_⟩,hB⟩ hK;have c0:=hu.cell;obtain⟨xu,cu,rfl,_,_⟩:=(show aF W w.heap.size u xs from hrow).form;obtain⟨np,hnp⟩:=nm_ xs.length;rw[<-hnp]at c0
  gi_wp2
  refine⟨by simp,.inl ⟨_,_,rfl,run_takeDeferred hK,?_⟩⟩;have o3:=ownsRow_putObj hrow (.deferred none) hK rfl;refine⟨_,results_tmp rfl _ _ _,_,rfl,?_,hB.trans (belowK_b (w:=w) lr_ W D _ _ (by have:=S0.out;omega) hK rfl rfl)⟩;exact o3
 case stop=>
  rintro D c pre W _ _ h _;exact h.elim
end Go.Proofs.YtcblbdpdbggkbaaGreat.T
namespace Go.Proofs.YtcblbdpdbggkbaaGreat.T
open _root_.Go.Proofs.Tryz
open Go.RowKit Go.Sort Go.Shelf
theorem aB3 (x:Option Addr) (n c:Nat) (w:World):Calls prog 304 #[.slice x n c] w fun e w'=>e=.returned (.func (.func 318) #[] #[.pointer (some ⟨w.heap.size,0,none⟩)])/\w.alloc (.cells #[.slice x n c] 39)=w':=by
 go_enter func304,ntmps304;exact zt
theorem aF5 (w:World) (Bs:Nat) (v:Value) (ps:List Pr) (hm:ps.length<=1000) (hc:w.cell? ⟨Bs,0,none⟩=some v) (hp:Prs w v ps):
  Calls prog 316 #[.func (.func 318) #[] #[.pointer (some ⟨Bs,0,none⟩)]] w fun e w'=>∃u,e=.returned u/\aF w' w.heap.size u ps/\Below w.heap.size w w':=by
 have K:=hd_ (callsIn_wide.1 (aCD w Bs v ps hm hc hp));clear hc hp hm;go_enter func316,ntmps316
 go_wp2_with fail
 refine K.out.mono ?_;rintro e w1 ⟨u,rfl,ho,hb⟩;obtain⟨x,c,rfl,_,_⟩:=ho.form;go_wp2;go_ret;exact⟨_,rfl,ho,hb⟩
def pU (cf:Pr->Pr->Int) (w:World) (ps:List Pr) (w':World) (u:Value):Prop:=∃qs:List Pr,qs.Perm ps/\qG cf qs/\Prs w' u qs/\Below w.heap.size w w'
theorem tQ (g:Nat) (cf:Pr->Pr->Int) (eg:∀args w,(callFunc g args).run prog w=.ok (.enter g args) w) (hg:∀x y W,Calls prog g #[.agg (lX x).toArray,.agg (lX y).toArray] W fun e w'=>e=.returned (iv (cf x y))/\∃q os,w'=grow (W.drewN q) os) (hS:SWO (ltOf cf))
  (w:World) (Bs:Nat) (v:Value) (ps:List Pr) (hm:ps.length<=8) (hc:w.cell? ⟨Bs,0,none⟩=some v) (hp:Prs w v ps):
  Calls prog 303 #[.func (.func 318) #[] #[.pointer (some ⟨Bs,0,none⟩)],.func (.func g) #[] #[]] w fun e w'=>∃u,e=.returned u/\pU cf w ps w' u:=by
 have K:=hd_ (aF5 w Bs v ps o_ hc hp);have KS:Hid (∀W u,aF W w.heap.size u ps->Calls prog 317 #[u,.func (.func g) #[] #[]] W fun e w'=>e=.returned (.tuple #[])/\∃qs:List Pr,qs.Perm ps/\qG cf qs/\Prs w' u qs/\W.grownBy w' u.ownBlock):=fun W u h=>aEU g cf eg hg hS W w.heap.size u ps h hm
 clear hc hp hm eg hg hS;go_enter func303,ntmps303
 go_wp2_with fail
 refine K.out.mono ?_;rintro e w1 ⟨u,rfl,ho,hb⟩;have KS1:=hd_ (KS.out w1 u ho);have LT:=hd_ (fun k e=>(World.ownsRow.lt ho k e).1);have HB:=hd_ hb;obtain⟨x,c,rfl,_,_⟩:=ho.form;clear ho hb
 go_wp2_with fail
 refine KS1.out.mono ?_;rintro e w2 ⟨rfl,qs,h1,h2,h3,h4⟩;have fin:Hid (pU cf w ps w2 (.slice x ps.length c)):=⟨qs,h1,h2,h3,HB.out.grown h4 HB.out.size (fun k e=>LT.out k e)⟩
 clear h1 h2 h3 h4;go_wp2;go_ret;exact⟨_,rfl,fin.out⟩
def wS (x y:Pr):Int:=nX x.1 y.1
theorem aAD (a b:Int):nX a b<0↔a<b:=by
 unfold nX
 by_cases h:a<b
 ·simp[h]
 ·by_cases h':b<a<;>simp[h,h']
theorem aIw (a b:Int):nX a b=0↔a=b:=by
 unfold nX
 by_cases h:a<b
 ·simp[h];omega
 ·by_cases h':b<a
  ·simp[h,h'];omega
  ·simp[h,h'];omega
theorem aHn (x y:Pr):ltOf wS x y=true↔x.1<y.1:=by
 simp only[ltOf,wS,decide_eq_true_eq,aAD]
theorem aHl (x y:Pr):ltOf aAr x y=true↔y.2<x.2\/(y.2=x.2/\x.1<y.1):=by
 simp only[ltOf,aAr,orV];have h0:=aIw y.2 x.2;have h1:=aAD y.2 x.2;have h2:=aAD x.1 y.1
 split
 ·rw[decide_eq_true_eq,h2];omega
 ·rw[decide_eq_true_eq,h1];omega
theorem aFG (x y:Pr):ltOf wS x y=false↔¬x.1<y.1:=by rw[<-aHn];simp
theorem aG7 (x y:Pr):ltOf aAr x y=false↔¬(y.2<x.2\/(y.2=x.2/\x.1<y.1)):=by rw[<-aHl];simp
theorem aNq:SWO (ltOf wS):=⟨fun x=>by rw[aFG];omega,fun x y z=>by simp only[aHn];omega,fun x y z=>by simp only[aFG];omega⟩
theorem aNt:SWO (ltOf aAr):=⟨fun x=>by rw[aG7];omega,fun x y z=>by simp only[aHl];omega,fun x y z=>by simp only[aG7];omega⟩
theorem egT:∀args w,(callFunc 301 args).run prog w=.ok (.enter 301 args) w:=enters_of func301 kr_ rfl
theorem egN:∀args w,(callFunc 302 args).run prog w=.ok (.enter 302 args) w:=enters_of func302 kr_ rfl
theorem hgT (x y:Pr) (W:World):Calls prog 301 #[.agg (lX x).toArray,.agg (lX y).toArray] W fun e w'=>e=.returned (iv (wS x y))/\∃q os,w'=grow (W.drewN q) os:=
 (rA x y W).mono fun e w' ⟨he,hw⟩=>⟨he,0,#[.cells #[iv x.1,iv x.2] 213 ]++#[.cells #[iv y.1,iv y.2] 213 ],by subst hw;rw[alloc_eq_grow,alloc_eq_grow,grow_grow];rfl⟩
theorem aEf (x y:Pr) (W:World):Calls prog 302 #[.agg (lX x).toArray,.agg (lX y).toArray] W fun e w'=>e=.returned (iv (aAr x y))/\∃q os,w'=grow (W.drewN q) os:=aBE x y W
theorem aFm (w:World) (v:Value) (ps:List Pr) (hp:Prs w v ps) (hn:ps.length<=8):
  Calls prog 289 #[v,iv 0] w fun e w'=>∃u,e=.returned u/\pU wS w ps w' u:=by
 obtain⟨x,c,rfl,_,_⟩:=hp.form;obtain⟨n,hn'⟩:=nm_ ps.length;rw[<-hn']at hp ⊢;obtain⟨W0,hW0⟩:=nm_ (w.alloc (.cells #[.func (.func 301) #[] #[],.func (.func 302) #[] #[]] 323));have B0:Hid (Below w.heap.size w W0):=by show Below _ _ _;rw[hW0];exact (Below.refl _ _).alloc lr_ _
 have P0:=hd_ (hp.below B0.out lr_);have c0:W0.cell? ⟨w.heap.size,0,none⟩=some (.func (.func 301) #[] #[]):=by rw[hW0];simp
 have l0:w.heap.size<W0.heap.size:=by rw[hW0];simp
 have c1:(W0.drew.alloc (.cells #[.slice x n c] 39)).cell? ⟨w.heap.size,0,none⟩=some (.func (.func 301) #[] #[]):=(World.cell?_alloc_lt (h:=l0) ..).trans c0
 have KS:Hid (Calls prog 303 #[.func (.func 318) #[] #[.pointer (some ⟨W0.heap.size,0,none⟩)],.func (.func 301) #[] #[]] (W0.drew.alloc (.cells #[.slice x n c] 39)) fun e w'=>∃u,e=.returned u/\pU wS (W0.drew.alloc (.cells #[.slice x n c] 39)) ps w' u):=
  tQ _ wS egT hgT aNq _ W0.heap.size (.slice x n c) ps hn (by rw[World.cell?_alloc_at (hn:=by simp)];simp) (Prs.below (show Prs W0.drew _ ps from P0.out) ((Below.refl _ _).alloc lr_ _) lr_)
 have HW:=hd_ hW0;clear hp hn hn' hW0;go_enter func289,ntmps289
 go_wp2_with fail
 rw[<-HW.out];clear HW
 go_wp2_with fail
 go_region_with (first
    |(go_at_call 304;refine (aB3 x n c _).mono ?_;rintro e w1 ⟨rfl,rfl⟩)
    |(go_at_call 303;refine KS.out.mono ?_;rintro e w2 ⟨u,rfl,qs,h1,h2,h3,h4⟩;obtain⟨xu,cu,rfl,_,_⟩:=h3.form))
 all_goals
  have fin:Hid (pU wS w ps w2 (.slice xu qs.length cu)):=⟨qs,h1,h2,h3,(B0.out.trans (Below.drew (Below.refl _ _))).trans ((((Below.refl _ _).alloc lr_ _).trans (h4.mono (by simp))).mono (by simpa using B0.out.size))⟩
  clear h1 h2 h3 h4;go_wp2;go_ret;exact⟨_,rfl,fin.out⟩
theorem aD0 (w:World) (v:Value) (ps:List Pr) (hp:Prs w v ps) (hn:ps.length<=8):
  Calls prog 289 #[v,iv 1] w fun e w'=>∃u,e=.returned u/\pU aAr w ps w' u:=by
 obtain⟨x,c,rfl,_,_⟩:=hp.form;obtain⟨n,hn'⟩:=nm_ ps.length;rw[<-hn']at hp ⊢;obtain⟨W0,hW0⟩:=nm_ (w.alloc (.cells #[.func (.func 301) #[] #[],.func (.func 302) #[] #[]] 323));have B0:Hid (Below w.heap.size w W0):=by show Below _ _ _;rw[hW0];exact (Below.refl _ _).alloc lr_ _
 have P0:=hd_ (hp.below B0.out lr_);have c0:W0.cell? ⟨w.heap.size,1,none⟩=some (.func (.func 302) #[] #[]):=by rw[hW0];simp
 have l0:w.heap.size<W0.heap.size:=by rw[hW0];simp
 have c1:(W0.drew.alloc (.cells #[.slice x n c] 39)).cell? ⟨w.heap.size,1,none⟩=some (.func (.func 302) #[] #[]):=(World.cell?_alloc_lt (h:=l0) ..).trans c0
 have KS:Hid (Calls prog 303 #[.func (.func 318) #[] #[.pointer (some ⟨W0.heap.size,0,none⟩)],.func (.func 302) #[] #[]] (W0.drew.alloc (.cells #[.slice x n c] 39)) fun e w'=>∃u,e=.returned u/\pU aAr (W0.drew.alloc (.cells #[.slice x n c] 39)) ps w' u):=
  tQ _ aAr egN aEf aNt _ W0.heap.size (.slice x n c) ps hn (by rw[World.cell?_alloc_at (hn:=by simp)];simp) (Prs.below (show Prs W0.drew _ ps from P0.out) ((Below.refl _ _).alloc lr_ _) lr_)
 have HW:=hd_ hW0;clear hp hn hn' hW0;go_enter func289,ntmps289
 go_wp2_with fail
 rw[<-HW.out];clear HW
 go_wp2_with fail
 go_region_with (first
    |(go_at_call 304;refine (aB3 x n c _).mono ?_;rintro e w1 ⟨rfl,rfl⟩)
    |(go_at_call 303;refine KS.out.mono ?_;rintro e w2 ⟨u,rfl,qs,h1,h2,h3,h4⟩;obtain⟨xu,cu,rfl,_,_⟩:=h3.form))
 all_goals
  have fin:Hid (pU aAr w ps w2 (.slice xu qs.length cu)):=⟨qs,h1,h2,h3,(B0.out.trans (Below.drew (Below.refl _ _))).trans ((((Below.refl _ _).alloc lr_ _).trans (h4.mono (by simp))).mono (by simpa using B0.out.size))⟩
  clear h1 h2 h3 h4;go_wp2;go_ret;exact⟨_,rfl,fin.out⟩
end Go.Proofs.YtcblbdpdbggkbaaGreat.T
namespace Go.Proofs.YtcblbdpdbggkbaaGreat.T
open _root_.Go.Proofs.Tryz
open Go.RowKit Go.Sort
theorem iQ {w:World} {B:Nat} {e:TypeId} {size n:Nat} {v:Value} {xs:List Value} (h:w.ownsRow B e size v n xs):∃x c,v=.slice x n c:=by
 exact zAy
theorem kO (ps:List Pr):∀u ∈ prs ps,u.oneCell'=true:=by
 induction ps with
 |nil=>intro u hu;cases hu
 |cons p ps ih=>
  exact zBY
theorem Prs.news {w:World} {b o n c:Nat} {ps:List Pr} (h:Prs w (.slice (some ⟨b,o,none⟩) n c) ps):∀j u,(prs ps)[j]? =some u->w.cell? ((⟨b,o,none⟩:Addr).add j)=some u:=fun j u hu=>by
 exact zAC
theorem tR (n:Nat) (w:World) (hn:n<=100):Calls prog 305 #[zn,iv n] w fun e w'=>∃v,e=.returned v/\aF w' w.heap.size v []/\Below w.heap.size w w':=by
 obtain⟨i0,hi,hz0,hz1,hz2⟩:=info_parts dY
 by_cases h0:n=0
 ·subst h0
  go_enter func305,ntmps305;go_wp2;go_ret;exact⟨_,rfl,aF.nil _ _,Below.refl _ _⟩
 ·have h1:¬((n:Int)<0):=o_
  have h4:(0:Int)<(n:Int):=o_;have hrz:∀ty,(Builtin.append_ #[39,3 ] ty #[zn,iv (n:Int)]).run prog w=
    .ok (.slice (some ⟨w.heap.size,0,none⟩) n (grownCap w n 0 213)) (w.drew.alloc (.cells ((([]:List Value).toArray++Builtin.zeroCells (Value.agg #[iv 0,iv 0]).cells n)++Builtin.zeroCells (Value.agg #[iv 0,iv 0]).cells (grownCap w n 0 213 - n)) 213)):=fun ty=>by
   have h:=Lib.run_append_grow_zeros w 39 3 ty 213 i0 _ .i64 .i64 underlying39 underlying3 hi hz0 none 0 0 [] (run_firstCells_none w.drew i0.size 0 0 0) n o_ (by rw[hz1];omega) o_ o_ (by rw[hz2];omega)
    (by rw[Nat.zero_add];exact growslice_fits o_ (by rw[hz2];omega))
   rw[Nat.zero_add]at h;exact h
  have hGn:n<=grownCap w n 0 213:=grownCap_ge w _ _ _;have hG63:=grownCap_le_maxLen w n 0 213 (by unfold maxLen;omega);have hsz:∀G,n<=G->((([]:List Value).toArray++Builtin.zeroCells (Value.agg #[iv 0,iv 0]).cells n)++Builtin.zeroCells (Value.agg #[iv 0,iv 0]).cells (G - n)).size=G * 2:=fun G hG=>by
   simp only[Array.size_append,size_zeroCells,Value.cells];simp;omega
  obtain⟨G,hG⟩:=nm_ (grownCap w n 0 213);rw[<-hG]at hrz hGn hG63;obtain⟨CS,hCS⟩:=nm_ ((([]:List Value).toArray++Builtin.zeroCells (Value.agg #[iv 0,iv 0]).cells n)++Builtin.zeroCells (Value.agg #[iv 0,iv 0]).cells (G - n));have hs:=hsz G hGn;rw[<-hCS]at hrz hs
  have FIN:Hid (aF (w.drew.alloc (.cells CS 213)) w.heap.size (.slice (some ⟨w.heap.size,0,none⟩) 0 G) []/\Below w.heap.size w (w.drew.alloc (.cells CS 213))):=
   ⟨World.ownsRow_made w.drew CS G lr_ hG63 hs,(Below.drew (Below.refl _ _)).alloc lr_ _⟩
  have hGi:(n:Int)<=(G:Int):=o_;have hG0:(0:Int)<=(G:Int):=o_;have hG64:(G:Int)<=9223372036854775807:=by unfold maxLen at hG63;omega
  clear hG hCS hsz hs;go_enter func305,ntmps305
  exact zBx
theorem xR (w:World) (g na nb ca cb:Nat) (x y:Option Addr) (ps qs:List Pr) (ha:ps.length=na) (hb:qs.length=nb) (la:na<=8) (lb:nb<=8) (hp:Prs w (.slice x na ca) ps) (hq:Prs w (.slice y nb cb) qs)
  (c0:w.cell? ⟨g,0,none⟩=some (.slice x na ca)) (c1:w.cell? ⟨g,1,none⟩=some (.slice y nb cb)):
  Calls prog 290 #[.slice (some ⟨g,0,none⟩) 2 2] w fun e w'=>∃v,e=.returned v/\aF w' w.heap.size v (ps++qs)/\Below w.heap.size w w':=by
 obtain⟨i0,hi,hz0,hz1,hz2⟩:=info_parts dY;have HA:=hd_ ha;have HB:=hd_ hb;have HP:=hd_ hp;have HQ:=hd_ hq;have C0:=hd_ c0;have C1:=hd_ c1;have n0:¬(na:Int)<0:=o_;have n1:¬(na:Int)+(nb:Int)<0:=o_;have KG:Hid (Calls prog 305 #[zn,iv ((na:Int)+(nb:Int))] w fun e w'=>∃v,e=.returned v/\aF w' w.heap.size v []/\Below w.heap.size w w'):=by
  have h:=tR (na+nb) w o_;rw[Int.natCast_add]at h;exact h
 have NP:Hid (x=none->ps=[]/\na=0/\ca=0):=fun e=>by
  exact zBX
 have NQ:Hid (y=none->qs=[]/\nb=0/\cb=0):=fun e=>by
  exact zBW
 have SX:Hid (∀a,x=some a->∃b o,a=⟨b,o,none⟩):=fun a e=>by
  rcases HP.out with ⟨e',_⟩|⟨b,o,c,e',_⟩
  ·rw[e]at e';cases e'
  ·exact zA0
 have SY:Hid (∀a,y=some a->∃b o,a=⟨b,o,none⟩):=fun a e=>by
  rcases HQ.out with ⟨e',_⟩|⟨b,o,c,e',_⟩
  ·rw[e]at e';cases e'
  ·exact zA0
 clear ha hb hp hq;go_enter func290,ntmps290;go_wp2;refine wp_loop_rounds 3 ?_;rw[rounds_succ];go_wp2;rw[rounds_succ];go_wp2;rw[rounds_succ]
 go_wp2_with fail
 refine KG.out.mono ?_;rintro e w1 ⟨v,rfl,ho1,hb1⟩;obtain⟨z,cz,rfl,_,_⟩:=ho1.form;have d0:=cell_later hb1 C0.out;have d1:=cell_later hb1 C1.out;have P1:=hd_ (HP.out.below hb1 lr_);have Q1:=hd_ (HQ.out.below hb1 lr_);have O1:Hid (w1.ownsRow w.heap.size 213 2 (.slice z 0 cz) 0 []):=ho1;have B1:=hd_ hb1;have s1:=hb1.size;have D1:=hd_ d1;have gl:g<w.heap.size:=World.block_lt_of_cell? _ _ C1.out
 clear ho1 hb1 c0 c1 KG;simp only[List.length_nil];go_wp2;refine wp_loop_rounds 3 ?_;rw[rounds_succ]
 -- the first
 rcases hx:x with _|⟨bx,ox,sx⟩
 ·subst hx
  obtain⟨rfl,rfl,rfl⟩:=NP.out rfl;rcases hy:y with _|⟨by',oy,sy⟩
  ·subst hy
   obtain⟨rfl,rfl,rfl⟩:=NQ.out rfl
   go_wp2_with (first|(at_builtin;refine wpList_append_own_none rfl _ _ 39 rfl w.heap.size 213 i0 2 underlying39 hi (.slice z 0 cz) 0 [] rfl O1.out rfl ?_;have tok1:True:=trivial))
   rw[rounds_succ]
   go_wp2_with (first|(at_builtin;refine wpList_append_own_none rfl _ _ 39 rfl w.heap.size 213 i0 2 underlying39 hi (.slice z 0 cz) 0 [] rfl O1.out rfl ?_;have tok2:True:=trivial))
   rw[rounds_succ];go_wp2;go_ret;exact⟨_,rfl,O1.out,B1.out⟩
  ·obtain⟨by2,oy2,ey⟩:=SY.out _ hy
   obtain⟨rfl,rfl,rfl⟩:by'=by2/\oy=oy2/\sy=none:=by injection ey with e1 e2 e3;exact⟨e1,e2,e3⟩
   subst hy;clear ey
   go_wp2_with (first|(at_builtin;refine wpList_append_own_none rfl _ _ 39 rfl w.heap.size 213 i0 2 underlying39 hi (.slice z 0 cz) 0 [] rfl O1.out rfl ?_;have tok1:True:=trivial))
   rw[rounds_succ]
   go_wp2_with (first|(at_builtin;refine wpList_append_own _ rfl _ _ 39 rfl w.heap.size 213 i0 (.agg #[iv 0,iv 0]) 2 16 underlying39 hi hz0 hz1 hz2 rfl dc_ (.slice z 0 cz) 0 [] rfl O1.out ⟨by',oy,none⟩ nb cb (prs qs) rfl (by rw[eZ,HB.out]) (Q1.out.news) (kO _) (by unfold maxLen;omega) o_ o_ ?_;intro v3 w3 ho3 hg3 _;have O3:=hd_ ho3;obtain⟨z3,cz3,rfl⟩:=iQ ho3;have B3:=hd_ (B1.out.grown hg3 B1.out.size (fun k e=>(O1.out.lt k e).1))))
   exact zBJ
 ·obtain⟨bx',ox',ex⟩:=SX.out _ hx
  obtain⟨rfl,rfl,rfl⟩:bx=bx'/\ox=ox'/\sx=none:=by injection ex with e1 e2 e3;exact⟨e1,e2,e3⟩
  subst hx;clear ex;rcases hy:y with _|⟨by',oy,sy⟩
  ·subst hy
   obtain⟨rfl,rfl,rfl⟩:=NQ.out rfl
   go_wp2_with (first|(at_builtin;refine wpList_append_own _ rfl _ _ 39 rfl w.heap.size 213 i0 (.agg #[iv 0,iv 0]) 2 16 underlying39 hi hz0 hz1 hz2 rfl dc_ (.slice z 0 cz) 0 [] rfl O1.out ⟨bx,ox,none⟩ na ca (prs ps) rfl (by rw[eZ,HA.out]) (P1.out.news) (kO _) (by unfold maxLen;omega) o_ o_ ?_;intro v2 w2 ho2 hg2 _;simp only[Nat.zero_add,List.nil_append]at ho2;obtain⟨z2,cz2,rfl⟩:=iQ ho2;have O2:=hd_ ho2;have B2:=hd_ (B1.out.grown hg2 B1.out.size (fun k e=>(O1.out.lt k e).1));have d2:=hg2.cell D1.out (fun e=>by have:=(O1.out.lt _ e.symm).1;simp only at this;omega);have s2:=hg2.size;have Q2:=hd_ (HQ.out.below B2.out lr_)))
   rw[rounds_succ]
   go_wp2_with (first|(at_builtin;refine wpList_append_own_none rfl _ _ 39 rfl w.heap.size 213 i0 2 underlying39 hi (.slice z2 na cz2) na (prs ps) rfl O2.out rfl ?_;have tok2:True:=trivial))
   exact zBG
  ·obtain⟨by2,oy2,ey⟩:=SY.out _ hy
   obtain⟨rfl,rfl,rfl⟩:by'=by2/\oy=oy2/\sy=none:=by injection ey with e1 e2 e3;exact⟨e1,e2,e3⟩
   subst hy;clear ey
   go_wp2_with (first|(at_builtin;refine wpList_append_own _ rfl _ _ 39 rfl w.heap.size 213 i0 (.agg #[iv 0,iv 0]) 2 16 underlying39 hi hz0 hz1 hz2 rfl dc_ (.slice z 0 cz) 0 [] rfl O1.out ⟨bx,ox,none⟩ na ca (prs ps) rfl (by rw[eZ,HA.out]) (P1.out.news) (kO _) (by unfold maxLen;omega) o_ o_ ?_;intro v2 w2 ho2 hg2 _;simp only[Nat.zero_add,List.nil_append]at ho2;obtain⟨z2,cz2,rfl⟩:=iQ ho2;have O2:=hd_ ho2;have B2:=hd_ (B1.out.grown hg2 B1.out.size (fun k e=>(O1.out.lt k e).1));have d2:=hg2.cell D1.out (fun e=>by have:=(O1.out.lt _ e.symm).1;simp only at this;omega);have s2:=hg2.size;have Q2:=hd_ (HQ.out.below B2.out lr_)))
   rw[rounds_succ]
   go_wp2_with (first|(at_builtin;refine wpList_append_own _ rfl _ _ 39 rfl w.heap.size 213 i0 (.agg #[iv 0,iv 0]) 2 16 underlying39 hi hz0 hz1 hz2 rfl dc_ (.slice z2 na cz2) na (prs ps) rfl O2.out ⟨by',oy,none⟩ nb cb (prs qs) rfl (by rw[eZ,HB.out]) (Q2.out.news) (kO _) (by unfold maxLen;omega) o_ o_ ?_;intro v3 w3 ho3 hg3 _;have O3:=hd_ ho3;obtain⟨z3,cz3,rfl⟩:=iQ ho3;have B3:=hd_ (B2.out.grown hg3 B2.out.size (fun k e=>(O2.out.lt k e).1))))
   exact zBs
def cE:List Pr->Int->List Pr
 | [],_=>[]
 |p::ps,n=>if n<p.2 then (p.1,p.2 - n)::cE ps n else cE ps n
theorem aDe (ps qs:List Pr) (n:Int):cE (ps++qs) n=cE ps n++cE qs n:=by
 induction ps with
 |nil=>rfl
 |cons p ps ih=>
  simp only[List.cons_append,cE]
  split<;>simp[ih]
theorem aCi (ps:List Pr) (n:Int):(cE ps n).length<=ps.length:=by
 induction ps with
 |nil=>simp[cE]
 |cons p ps ih=>unfold cE;split<;>simp<;>omega
theorem aA6 (ps:List Pr) (k:Nat) (n:Int) (h:k<ps.length):cE (ps.take (k+1)) n=cE (ps.take k) n++if n<(pr ps k).2 then [((pr ps k).1,(pr ps k).2 - n)]else []:=by
 rw[dV ps k h,aDe];simp only[cE]
theorem aHS (w:World) (x:Option Addr) (n c:Nat) (ps:List Pr) (m:Int) (hl:ps.length=n) (hp:Prs w (.slice x n c) ps) (hn:n<=100) (hm:∀i,i<n->0<=(pr ps i).2/\(pr ps i).2<=100000) (m0:0<=m) (m1:m<=100000):
  Calls prog 279 #[.slice x n c,iv m] w fun e w'=>∃v,e=.returned v/\aF w' w.heap.size v (cE ps m)/\Below w.heap.size w w':=by
 obtain⟨i0,hi,hz0,hz1,hz2⟩:=info_parts dY;have HP:=hd_ hp.cells;have HL:=hd_ hl;have HM:=hd_ hm;have E0:=hd_ (lJ w w.heap.size lr_);clear hl hp hm;go_enter func279,ntmps279;go_wp2;go_loopw [5,6] (fun u i wr=>∃(k:Nat) (os:List Pr),k<=n/\i=.int .i64 k/\os=cE (ps.take k) m/\aF wr w.heap.size u os/\Below w.heap.size w wr) (fun _ i _=>n - (intOf i).toNat)
 case atStart=>exact⟨0,[],Nat.zero_le _,rfl,by simp[cE],E0.out,(Below.refl _ _).alloc lr_ _⟩
 case round=>
  obtain⟨k,os,hk,rfl,hos,hown,hbl⟩:=hrel;obtain⟨y,cp,hu,_,_⟩:=hown.form;obtain⟨no,hno⟩:=nm_ os.length;have hno2:no<=200:=by have:=aCi (ps.take k) m;rw[hno,hos];have:=HL.out;simp at *;omega
  rw[<-hno]at hu;subst hu;have HOS:=hd_ hos;have HN:=hd_ hno;have HB:=hd_ hbl;have hsz:=hbl.size;have ho:wr.ownsRow w.heap.size 213 2 (.slice y no cp) no (prs os):=by have h:=hown;unfold aF at h;rw[<-hno]at h;exact h
  have HO:=hd_ ho;clear hbl hown hno ho hos
  by_cases hlt:k<n
  ·obtain⟨b,o,rfl,hb,h1,h2⟩:=HP.out k (by rw[HL.out];exact hlt)
   replace h1:=(HB.out.cell (p:=⟨b,o+k * 2,none⟩) hb).trans h1;replace h2:=(HB.out.cell (p:=⟨b,o+k * 2+1,none⟩) hb).trans h2;have hs:=hd_ (aA6 ps k m (by rw[HL.out];exact hlt));have hmm:=HM.out k hlt;generalize pr ps k=q at h1 h2 hs hmm;obtain⟨t',m'⟩:=q;simp only at h1 h2 hmm;have k0:(0:Int)<=(k:Int):=o_;have kn:(k:Int)<(n:Int):=o_
   by_cases hlm:m<m'
   ·rw[if_pos (by exact hlm)]at hs
    have ws:IntKind.i64.wrap (m' - m)=m' - m:=IntWalk.i64_in _ o_
    go_wp2_with fail
    go_region_law ((refine step_append_lies _ r_ _ _ _ r_ w.heap.size 213 i0 _ 2 16 underlying39 hi hz0 hz1 hz2 rfl dc_ (.slice y no cp) no (prs os) r_ ((HO.out.alloc _).drew) ⟨wr.heap.size,0,none⟩ 1 1 [iv t',iv (m' - m)] r_ r_ (World.news_of_block (cs:=#[.int .i64 t',.int .i64 (m' - m)]) (t:=213) (fr:=(0,0)) (heap_alloc_new wr _)) (by simp[Value.oneCell']) o_ (by unfold maxLen;omega) o_ (by simp;omega) (wr.heap.size+1) (by simp) ?_;intro g1 cap1 w4 hown4 hgrow4 hat4 hlt4))
    all_goals
     have hg5:(wr.alloc (.cells #[iv t',iv (m' - m)] 213)).grownBy w4 (Value.slice y no cp).ownBlock:=oY hgrow4;go_wp2;go_roundw
     case rel=>exact⟨k+1,os++[(t',m' - m)],o_,gn_,by rw[hs.out,HOS.out],fM hown4 HN.out,bU HB.out hsz HO.out hg5⟩
     case measure=>simp[intOf];omega
   ·rw[if_neg (by exact hlm)]at hs
    go_wp2;go_roundw
    case rel=>exact⟨k+1,os,o_,gn_,by rw[hs.out,HOS.out,List.append_nil],by have h:=HO.out;rw[HN.out]at h ⊢;exact h,HB.out⟩
    case measure=>simp[intOf];omega
  ·obtain rfl:k=n:=o_
   have e1:cE ps m=os:=by rw[HOS.out,List.take_of_length_le (by rw[HL.out];exact Nat.le_refl _)]
   have E1:=hd_ e1;clear e1;go_wp2;go_ret;exact⟨_,rfl,by rw[E1.out];have h:=HO.out;rw[HN.out]at h ⊢;exact h,HB.out⟩
theorem aIr (w:World) (v:Value) (ps:List Pr) (m:Int) (hp:Prs w v ps) (hn:ps.length<=100) (hm:∀i,i<ps.length->0<=(pr ps i).2/\(pr ps i).2<=100000) (m0:0<=m) (m1:m<=100000):
  Calls prog 279 #[v,iv m] w fun e w'=>∃v,e=.returned v/\aF w' w.heap.size v (cE ps m)/\Below w.heap.size w w':=by
 obtain⟨x,c,rfl,_,_⟩:=hp.form;exact aHS w x _ c ps m rfl hp hn hm m0 m1
theorem aFu (w:World) (u:Value) (ps:List Pr) (lost all:Int) (hp:Prs w u ps) (hn:ps.length<=100) (hm:∀i,i<ps.length->0<=(pr ps i).2/\(pr ps i).2<=100000) (m0:0<=lost) (m1:lost<=100000):
  Calls prog 227 #[.agg #[u,iv lost,iv all]] w fun e w'=>∃v,e=.returned (.agg #[v,iv (lost+bN ps),iv all])/\aF w' w.heap.size v (cE ps (bN ps))/\Below w.heap.size w w':=by
 have hA:=((Below.refl w.heap.size w).alloc lr_ (.cells #[u,iv lost,iv all] 41)).alloc (by simp) (.cells #[zn,iv 0,iv 0] 41);have HA:=hd_ hA;have I0:=hd_ (hp.below hA lr_);have K:=hd_ (aIq _ u ps I0.out hn hm);have ob:=aAG (M:=100000) o_ hm;obtain⟨ov,hov⟩:=nm_ (bN ps);rw[<-hov]at K ob ⊢
 have KL:Hid (∀W,Prs W u ps->Calls prog 279 #[u,iv ov] W fun e w'=>∃v,e=.returned v/\aF w' W.heap.size v (cE ps ov)/\Below W.heap.size W w'):=fun W hW=>aIr W u ps ov hW hn hm ob.1 ob.2
 obtain⟨x,c,hu,_,_⟩:=hp.form;obtain⟨n,hn'⟩:=nm_ ps.length;rw[<-hn']at hu;subst hu;have K0:=hd_ (K.out);obtain⟨W0,hW0⟩:=nm_ ((w.alloc (.cells #[.slice x n c,iv lost,iv all] 41)).alloc (.cells #[zn,iv 0,iv 0] 41));have X0:bP W0 w.heap.size 41 (.slice x n c) (iv lost) (iv all):=by rw[hW0];exact (bP.new _ _ _ _ _).alloc _
 have R0:bP W0 (w.heap.size+1) 41 zn (iv 0) (iv 0):=by
  exact zAI
 rw[<-hW0]at K HA I0;have HW0:=hd_ hW0;have x0:=X0.cell0;have x1:=X0.cell1;have x2:=X0.cell2;clear hA hW0 hov hn' hp hm K0;go_enter func227,ntmps227
 go_wp2_with fail
 rw[<-HW0.out]
 go_wp2_with fail
 refine K.out.mono ?_;rintro e w1 ⟨rfl,hb1⟩;have X1:=X0.later hb1;have R1:=R0.later hb1;have B1:=hd_ (HA.out.trans (hb1.mono HA.out.size));have I1:=hd_ (I0.out.below hb1 lr_);clear hb1 X0 R0 x0 x1 x2 K HA I0;have x0:=X1.cell0;have x1:=X1.cell1;have x2:=X1.cell2;have ws:IntKind.i64.wrap (lost+ov)=lost+ov:=IntWalk.i64_in _ o_
 have KD:Hid (Calls prog 279 #[.slice x n c,iv ov] w1.drew fun e w'=>∃v,e=.returned v/\aF w' w1.drew.heap.size v (cE ps ov)/\Below w1.drew.heap.size w1.drew w'):=KL.out w1.drew I1.out
 go_wp2_with fail
 go_region_with (first|(go_at_call 279;refine KD.out.mono ?_;rintro e w2 ⟨v,rfl,ho2,hb2⟩;obtain⟨xv,cv,rfl,_,_⟩:=ho2.form;have X2:=X1.drew.later hb2;have y0:=X2.cell0;have y1:=X2.cell1;have y2:=X2.cell2;have R2:=R1.drew.later hb2;have f2:=R2.free;have z0:=R2.cell0;have z1:=R2.cell1;have z2:=R2.cell2))
 all_goals
  have RZ:=R2.set (.slice xv (cE ps ov).length cv) (iv (lost+ov)) (iv all);have hr0:=RZ.cell0;have hr1:=RZ.cell1;have hr2:=RZ.cell2;have OZ:=hd_ (((ho2.set3 (R2.not_row dc_ ho2) (.slice xv (cE ps ov).length cv) (iv (lost+ov)) (iv all))).base (B':=w.heap.size) (by have:=B1.out.size;simpa using this))
  have BZ:=hd_ (cT (b:=w.heap.size+1) ((B1.out.trans (Below.drew (Below.refl _ _))).trans (hb2.mono (by have:=B1.out.size;simpa using this))) (Nat.le_succ _) (.slice xv (cE ps ov).length cv) (iv (lost+ov)) (iv all));clear ho2 hb2 X2 R2 RZ y0 y1 y2 f2 z0 z1 z2;go_wp2
  exact bodyPost_ret (v:=.agg #[.slice xv (cE ps ov).length cv,iv (lost+ov),iv all]) (by simp[results,results227,go_sem,hr0,hr1,hr2]) rfl ⟨_,rfl,OZ.out,BZ.out⟩
def BdP (M:Int) (ps:List Pr):Prop:=∀p ∈ ps,0<=p.2/\p.2<=M
theorem BdP.at {M:Int} {ps:List Pr} (h:BdP M ps):∀i,i<ps.length->0<=(pr ps i).2/\(pr ps i).2<=M:=fun _ hi=>h _ (jI hi)
theorem BdP.mono {M N:Int} {ps:List Pr} (h:BdP M ps) (hM:M<=N):BdP N ps:=fun p hp=>by have:=h p hp;omega
theorem BdP.put {M:Int} {ps:List Pr} {x:Pr} (h:BdP M ps) (hM:0<=M) (hx:0<=x.2):BdP (M+x.2) (dC ps x):=by
 induction ps with
 |nil=>intro p hp;simp[dC]at hp;subst hp;omega
 |cons q ps ih=>
  have hq:=h q (by simp);have ht:BdP M ps:=fun p hp=>h p (by simp[hp])
  intro p hp;unfold dC at hp
  split at hp
  ·rcases List.mem_cons.1 hp with rfl|hp
   ·omega
   ·exact ih ht p hp
  ·split at hp
   ·rcases List.mem_cons.1 hp with rfl|hp
    ·exact⟨by simp;omega,by simp;omega⟩
    ·have:=ht p hp;omega
   ·rcases List.mem_cons.1 hp with rfl|hp
    ·omega
    ·rcases List.mem_cons.1 hp with rfl|hp
     ·omega
     ·have:=ht p hp;omega
theorem tZ.bd {ps:List Pr} {lost all:Int} (h:tZ ps lost all):BdP 2000 ps:=fun p hp=>by
 obtain⟨i,hi,rfl⟩:=kX hp;have:=(h.2.1 i hi).1.2;omega
def mH (ps:List Pr):List Pr:=cE ps (bN ps)
abbrev Tp:=List Pr × Int × Int
def aHf:Tp:=([],0,0)
def iJ (ps:List Pr) (lost all t:Int):Bool:=cV ps lost all&&(isT t&&decide (all<2000))
def gJ (ps:List Pr) (lost all t:Int):Tp:=if iJ ps lost all t then (mH (dC ps (t,1)),lost+bN (dC ps (t,1)),all+1)else aHf
theorem aHr {ps:List Pr} {lost all t:Int} (h:iJ ps lost all t=false):gJ ps lost all t=aHf:=by simp[gJ,h]
theorem aA9 {ps:List Pr} {lost all t:Int} (h:iJ ps lost all t=true):gJ ps lost all t=(mH (dC ps (t,1)),lost+bN (dC ps (t,1)),all+1):=by simp[gJ,h]
theorem oF (ps:List Pr) (lost all t:Int):(cV ps lost all=false/\iJ ps lost all t=false)\/(cV ps lost all=true/\(t<0\/63<t)/\iJ ps lost all t=false)\/(cV ps lost all=true/\(0<=t/\t<=63)/\2000<=all/\iJ ps lost all t=false)\/(cV ps lost all=true/\(0<=t/\t<=63)/\all<2000/\iJ ps lost all t=true):=by
 unfold iJ;cases h:cV ps lost all
 ·exact .inl ⟨rfl,rfl⟩
 ·cases h':isT t
  ·exact .inr (.inl ⟨rfl,by have:=aMQ h';omega,rfl⟩)
  ·have:=aLQ h'
   by_cases ha:all<2000
   ·exact .inr (.inr (.inr ⟨rfl,o_,ha,by simp[ha]⟩))
   ·exact .inr (.inr (.inl ⟨rfl,o_,o_,by simp[ha]⟩))
theorem aEE (w:World) (u:Value) (ps:List Pr) (lost all t:Int) (hp:Prs w u ps) (hno:iJ ps lost all t=false):
  Calls prog 312 #[.agg #[u,iv lost,iv all],iv t] w fun e w'=>e=.returned (.tuple #[.agg #[zn,iv 0,iv 0],.bool false])/\Below w.heap.size w w':=by
 have hA:=((Below.refl w.heap.size w).alloc lr_ (.cells #[u,iv lost,iv all] 41)).alloc (by simp) (.cells #[zn,iv 0,iv 0] 41);have K:=hd_ (jY _ u ps lost all (hp.below hA lr_));have HA:=hd_ hA;obtain⟨x,c,hu,_,_⟩:=hp.form;obtain⟨n,hn'⟩:=nm_ ps.length;rw[<-hn']at hu;subst hu;obtain⟨W0,hW0⟩:=nm_ ((w.alloc (.cells #[.slice x n c,iv lost,iv all] 41)).alloc (.cells #[zn,iv 0,iv 0] 41))
 have X0:bP W0 w.heap.size 41 (.slice x n c) (iv lost) (iv all):=by rw[hW0];exact (bP.new _ _ _ _ _).alloc _
 have R0:bP W0 (w.heap.size+1) 41 zn (iv 0) (iv 0):=by
  exact zAI
 rw[<-hW0]at K HA;have HW0:=hd_ hW0;have x0:=X0.cell0;have x1:=X0.cell1;have x2:=X0.cell2;have HNO:=hd_ (oF ps lost all t);have HN:=hd_ hno;have EB:=hd_ (rfl:cV ps lost all=cV ps lost all)
 have main:∀ok,cV ps lost all=ok->(ok=true->(t<0\/63<t)\/((0<=t/\t<=63)/\2000<=all))->Calls prog 312 #[.agg #[.slice x n c,iv lost,iv all],iv t] w fun e w'=>e=.returned (.tuple #[.agg #[zn,iv 0,iv 0],.bool false])/\Below w.heap.size w w':=by
  intro ok hok hwhy;rw[hok]at K;have HY:=hd_ hwhy;clear hok hwhy hA hW0 hn' hp hno;cases ok with
  |false=>
   go_enter func312,ntmps312
   go_wp2_with fail
   rw[<-HW0.out]
   go_wp2_with fail
   refine K.out.mono ?_;rintro e w1 ⟨rfl,hb1⟩;exact zAk
  |true=>
   rcases HY.out rfl with ht|⟨ht,ha⟩
   ·have KT:Hid (∀W,Calls prog 66 #[iv t,iv 0,iv 63] W fun e w'=>e=.returned (.bool false)/\W=w'):=fun W=>fY t 0 63 W ht
    clear ht;go_enter func312,ntmps312
    go_wp2_with fail
    rw[<-HW0.out]
    go_wp2_with fail
    refine K.out.mono ?_;rintro e w1 ⟨rfl,hb1⟩
    go_wp2_with fail
    refine (KT.out _).mono ?_;rintro e w' ⟨rfl,rfl⟩;exact zAk
   ·have KT:Hid (∀W,Calls prog 66 #[iv t,iv 0,iv 63] W fun e w'=>e=.returned (.bool true)/\W=w'):=fun W=>aJ t 0 63 W ht.1 ht.2
    clear ht;go_enter func312,ntmps312
    go_wp2_with fail
    rw[<-HW0.out]
    go_wp2_with fail
    refine K.out.mono ?_;rintro e w1 ⟨rfl,hb1⟩
    go_wp2_with fail
    refine (KT.out _).mono ?_;rintro e w' ⟨rfl,rfl⟩;have X1:=X0.later hb1;have y2:=X1.cell2;have R1:=R0.later hb1;have z0:=R1.cell0;have z1:=R1.cell1;have z2:=R1.cell2;have f2:=R1.free;have RZ:=R1.set zn (iv 0) (iv 0);have hr0:=RZ.cell0;have hr1:=RZ.cell1;have hr2:=RZ.cell2;have BZ:=hd_ (cT (b:=w.heap.size+1) (HA.out.trans (hb1.mono HA.out.size)) (Nat.le_succ _) zn (iv 0) (iv 0))
    clear R1 RZ x0 x1 x2 X0 R0 hb1;go_wp2;exact bodyPost_ret (v:=.tuple #[.agg #[zn,iv 0,iv 0],.bool false]) (by simp[results,results312,go_sem,hr0,hr1,hr2]) rfl ⟨rfl,BZ.out⟩
 refine main _ rfl fun hok=>?_
 rcases HNO.out with ⟨h,_⟩|⟨_,h,_⟩|⟨_,h,h',_⟩|⟨_,_,_,h⟩
 ·rw[h]at hok;cases hok
 ·exact .inl h
 ·exact .inr ⟨h,h'⟩
 ·rw[hno]at h;cases h
theorem aCH (w:World) (u:Value) (ps:List Pr) (lost all t:Int) (hp:Prs w u ps) (hok:cV ps lost all=true) (ht:0<=t/\t<=63) (ha:all<2000):
  Calls prog 312 #[.agg #[u,iv lost,iv all],iv t] w fun e w'=>∃v,e=.returned (.tuple #[.agg #[v,iv (lost+bN (dC ps (t,1))),iv (all+1)],.bool true])/\aF w' w.heap.size v (mH (dC ps (t,1)))/\Below w.heap.size w w':=by
 have hA:=((Below.refl w.heap.size w).alloc lr_ (.cells #[u,iv lost,iv all] 41)).alloc (by simp) (.cells #[zn,iv 0,iv 0] 41);have I0:=hd_ (hp.below hA lr_);have K:=hd_ (jY _ u ps lost all I0.out);have HA:=hd_ hA;have hP:=(cG _ _ _).1 hok;have hbd:=hP.bd;have hl4:=hP.1.1;have hlo:=hP.1.2.1;have hal:=hP.1.2.2
 have KP:Hid (∀W,Prs W u ps->Calls prog 226 #[u,.agg #[iv t,iv 1]] W fun e w'=>∃v,e=.returned v/\aF w' W.heap.size v (dC ps (t,1))/\Below W.heap.size W w'):=fun W hW=>
  aA7 W u ps t 1 hW o_ (hbd.mono o_).at o_ o_
 have hbq:=(hbd.put (x:=(t,1)) o_ (by simp)).mono (N:=100000) (by simp);have hlq:=aD9 ps (t,1);rw[hok]at K;obtain⟨qs,hqs⟩:=nm_ (dC ps (t,1));rw[<-hqs]at KP hbq hlq ⊢;have KC:Hid (∀W v,Prs W v qs->Calls prog 227 #[.agg #[v,iv lost,iv (all+1)]] W fun e w'=>∃v,e=.returned (.agg #[v,iv (lost+bN qs),iv (all+1)])/\aF w' W.heap.size v (mH qs)/\Below W.heap.size W w'):=fun W v hv=>
  aFu W v qs lost (all+1) hv o_ hbq.at o_ o_
 obtain⟨x,c,hu,_,_⟩:=hp.form;obtain⟨n,hn'⟩:=nm_ ps.length;rw[<-hn']at hu;subst hu;obtain⟨W0,hW0⟩:=nm_ ((w.alloc (.cells #[.slice x n c,iv lost,iv all] 41)).alloc (.cells #[zn,iv 0,iv 0] 41));have X0:bP W0 w.heap.size 41 (.slice x n c) (iv lost) (iv all):=by rw[hW0];exact (bP.new _ _ _ _ _).alloc _
 have R0:bP W0 (w.heap.size+1) 41 zn (iv 0) (iv 0):=by
  exact zAI
 rw[<-hW0]at K HA I0;have HW0:=hd_ hW0;have x0:=X0.cell0;have x1:=X0.cell1;have x2:=X0.cell2;have KT:Hid (∀W,Calls prog 66 #[iv t,iv 0,iv 63] W fun e w'=>e=.returned (.bool true)/\W=w'):=fun W=>aJ t 0 63 W ht.1 ht.2
 obtain⟨ov,hov⟩:=nm_ (bN qs);obtain⟨cs,hcs⟩:=nm_ (mH qs);rw[<-hov, <-hcs]at KC ⊢;clear hA hW0 hn' hp hP hbd hok hqs hbq hlq hov hcs;go_enter func312,ntmps312
 go_wp2_with fail
 rw[<-HW0.out]
 go_wp2_with fail
 refine K.out.mono ?_;rintro e w1 ⟨rfl,hb1⟩
 go_wp2_with fail
 refine (KT.out _).mono ?_;rintro e w' ⟨rfl,rfl⟩;have X1:=X0.later hb1;have R1:=R0.later hb1;have B1:=hd_ (HA.out.trans (hb1.mono HA.out.size));have I1:=hd_ (I0.out.below hb1 lr_);clear hb1 X0 R0 x0 x1 x2 K HA I0 KT;have x0:=X1.cell0;have x1:=X1.cell1;have x2:=X1.cell2
 have KD:Hid (Calls prog 226 #[.slice x n c,.agg #[iv t,iv 1]] w1.drew fun e w'=>∃v,e=.returned v/\aF w' w1.drew.heap.size v qs/\Below w1.drew.heap.size w1.drew w'):=KP.out w1.drew I1.out;have ws:IntKind.i64.wrap (all+1)=all+1:=IntWalk.i64_in _ o_
 go_wp2_with fail
 go_region_with (first|(go_at_call 226;refine KD.out.mono ?_;rintro e w2 ⟨v,rfl,ho2,hb2⟩;obtain⟨xv,cv,rfl,_,_⟩:=ho2.form;have X2:=X1.drew.later hb2;have y0:=X2.cell0;have y1:=X2.cell1;have y2:=X2.cell2;have R2:=R1.drew.later hb2;have KE:=hd_ (KC.out w2 _ ho2.rd))|(go_at_call 227;refine KE.out.mono ?_;rintro e w3 ⟨v,rfl,ho3,hb3⟩;obtain⟨xz,cz,rfl,_,_⟩:=ho3.form;have R3:=R2.later hb3;have f2:=R3.free;have z0:=R3.cell0;have z1:=R3.cell1;have z2:=R3.cell2))
 all_goals
  have RZ:=R3.set (.slice xz cs.length cz) (iv (lost+ov)) (iv (all+1));have hr0:=RZ.cell0;have hr1:=RZ.cell1;have hr2:=RZ.cell2;have s1:w.heap.size<=w1.heap.size:=B1.out.size;have s2:w1.heap.size<=w2.heap.size:=by have:=hb2.size;simpa using this
  have OZ:=hd_ (((ho3.set3 (R3.not_row dc_ ho3) (.slice xz cs.length cz) (iv (lost+ov)) (iv (all+1)))).base (B':=w.heap.size) o_);have BZ:=hd_ (cT (b:=w.heap.size+1) ((B1.out.trans (Below.drew (Below.refl _ _))).trans ((hb2.trans (hb3.mono (by simpa using s2))).mono (by simpa using s1))) (Nat.le_succ _) (.slice xz cs.length cz) (iv (lost+ov)) (iv (all+1)))
  clear ho2 hb2 X2 R2 ho3 hb3 R3 RZ y0 y1 y2 f2 z0 z1 z2 s1 s2;go_wp2;exact bodyPost_ret (v:=.tuple #[.agg #[.slice xz cs.length cz,iv (lost+ov),iv (all+1)],.bool true]) (by simp[results,results312,go_sem,hr0,hr1,hr2]) rfl ⟨_,rfl,OZ.out,BZ.out⟩
theorem aEh (w:World) (u:Value) (ps:List Pr) (lost all t:Int) (hp:Prs w u ps):
  Calls prog 312 #[.agg #[u,iv lost,iv all],iv t] w fun e w'=>∃v,e=.returned (.tuple #[.agg #[v,.int .i64 (gJ ps lost all t).2.1,.int .i64 (gJ ps lost all t).2.2],.bool (iJ ps lost all t)])/\aF w' w.heap.size v (gJ ps lost all t).1/\Below w.heap.size w w':=by
 cases h:iJ ps lost all t with
 |false=>
  rw[aHr h];exact (aEE w u ps lost all t hp h).mono fun e w' ⟨he,hb⟩=>⟨_,he,aF.nil _ _,hb⟩
 |true=>
  rw[aA9 h];rcases oF ps lost all t with ⟨_,h'⟩|⟨_,_,h'⟩|⟨_,_,_,h'⟩|⟨hk,ht,ha,_⟩
  ·exact zBq
  ·exact zBq
  ·exact zBq
  ·exact aCH w u ps lost all t hp hk ht ha
end Go.Proofs.YtcblbdpdbggkbaaGreat.T
namespace Go.Proofs.YtcblbdpdbggkbaaGreat.T
open _root_.Go.Proofs.Tryz
open Go.RowKit Go.ChangeShapes Go.WideShapes Go.ChangeAt Go.Deep Go.Joins
def jV (w:World) (v:Value) (ps:List Pr):Prop:=
 (ps=[]/\∃x c,v=.slice x 0 c)\/
 ∃b o c,v=.slice (some ⟨b,o,none⟩) ps.length c/\0<ps.length/\ps.length<=maxLen/\b<w.heap.size/\
  ∀i,i<ps.length->w.cell? ⟨b,o+i * 2,none⟩=some (.int .i64 (pr ps i).1)/\w.cell? ⟨b,o+i * 2+1,none⟩=some (.int .i64 (pr ps i).2)
theorem jV.below {w w':World} {v:Value} {ps:List Pr} (h:jV w v ps) {B:Nat} (hb:Below B w w') (hB:w.heap.size<=B):jV w' v ps:=by
 rcases h with h|⟨b,o,c,e,h0,h1,h2,h3⟩
 ·exact .inl h
 ·exact zA6
theorem jV.form {w:World} {v:Value} {ps:List Pr} (h:jV w v ps):∃x c,v=.slice x ps.length c:=by
 exact zA1
theorem jV.len {w:World} {v:Value} {ps:List Pr} (h:jV w v ps):ps.length<=maxLen:=by
 exact zA3
theorem jV.cells {w:World} {x:Option Addr} {n c:Nat} {ps:List Pr} (h:jV w (.slice x n c) ps):∀i,i<ps.length->∃b o,x=some ⟨b,o,none⟩/\b<w.heap.size/\w.cell? ⟨b,o+i * 2,none⟩=some (.int .i64 (pr ps i).1)/\w.cell? ⟨b,o+i * 2+1,none⟩=some (.int .i64 (pr ps i).2):=fun i hi=>by
 exact zBU
def szV (left:Int) (n:Nat):Int:=if left<n then -1 else left - n
theorem dL {left:Int} {n:Nat} (h:(n:Int)<=left):szV left n=left - n:=if_neg (by omega)
theorem bF {left:Int} {n:Nat} (h:left<n):szV left n= -1:=if_pos h
theorem tV {H:Type} {enc:TypeId × Value->H} {w:World} {fuel:Nat} {u:Value} {y:DataW H × List MemPlace} (h:DataW.trod enc prog w 0 (fun _=>true) true fuel 174 [u]=some y):∃ps,jV w u ps:=by
 have hC:prog.cellsOf 318=2:=by kernel_rfl
 have hC0:prog.cellsOf 3=1:=by kernel_rfl
 rcases open_slice underlying174 h with ⟨e,_⟩|⟨a,len,cap,m,n,D,Pl,e,_,hl,hm,hmm,_,hi⟩
 ·simp at e
  exact⟨[],.inl ⟨rfl,_,_,e⟩⟩
 ·simp at e
  simp only[if_true]at hmm;subst e;rw[hC]at hi;have key:∀i,i<len->∃p:Pr,w.cell? (a.add (i * 2))=some (.int .i64 p.1)/\w.cell? (a.add (i * 2+1))=some (.int .i64 p.2):=fun i hlt=>by
   obtain⟨cs,hc,ht⟩:=hi i o_;obtain⟨y0,y1,k,_,hlen,h0,h1⟩:=trod_struct2 underlying318 ht;exact zAs
  by_cases h0:len=0
  ·exact zBK
  obtain⟨b,o,sp⟩:=a;exact zq
theorem aGt (w:World) (v:Value) (ps:List Pr) (left:Int) (h:jV w v ps) (h0:0<=left) (h1:left<=1048576):
  Calls prog 280 #[v,iv left] w fun e w'=>e=.returned (iv (szV left ps.length))/\w=w':=by
 obtain⟨x,c,hx⟩:=h.form;have hl:=h.len;obtain⟨n,hn⟩:=nm_ ps.length;rw[<-hn]at hx hl ⊢;subst hx;unfold maxLen at hl;clear h hn
 by_cases hle:left<n
 ·rw[bF hle]
  have h2:left - (n:Int)<0:=o_;go_enter func280,ntmps280;exact zt
 ·rw[dL o_]
  have h2:¬left - (n:Int)<0:=o_;go_enter func280,ntmps280;exact zt
theorem aJN (w:World) (u:Value) (ps:List Pr) (lost all left:Int) (h:jV w u ps) (h0:0<=left) (h1:left<=1048576):
  Calls prog 241 #[.agg #[u,iv lost,iv all],iv left] w fun e w'=>e=.returned (iv (szV left ps.length))/\Below w.heap.size w w':=by
 have hA:=(Below.refl w.heap.size w).alloc lr_ (.cells #[u,iv lost,iv all] 176);have K:=hd_ (aGt _ u ps left (h.below hA lr_) h0 h1);have HA:=hd_ hA;obtain⟨x,c,hx⟩:=h.form;obtain⟨n,hn⟩:=nm_ ps.length;rw[<-hn]at hx K ⊢;subst hx;clear h hn hA
 by_cases hle:left<n
 ·rw[bF hle]at K ⊢
  go_enter func241,ntmps241
  exact zAb
 ·rw[dL o_]at K ⊢
  have h2:¬left - (n:Int)<0:=o_;go_enter func241,ntmps241
  exact zAb
end Go.Proofs.YtcblbdpdbggkbaaGreat.T
namespace Go.Proofs.YtcblbdpdbggkbaaGreat.T
open _root_.Go.Proofs.Tryz
open Go.RowKit Go.Sort
theorem aAz (n:Nat):prs (List.replicate n (0,0))=List.replicate (n * 2) (.int .i64 0):=by
 induction n with
 |zero=>rfl
 |succ n ih=>rw[List.replicate_succ,gE,ih,show (n+1) * 2=n * 2+1+1 by omega,List.replicate_succ,List.replicate_succ]
theorem uH (n:Nat):(madeCells #[iv 0,iv 0] (n * 2)).toList=prs (List.replicate n (0,0)):=by
 exact zBt
theorem xH (n:Nat) (hn:n<=1048576):∀w,(Instr.makeSlice 39 (iv (n:Int)) (iv (n:Int))).run prog w=.ok (.slice (some ⟨w.heap.size,0,none⟩) n n) (w.alloc (.cells (madeCells #[iv 0,iv 0] (n * 2)) 213)):=fun w=>by
 obtain⟨i0,hi,hz0,hz1,hz2⟩:=info_parts dY;have h:=run_make (P:=prog) w 39 213 i0 (.agg #[iv 0,iv 0]) underlying39 hi hz0 .i64 .i64 n n o_ (Int.le_refl _) (by rw[hz2];omega) o_;simp only[Int.toNat_natCast,hz1]at h;exact h
theorem sB (ps:List Pr) (k:Nat) (t z:Int) (h:k<ps.length):((prs ps).set (k * 2) (iv t)).set (k * 2+1) (iv z)=prs (ps.set k (t,z)):=by
 induction ps generalizing k with
 |nil=>cases h
 |cons p ps ih=>
  exact zBy
theorem aI4 (w:World) (t z:Int):Calls prog 299 #[.agg #[iv t,iv z]] w fun e w'=>e=.returned (.agg #[iv t,iv z])/\Below w.heap.size w w':=by
 go_enter func299,ntmps299;go_wp2;refine bodyPost_ret (v:=.agg #[iv t,iv z]) (by simp[results,results299,go_sem]) rfl ⟨rfl,?_⟩;exact (((Below.refl _ _).alloc lr_ _).alloc (by simp) _).alloc (by simp;omega) _
theorem aGh (w:World) (v:Value) (ps:List Pr) (h:jV w v ps) (hn:ps.length<=1048576):
  Calls prog 282 #[v] w fun e w'=>e=.returned (.slice (some ⟨w.heap.size,0,none⟩) ps.length ps.length)/\aF w' w.heap.size (.slice (some ⟨w.heap.size,0,none⟩) ps.length ps.length) ps/\Below w.heap.size w w':=by
 obtain⟨x,c,hx⟩:=h.form;obtain⟨n,hn'⟩:=nm_ ps.length;have HZ:Hid (∀i,i<n->∃b o,x=some ⟨b,o,none⟩/\b<w.heap.size/\w.cell? ⟨b,o+i * 2,none⟩=some (.int .i64 (pr ps i).1)/\w.cell? ⟨b,o+i * 2+1,none⟩=some (.int .i64 (pr ps i).2)):=fun i hi=>by
  rw[hx]at h;exact h.cells i (by rw[<-hn'];exact hi)
 have HN:=hd_ hn';rw[<-hn']at hx hn ⊢;have hmk:=xH n hn;have own0:aF (w.alloc (.cells (madeCells #[iv 0,iv 0] (n * 2)) 213)) w.heap.size (.slice (some ⟨w.heap.size,0,none⟩) n n) (List.replicate n (0,0)):=by
  have:=World.ownsRow_lit (base:=w.heap.size) (e:=213) (size:=2) w (madeCells #[iv 0,iv 0] (n * 2)) n lr_ (by unfold maxLen;omega) (by rw[size_madeCells]);rw[uH]at this;unfold aF;rw[List.length_replicate];exact this
 have O0:=hd_ own0;subst hx;clear h hn' own0;go_enter func282,ntmps282;go_wp2;go_loopw [4] (fun i wr=>∃(k:Nat) (ys:List Pr),k<=n/\i=.int .i64 k/\ys.length=n/\(∀i,i<k->pr ys i=pr ps i)/\aF wr w.heap.size (.slice (some ⟨w.heap.size,0,none⟩) n n) ys/\Below w.heap.size w wr) (fun i _=>n - (intOf i).toNat)
 case atStart=>exact⟨0,List.replicate n (0,0),Nat.zero_le _,rfl,by simp,fun _ h=>absurd h (Nat.not_lt_zero _),O0.out,(Below.refl _ _).alloc lr_ _⟩
 case round=>
  obtain⟨k,ys,hk,rfl,hy,hys,hown,hbl⟩:=hrel;have HY:=hd_ hy;have HYS:=hd_ hys;have HB:=hd_ hbl;have HO:=hd_ hown;clear hy hys hbl hown
  by_cases hlt:k<n
  ·obtain⟨b,o,rfl,hb,h1,h2⟩:=HZ.out k hlt
   rw[<-HB.out.cell (p:=⟨b,o+k * 2,none⟩) hb]at h1;rw[<-HB.out.cell (p:=⟨b,o+k * 2+1,none⟩) hb]at h2;obtain⟨y,hyk⟩:∃y,pr ps k=y:=⟨_,rfl⟩
   rw[hyk]at h1 h2;have HK:=hd_ hyk;obtain⟨t,z⟩:=y;simp only at h1 h2;have k0:(0:Int)<=(k:Int):=o_;have kn:(k:Int)<(n:Int):=o_;clear hyk
   go_wp2_with fail
   refine (aI4 wr t z).mono ?_;rintro e w1 ⟨rfl,hb1⟩;have ho:w1.ownsRow w.heap.size 213 2 (.slice (some ⟨w.heap.size,0,none⟩) n n) n (prs ys):=by have h:=HO.out.below hb1;unfold aF at h;rw[HY.out]at h;exact h
   have hl:=eZ ys;rw[HY.out]at hl;obtain⟨u0,hc0⟩:∃u,w1.cell? ⟨w.heap.size,k * 2,none⟩=some u:=by
    rw[ho.cellAt (k * 2) o_];exact⟨_,List.getElem?_eq_getElem o_⟩
   obtain⟨u1,hc1⟩:∃u,w1.cell? ⟨w.heap.size,k * 2+1,none⟩=some u:=by
    rw[ho.cellAt (k * 2+1) o_];exact⟨_,List.getElem?_eq_getElem o_⟩
   have hf0:=ho.frozenAt (k * 2);have hf1:=ho.frozenAt (k * 2+1);have hs:=((ho.stored (k * 2) (iv t)).1.stored (k * 2+1) (iv z)).1;rw[sB ys k t z (by rw[HY.out];exact hlt)]at hs;have HS:=hd_ hs;have B1:=hd_ (HB.out.trans (hb1.mono HB.out.size));clear hs ho hl hb1 h1 h2;go_wp2;go_roundw
   case rel=>
    refine⟨k+1,ys.set k (t,z),o_,gn_,by simpa using HY.out,fun i hi=>?_,?_,(B1.out.setCell lr_ _).setCell lr_ _⟩
    ·by_cases e:i=k
     ·subst e
      rw[HK.out];simp[pr,HY.out,hlt]
     ·have e1:pr (ys.set k (t,z)) i=pr ys i:=by simp[pr,Ne.symm e]
      rw[e1];exact HYS.out i o_
    ·unfold aF
     rw[List.length_set,HY.out];exact HS.out
   case measure=>simp[intOf];omega
  ·exact zAU
theorem aJ4 (w:World) (u:Value) (ps:List Pr) (lost all:Int) (h:jV w u ps) (hn:ps.length<=1048576):
  Calls prog 245 #[.agg #[u,iv lost,iv all]] w fun e w'=>∃g,e=.returned (.agg #[.slice (some ⟨g,0,none⟩) ps.length ps.length,iv lost,iv all])/\aF w' w.heap.size (.slice (some ⟨g,0,none⟩) ps.length ps.length) ps/\Below w.heap.size w w':=by
 obtain⟨W,hW⟩:=nm_ (((w.alloc (.cells #[u,iv lost,iv all] 176)).alloc (.cells #[zn,iv 0,iv 0] 41)).alloc (.cells #[zn,iv 0,iv 0] 41));have hA:Below w.heap.size w W:=by rw[hW];exact (((Below.refl _ _).alloc lr_ _).alloc (by simp) _).alloc (by simp;omega) _
 have sW:W.heap.size=w.heap.size+3:=by rw[hW];simp
 have A:bP W w.heap.size 176 u (iv lost) (iv all):=by rw[hW];exact ((bP.new w _ _ _ _).alloc _).alloc _
 have X:bP W (w.heap.size+1) 41 zn (iv 0) (iv 0):=by
  rw[hW];have:=bP.new (w.alloc (.cells #[u,iv lost,iv all] 176)) 41 zn (iv 0) (iv 0);rw[World.size_alloc]at this;exact this.alloc _
 have Y:bP W (w.heap.size+1+1) 41 zn (iv 0) (iv 0):=by
  rw[hW];have:=bP.new ((w.alloc (.cells #[u,iv lost,iv all] 176)).alloc (.cells #[zn,iv 0,iv 0] 41)) 41 zn (iv 0) (iv 0);rw[World.size_alloc,World.size_alloc]at this;exact this
 have K:=hd_ (aGh W u ps (h.below hA lr_) hn);obtain⟨x,c,hx⟩:=h.form;obtain⟨n,hn'⟩:=nm_ ps.length;rw[<-hn']at hx K hn ⊢;subst hx;have HA:=hd_ hA;have HS:=hd_ sW;clear h hn' hA sW;go_enter func245,ntmps245
 go_wp2_with fail
 rw[<-hW];clear hW;refine K.out.mono ?_;rintro e w1 ⟨rfl,ho,hb1⟩;have A1:=A.later hb1;have X1:=X.later hb1;have Y1:=Y.later hb1;have L1:=hd_ (HA.out.trans (hb1.mono HA.out.size));rw[HS.out]at ho ⊢;clear hb1 A X Y
 -- the copy,filled field by field
 have gy:=((aA w1 ⟨w.heap.size+1+1,0,none⟩ (.slice (some ⟨w.heap.size+3,0,none⟩) n n)).trans (aA _ ⟨w.heap.size+1+1,1,none⟩ (iv lost))).trans (aA _ ⟨w.heap.size+1+1,2,none⟩ (iv all));have Yb:=Y1.set (.slice (some ⟨w.heap.size+3,0,none⟩) n n) (iv lost) (iv all);have Xb:=X1.kept gy (by simp)
 have o1:=ho.set3 (b:=w.heap.size+1+1) (Y1.not_row dc_ ho) (.slice (some ⟨w.heap.size+3,0,none⟩) n n) (iv lost) (iv all);have o2:=hd_ ((o1.set3 (b:=w.heap.size+1) (Xb.not_row dc_ o1) (.slice (some ⟨w.heap.size+3,0,none⟩) n n) (iv lost) (iv all)).base (B':=w.heap.size) o_)
 have L2:=hd_ (cT (b:=w.heap.size+1) (cT (b:=w.heap.size+1+1) L1.out o_ (.slice (some ⟨w.heap.size+3,0,none⟩) n n) (iv lost) (iv all)) o_ (.slice (some ⟨w.heap.size+3,0,none⟩) n n) (iv lost) (iv all));have Xc:=Xb.set (.slice (some ⟨w.heap.size+3,0,none⟩) n n) (iv lost) (iv all);have a0:=A1.cell0;have a1:=A1.cell1;have a2:=A1.cell2;have y0:=Y1.cell0;have y1:=Y1.cell1
 have y2:=Y1.cell2;have yf:=Y1.free;have yb0:=Yb.cell0;have yb1:=Yb.cell1;have yb2:=Yb.cell2;have xb0:=Xb.cell0;have xb1:=Xb.cell1;have xb2:=Xb.cell2;have xbf:=Xb.free;have xc0:=Xc.cell0;have xc1:=Xc.cell1;have xc2:=Xc.cell2;clear A1 X1 Y1 gy Yb Xb Xc o1 ho K;go_wp2
 exact bodyPost_ret (v:=.agg #[.slice (some ⟨w.heap.size+3,0,none⟩) n n,iv lost,iv all]) (by simp[results,results245,go_sem,xc0,xc1,xc2]) rfl ⟨_,rfl,o2.out,L2.out⟩
theorem aE9 (w:World) (t z:Int):Calls prog 237 #[.agg #[iv t,iv z],.agg #[iv t,iv z]] w fun e w'=>e=.returned (.bool true)/\Below w.heap.size w w':=by
 have e1:(t != t)=false:=by simp
 have e2:(z != z)=false:=by simp
 have e3:decide (t=t)=true:=by simp
 have e4:decide (z=z)=true:=by simp
 go_enter func237,ntmps237;go_wp2;go_ret;exact⟨rfl,((Below.refl _ _).alloc lr_ _).alloc (by simp) _⟩
theorem aGr (w:World) (x:Option Addr) (c:Nat) (y:Option Addr) (d n:Nat) (ps:List Pr) (hl:ps.length=n) (hp:Prs w (.slice x n c) ps) (hq:Prs w (.slice y n d) ps) (hn:n<=1048576):
  Calls prog 191 #[.slice x n c,.slice y n d] w fun e w'=>e=.returned (.bool true)/\Below w.heap.size w w':=by
 have PC:=hd_ hp.cells;have QC:=hd_ hq.cells;have HL:=hd_ hl;have e3:((n:Int) != (n:Int))=false:=by simp
 have e6:decide ((n:Int)=(n:Int))=true:=by simp
 clear hp hq hl;go_enter func191,ntmps191;go_wp2;go_loopw [5] (fun i wr=>∃k:Nat,k<=n/\i=.int .i64 k/\Below w.heap.size w wr) (fun i _=>n - (intOf i).toNat)
 case atStart=>exact⟨0,Nat.zero_le _,rfl,Below.refl _ _⟩
 case round=>
  obtain⟨k,hk,rfl,hb0⟩:=hrel;have BB:=hd_ hb0;clear hb0
  by_cases hlt:k<n
  ·obtain⟨b,o,rfl,hb,h1,h2⟩:=PC.out k (by rw[HL.out];exact hlt)
   obtain⟨b',o',rfl,hb',h3,h4⟩:=QC.out k (by rw[HL.out];exact hlt);rw[<-BB.out.cell (p:=⟨b,o+k * 2,none⟩) hb]at h1;rw[<-BB.out.cell (p:=⟨b,o+k * 2+1,none⟩) hb]at h2;rw[<-BB.out.cell (p:=⟨b',o'+k * 2,none⟩) hb']at h3;rw[<-BB.out.cell (p:=⟨b',o'+k * 2+1,none⟩) hb']at h4;generalize pr ps k=q at h1 h2 h3 h4;obtain⟨t,z⟩:=q;have k0:(0:Int)<=(k:Int):=o_;have k1:(k:Int)<(n:Int):=o_
   have KE:=hd_ (fun W=>aE9 W t z);go_wp2
   go_region_with (first
        |(go_at_call 237;refine (KE.out _).mono ?_;rintro e w1 ⟨rfl,hb1⟩))
   all_goals
    have B1:=hd_ ((BB.out.trans (Below.drew (Below.refl _ _))).trans (hb1.mono BB.out.size));clear hb1;go_wp2;go_roundw
    case rel=>exact⟨k+1,o_,gn_,B1.out⟩
    case measure=>simp[intOf];omega
  ·obtain rfl:k=n:=o_
   go_wp2;go_ret;exact⟨by first|rfl|simp,BB.out⟩
theorem aDG (w:World) (u v:Value) (ps:List Pr) (hp:Prs w u ps) (hq:Prs w v ps) (hn:ps.length<=1048576):
  Calls prog 191 #[u,v] w fun e w'=>e=.returned (.bool true)/\Below w.heap.size w w':=by
 obtain⟨x,c,rfl,_,_⟩:=hp.form;obtain⟨y,d,rfl,_,_⟩:=hq.form;exact aGr w x c y d _ ps rfl hp hq hn
theorem aGg (w:World) (u v:Value) (ps:List Pr) (lost all:Int) (hp:Prs w u ps) (hq:Prs w v ps) (hn:ps.length<=1048576):
  Calls prog 137 #[.agg #[u,iv lost,iv all],.agg #[v,iv lost,iv all]] w fun e w'=>e=.returned (.bool true)/\Below w.heap.size w w':=by
 obtain⟨W,hW⟩:=nm_ ((w.alloc (.cells #[u,iv lost,iv all] 41)).alloc (.cells #[v,iv lost,iv all] 41));have B0:Below w.heap.size w W:=by rw[hW];exact ((Below.refl _ _).alloc lr_ _).alloc (by simp) _
 have X:bP W w.heap.size 41 u (iv lost) (iv all):=by rw[hW];exact (bP.new w _ _ _ _).alloc _
 have Y:bP W (w.heap.size+1) 41 v (iv lost) (iv all):=by rw[hW];have:=bP.new (w.alloc (.cells #[u,iv lost,iv all] 41)) 41 v (iv lost) (iv all);rwa[World.size_alloc]at this
 have K:=hd_ (aDG W u v ps (hp.below B0 lr_) (hq.below B0 lr_) hn);obtain⟨x,c,rfl,_,_⟩:=hp.form;obtain⟨y,d,rfl,_,_⟩:=hq.form;obtain⟨n,hn'⟩:=nm_ ps.length;rw[<-hn']at K X Y hW ⊢;have BB:=hd_ B0;have e1:(lost != lost)=false:=by simp
 have e2:(all != all)=false:=by simp
 have e4:decide (lost=lost)=true:=by simp
 have e5:decide (all=all)=true:=by simp
 clear hp hq hn' B0;go_enter func137,ntmps137
 go_wp2_with fail
 rw[<-hW];clear hW;refine K.out.mono ?_;rintro e w1 ⟨rfl,hb1⟩;have X1:=X.later hb1;have Y1:=Y.later hb1;have x1:=X1.cell1;have x2:=X1.cell2;have y1:=Y1.cell1;have y2:=Y1.cell2;go_wp2;go_ret;exact⟨by first|rfl|simp,BB.out.trans (hb1.mono BB.out.size)⟩
def mkP (k:Int) (n:Nat):List Pr:=(List.range n).map fun (i:Nat)=>(k+2 * (i:Int),k+2 * (i:Int)+1)
theorem dK (k:Int) (n:Nat):(mkP k n).length=n:=by simp[mkP]
theorem aCX (k:Int) (n i:Nat) (h:i<n):pr (mkP k n) i=(k+2 * (i:Int),k+2 * (i:Int)+1):=by simp[pr,mkP,h]
theorem wU (k:Int) (ps:List Pr) (j:Nat) (hj:j<ps.length):
  (mkP k j++ps.drop j).set j (k+2 * (j:Int),k+2 * (j:Int)+1)=mkP k (j+1)++ps.drop (j+1):=by
 apply List.ext_getElem?;intro i;simp only[List.getElem?_set,List.length_append,dK,List.length_drop];rcases Nat.lt_trichotomy i j with h|h|h
 ·exact zBz
 ·subst h
  rw[if_pos rfl,if_pos o_,List.getElem?_append_left (by rw[dK];omega)];simp[mkP]
 ·exact zA9
theorem aBM (w:World) (k:Int):Calls prog 130 #[zn,iv k] w fun e w'=>e=.returned (iv k)/\w=w':=by
 go_enter func130,ntmps130;exact zAJ
theorem aC3 (w:World) (B g c n:Nat) (ps:List Pr) (k:Int) (hl:ps.length=n) (hn:n<=100000000) (hk:0<=k) (hk':k<=1000000000000)
  (h:w.ownsRow B 213 2 (.slice (some ⟨g,0,none⟩) n c) n (prs ps)):
  Calls prog 130 #[.slice (some ⟨g,0,none⟩) n c,iv k] w fun e w'=>
   e=.returned (iv (k+2 * (n:Int)))/\w'.ownsRow B 213 2 (.slice (some ⟨g,0,none⟩) n c) n (prs (mkP k n))/\w.grownBy w' (some g):=by
 have HL:=hd_ hl;have H:=hd_ h;clear hl h;go_enter func130,ntmps130;go_wp2;go_loopw [1,5] (fun q i wr=>∃j:Nat,j<=n/\i=.int .i64 j/\q=.int .i64 (k+2 * (j:Int))/\wr.ownsRow B 213 2 (.slice (some ⟨g,0,none⟩) n c) n (prs (mkP k j++ps.drop j))/\w.grownBy wr (some g)) (fun _ i _=>n - (intOf i).toNat)
 case atStart=>exact⟨0,Nat.zero_le _,rfl,gn_,by simpa[mkP]using H.out,eS _ _⟩
 case round=>
  exact zl
theorem aBs (w:World) (B:Nat) (v:Value) (ps:List Pr) (k:Int) (h:aF w B v ps) (hn:ps.length<=100000000) (hk:0<=k) (hk':k<=1000000000000):
  Calls prog 130 #[v,iv k] w fun e w'=>e=.returned (iv (k+2 * (ps.length:Int)))/\aF w' B v (mkP k ps.length)/\w.grownBy w' v.ownBlock:=by
 by_cases h0:v=.slice none 0 0
 ·subst h0
  have hz:ps=[]:=by
   exact zBg
  subst hz;exact (aBM w k).mono fun e w' ⟨he,hw⟩=>⟨by rw[he];simp,by subst hw;exact aF.nil _ _,by subst hw;exact eS _ _⟩
 ·rcases h.2 with ⟨e,_⟩|⟨g,cap,cur,e,hb,hh,hc,hm,hs,ht⟩
  ·exact absurd e h0
  ·subst e
   refine (aC3 w B g cap ps.length ps k rfl hn hk hk' h).mono fun e w' ⟨he,ho,hg⟩=>⟨he,?_,hg⟩
   unfold aF;rw[dK];exact ho
theorem aCK (w:World) (x:Option Addr) (c n:Nat) (k:Int) (hn:n<=100000000) (hk:0<=k) (hk':k<=1000000000000) (hp:Prs w (.slice x n c) (mkP k n)):
  Calls prog 133 #[.slice x n c,iv k] w fun e w'=>e=.returned (iv (k+2 * (n:Int)))/\w=w':=by
 have PC:=hd_ hp.cells;clear hp;go_enter func133,ntmps133;go_wp2;go_loopw [1,5] (fun q i wr=>∃j:Nat,j<=n/\i=.int .i64 j/\q=.int .i64 (k+2 * (j:Int))/\wr=w) (fun _ i _=>n - (intOf i).toNat)
 case atStart=>exact⟨0,Nat.zero_le _,rfl,gn_,rfl⟩
 case round=>
  obtain⟨j,hj,rfl,rfl,rfl⟩:=hrel
  by_cases hlt:j<n
  ·exact zAo
  ·obtain rfl:j=n:=o_
   exact zt
end Go.Proofs.YtcblbdpdbggkbaaGreat.T

