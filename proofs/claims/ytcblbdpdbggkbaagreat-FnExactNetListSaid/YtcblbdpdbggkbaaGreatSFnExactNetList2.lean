/-
  What the law FnExactNetList needs of the texts before it, part 2.
-/
import Derived.BigQuiet
import Derived.Deep.AppendLies
import Derived.Deep.OwnRows
import Derived.Deep.RegionLaw
import Derived.Deep.RegionWith
import Derived.IntWalk
import Derived.Laws.AppendOwnNone
import Derived.Laws.EntriesVeiled
import Derived.Lib.AppendZerosOnto
import Derived.Lib.SliceRun
import Derived.Lib.Walk
import Derived.LoopIn
import Derived.LoopNIn
import Derived.Maps.AppendAt
import Derived.OneCell
import Derived.OwnWalkIn
import Derived.RangeFuncBound
import Derived.RangeFuncBox
import Derived.RangeFuncCalls
import Derived.RangeFuncLeaves
import Derived.RangeFuncNested
import Derived.Shelf.Abstract
import Derived.Shelf.RegionOpen
import Derived.Shelf.SlSortCmp.InsertionK
import Derived.TacticsInMore
import Derived.Test.YtcblbdpdbggkbaaGreatSFnExactNetList1
set_option maxRecDepth 100000
set_option maxHeartbeats 16000000
set_option linter.unusedVariables false
set_option linter.unusedSectionVars false
set_option linter.unusedSimpArgs false
set_option linter.unusedVariables false
namespace Go.Proofs.YtcblbdpdbggkbaaGreat.T
open Go.RowKit Go.Sort
abbrev Pr:=Int × Int
def pr (ps:List Pr) (i:Nat):Pr:=ps.getD i (0,0)
def prs (ps:List Pr):List Value:=ps.flatMap fun p=>[.int .i64 p.1,.int .i64 p.2]
theorem prs_cons (p:Pr) (ps:List Pr):prs (p::ps)=.int .i64 p.1::.int .i64 p.2::prs ps:=rfl
theorem prs_append (ps qs:List Pr):prs (ps++qs)=prs ps++prs qs:=by simp[prs]
theorem prs_snoc (ps:List Pr) (p:Pr):prs (ps++[p])=prs ps++[.int .i64 p.1,.int .i64 p.2]:=by simp[prs]
theorem prs_len (ps:List Pr):(prs ps).length=ps.length * 2:=by
 induction ps with
 |nil=>rfl
 |cons p ps ih=>rw[prs_cons];simp[ih];omega
theorem prs_get (ps:List Pr) (i:Nat) (h:i<ps.length):(prs ps)[i * 2]? =some (.int .i64 (pr ps i).1)/\(prs ps)[i * 2+1]? =some (.int .i64 (pr ps i).2):=by
 induction ps generalizing i with
 |nil=>cases h
 |cons p ps ih=>
  rw[prs_cons];cases i with
  |zero=>exact⟨rfl,rfl⟩
  |succ i=>
   have:=ih i (by simpa using h);rw[show (i+1) * 2=i * 2+1+1 by omega];simp only[List.getElem?_cons_succ];exact this
theorem pr_mem {ps:List Pr} {i:Nat} (h:i<ps.length):pr ps i ∈ ps:=getD_mem ps i (0,0) h
theorem pr_at {ps:List Pr} {p:Pr} (h:p ∈ ps):∃i,i<ps.length/\pr ps i=p:=by
 obtain⟨i,hi,rfl⟩:=List.getElem_of_mem h;exact⟨i,hi,by simp[pr,hi]⟩
def Prs (w:World) (v:Value) (ps:List Pr):Prop:=
 (v=.slice none 0 0/\ps=[])\/
 ∃b o cap,v=.slice (some ⟨b,o,none⟩) ps.length cap/\ps.length<=cap/\cap<=maxLen/\b<w.heap.size/\
  ∀i,i<ps.length->w.cell? ⟨b,o+i * 2,none⟩=some (.int .i64 (pr ps i).1)/\w.cell? ⟨b,o+i * 2+1,none⟩=some (.int .i64 (pr ps i).2)
theorem Prs.below {w w':World} {v:Value} {ps:List Pr} (h:Prs w v ps) {B:Nat} (hb:Below B w w') (hB:w.heap.size<=B):Prs w' v ps:=by
 rcases h with h|⟨b,o,cap,rfl,h1,h2,h3,h4⟩
 ·exact .inl h
 ·exact .inr ⟨b,o,cap,rfl,h1,h2,Nat.lt_of_lt_of_le h3 hb.size,fun i hi=>by
      rw[hb.cell (by show b<B;omega),hb.cell (by show b<B;omega)];exact h4 i hi⟩
theorem Prs.form {w:World} {v:Value} {ps:List Pr} (h:Prs w v ps):∃x c,v=.slice x ps.length c/\ps.length<=c/\c<=maxLen:=by
 rcases h with ⟨rfl,rfl⟩|⟨b,o,cap,rfl,h1,h2,_⟩
 ·exact⟨none,0,rfl,Nat.le_refl _,Nat.zero_le _⟩
 ·exact⟨_,_,rfl,h1,h2⟩
theorem Prs.cells {w:World} {x:Option Addr} {n c:Nat} {ps:List Pr} (h:Prs w (.slice x n c) ps):∀i,i<ps.length->∃b o,x=some ⟨b,o,none⟩/\b<w.heap.size/\w.cell? ⟨b,o+i * 2,none⟩=some (.int .i64 (pr ps i).1)/\w.cell? ⟨b,o+i * 2+1,none⟩=some (.int .i64 (pr ps i).2):=fun i hi=>by
 rcases h with ⟨_,rfl⟩|⟨b,o,cap,e,h1,h2,h3,h4⟩
 ·cases hi
 ·exact⟨b,o,(Value.slice.inj e).1,h3,h4 i hi⟩
def OwnP (w:World) (B:Nat) (v:Value) (ps:List Pr):Prop:=w.ownsRow B 213 2 v ps.length (prs ps)
theorem addr_plus (b o i:Nat):(⟨b,o,none⟩:Addr).add i=⟨b,o+i,none⟩:=by unfold Addr.add;split<;>simp_all
theorem OwnP.rd {w:World} {B:Nat} {v:Value} {ps:List Pr} (h:OwnP w B v ps):Prs w v ps:=by
 rcases h.2 with ⟨rfl,h0⟩|⟨g,cap,cur,rfl,hb,hg,hn,hc,hs,ht⟩
 ·exact .inl ⟨rfl,List.eq_nil_of_length_eq_zero h0⟩
 ·refine .inr ⟨g,0,cap,rfl,hn,hc,(Array.getElem?_eq_some_iff.1 hg).1,fun i hi=>?_⟩
  have e:=prs_get ps i hi;have a:=World.ownsRow.cells h (g:=g) rfl _ _ e.1;have b:=World.ownsRow.cells h (g:=g) rfl _ _ e.2;rw[addr_plus]at a b;exact⟨a,by rw[Nat.add_assoc];exact b⟩
theorem OwnP.base {w:World} {B B':Nat} {v:Value} {ps:List Pr} (h:OwnP w B v ps) (hB:B'<=B):OwnP w B' v ps:=ownsRow_base h hB
theorem OwnP.kept {w w':World} {B:Nat} {v:Value} {ps:List Pr} {row:Option Nat} (h:OwnP w B v ps) (hg:w.grownBy w' row) (hr:∀k,row=some k->k<B):OwnP w' B v ps:=by
 refine World.ownsRow.kept h hg ?_;cases hv:v.ownBlock with
 |none=>exact .inl rfl
 |some k=>exact .inr (fun e=>by have:=(World.ownsRow.lt h k hv).1;have:=hr k e.symm;omega)
theorem OwnP.keep {w w':World} {B:Nat} {v:Value} {ps:List Pr} {row:Option Nat} (h:OwnP w B v ps) (hg:w.grownBy w' row) (hr:v.ownBlock≠row):OwnP w' B v ps:=World.ownsRow.kept h hg (.inr hr)
theorem OwnP.alloc {w:World} {B:Nat} {v:Value} {ps:List Pr} (h:OwnP w B v ps) (o:Obj):OwnP (w.alloc o) B v ps:=World.ownsRow.alloc h o
theorem OwnP.below {w w':World} {B:Nat} {v:Value} {ps:List Pr} (h:OwnP w B v ps) (hb:Below w.heap.size w w'):OwnP w' B v ps:=h.kept (row:=none) (grownBy_below hb) (fun _ e=>by cases e)
theorem OwnP.nil (w:World) (B:Nat):OwnP w B (.slice none 0 0) []:=World.ownsRow_nil w B _ 2
theorem OwnP.form {w:World} {B:Nat} {v:Value} {ps:List Pr} (h:OwnP w B v ps):∃x c,v=.slice x ps.length c/\ps.length<=c/\c<=maxLen:=h.rd.form
theorem pair_info:(Tryz.prog.info? 213).map (fun i=>(i.zero,i.size,i.bytes))=some (some (.agg #[.int .i64 0,.int .i64 0]),2,16):=by kernel_rfl
theorem pair_empty (w:World) (B:Nat) (hB:B<=w.heap.size):OwnP (w.alloc (.cells #[] 213)) B (.slice (some ⟨w.heap.size,0,none⟩) 0 0) []:=
 World.ownsRow_lit (base:=B) (e:=213) (size:=2) w #[] 0 hB (by simp[maxLen]) (by simp)
def sumP (ps:List Pr):Int:=(ps.map (·.2)).sum
theorem sumP_append (ps qs:List Pr):sumP (ps++qs)=sumP ps+sumP qs:=by simp[sumP]
theorem take_succ_pr (ps:List Pr) (k:Nat) (h:k<ps.length):ps.take (k+1)=ps.take k++[pr ps k]:=by
 rw[List.take_succ_eq_append_getElem h];simp[pr,h]
theorem sumP_succ (ps:List Pr) (k:Nat) (h:k<ps.length):sumP (ps.take (k+1))=sumP (ps.take k)+(pr ps k).2:=by
 rw[take_succ_pr ps k h,sumP_append];simp[sumP]
def TopG (ps:List Pr) (i:Nat):Prop:=((0<=(pr ps i).1/\(pr ps i).1<=63)/\1<=(pr ps i).2/\(pr ps i).2<=2000)/\(0<i->(pr ps (i - 1)).1<(pr ps i).1)
instance (ps:List Pr) (i:Nat):Decidable (TopG ps i):=by unfold TopG;infer_instance
def TopP (ps:List Pr) (lost all:Int):Prop:=(ps.length<=4/\(0<=lost/\lost<=2000)/\0<=all/\all<=2000)/\(∀i,i<ps.length->TopG ps i)/\sumP ps+5 * lost<=all
instance (ps:List Pr) (lost all:Int):Decidable (TopP ps lost all):=by unfold TopP;infer_instance
def topB (ps:List Pr) (lost all:Int):Bool:=decide (TopP ps lost all)
theorem topB_iff (ps:List Pr) (lost all:Int):topB ps lost all=true↔TopP ps lost all:=by simp[topB]
theorem topB_no {ps:List Pr} {lost all:Int} (h:¬TopP ps lost all):topB ps lost all=false:=by simpa[topB]using h
def lastT (ps:List Pr) (k:Nat):Int:=if k=0 then -1 else (pr ps (k - 1)).1
theorem sumP_bd {ps:List Pr} {k:Nat} (hk:k<=ps.length) (h:∀i,i<k->TopG ps i):0<=sumP (ps.take k)/\sumP (ps.take k)<=2000 * k:=by
 induction k with
 |zero=>simp[sumP]
 |succ k ih=>
  have:=ih (by omega) (fun i hi=>h i (by omega));have g:=(h k (by omega)).1.2;rw[sumP_succ ps k (by omega)];omega
theorem lastT_bd {ps:List Pr} {k:Nat} (h:∀i,i<k->TopG ps i): -1<=lastT ps k/\lastT ps k<=63:=by
 unfold lastT
 split
 ·omega
 ·have:=(h (k - 1) (by omega)).1.1;omega
theorem topG_iff {ps:List Pr} {k:Nat} (h:∀i,i<k->TopG ps i):TopG ps k↔(lastT ps k<(pr ps k).1/\(pr ps k).1<64)/\1<=(pr ps k).2/\(pr ps k).2<=2000:=by
 have hb:=lastT_bd h;unfold TopG;unfold lastT at hb ⊢
 split
 ·subst_vars;simp;omega
 ·have:0<k:=by omega
  simp only[this,true_implies];rw[if_neg (by omega)]at hb;omega
theorem lastT_succ (ps:List Pr) (k:Nat):lastT ps (k+1)=(pr ps k).1:=by unfold lastT;rw[if_neg (by omega)];rfl
theorem isCount_yes (a:Int) (w:World) (h:0<=a/\a<=2000):
  Calls Tryz.prog 180 #[.int .i64 a] w fun e w'=>e=.returned (.bool true)/\w=w':=by
 obtain⟨h0,h1⟩:=h;go_enter Tryz.func180,Tryz.ntmps180;go_wp2;go_ret;exact⟨rfl,rfl⟩
theorem isCount_no (a:Int) (w:World) (h:¬(0<=a/\a<=2000)):
  Calls Tryz.prog 180 #[.int .i64 a] w fun e w'=>e=.returned (.bool false)/\w=w':=by
 by_cases h0:0<=a
 ·have h1:¬a<=2000:=by omega
  clear h;go_enter Tryz.func180,Tryz.ntmps180;go_wp2;go_ret;exact⟨rfl,rfl⟩
 ·clear h
  go_enter Tryz.func180,Tryz.ntmps180;go_wp2;go_ret;exact⟨rfl,rfl⟩
theorem imTopOk_in (w:World) (x:Option Addr) (n c:Nat) (ps:List Pr) (lost all:Int) (hl:ps.length=n) (hp:Prs w (.slice x n c) ps) (hn:n<=4) (hlo:0<=lost/\lost<=2000) (hal:0<=all/\all<=2000):
  Calls Tryz.prog 177 #[.agg #[.slice x n c,.int .i64 lost,.int .i64 all]] w fun e w'=>e=.returned (.bool (topB ps lost all))/\Below w.heap.size w w':=by
 have hA:=(Below.refl w.heap.size w).alloc lr_ (.cells #[.slice x n c,.int .i64 lost,.int .i64 all] 41);have HP:=hd_ (hp.cells);have HL:=hd_ hl;have HA:=hd_ hA;have KL:Hid (∀W,Calls Tryz.prog 180 #[.int .i64 lost] W fun e w'=>e=.returned (.bool true)/\W=w'):=fun W=>isCount_yes lost W hlo
 have KA:Hid (∀W,Calls Tryz.prog 180 #[.int .i64 all] W fun e w'=>e=.returned (.bool true)/\W=w'):=fun W=>isCount_yes all W hal
 have hn':¬(4:Int)<(n:Int):=by omega
 have c2:(w.alloc (.cells #[.slice x n c,.int .i64 lost,.int .i64 all] 41)).cell? ⟨w.heap.size,2,none⟩=some (.int .i64 all):=by simp
 have C2:=hd_ c2;obtain⟨lo0,lo1⟩:=hlo;have HAL:=hd_ hal;clear hl hp hA c2 hal;go_enter Tryz.func177,Tryz.ntmps177
 go_wp2_with fail
 refine (KL.out _).mono ?_;rintro e w1 ⟨rfl,rfl⟩
 go_wp2_with fail
 refine (KA.out _).mono ?_;rintro e w1 ⟨rfl,rfl⟩;go_wp2;go_loopw [3,4,29] (fun tg la i wr=>∃k:Nat,k<=n/\i=.int .i64 k/\la=.int .i64 (lastT ps k)/\tg=.int .i64 (lost * 5+sumP (ps.take k))/\(∀i,i<k->TopG ps i)/\Below (w.heap.size+1) (w.alloc (.cells #[.slice x n c,.int .i64 lost,.int .i64 all] 41)) wr) (fun _ _ i _=>n - (intOf i).toNat)
 case atStart=>exact⟨0,Nat.zero_le _,rfl,rfl,by simp[sumP],fun _ h=>absurd h (Nat.not_lt_zero _),Below.refl _ _⟩
 case round=>
  obtain⟨k,hk,rfl,rfl,rfl,hg,hbl⟩:=hrel;have G:=hd_ hg;have I:=hd_ (topG_iff hg);have HB:=hd_ hbl;have hsb:=sumP_bd (by rw[HL.out];exact hk) hg;have cw:wr.cell? ⟨w.heap.size,2,none⟩=some (.int .i64 all):=(HB.out.cell (p:=⟨w.heap.size,2,none⟩) (by simp)).trans C2.out
  by_cases hlt:k<n
  ·obtain⟨b,o,rfl,hb,h1,h2⟩:=HP.out k (by rw[HL.out];exact hlt)
   have tr:∀j v,w.cell? ⟨b,j,none⟩=some v->wr.cell? ⟨b,j,none⟩=some v:=fun j v h=>by
    rw[HB.out.cell (p:=⟨b,j,none⟩) (by show b<_;omega),HA.out.cell (p:=⟨b,j,none⟩) hb];exact h
   replace h1:=tr _ _ h1;replace h2:=tr _ _ h2;have hs:=hd_ (sumP_succ ps k (by rw[HL.out];exact hlt));have hla:=hd_ (lastT_succ ps k);have hPr:Hid (∃q,q=pr ps k):=⟨_,rfl⟩
   generalize pr ps k=q at h1 h2 I hs hla;obtain⟨t,m⟩:=q;have hLb:=lastT_bd hg;generalize lastT ps k=L at I hLb ⊢;generalize sumP (ps.take k)=S at *;clear hg hbl tr hPr
   by_cases hx:t<=L
   ·have bad:Hid (topB ps lost all=false):=topB_no (fun q=>by have:=(I.out.1 (q.2.1 k (by rw[HL.out];exact hlt))).1.1;simp at this;omega)
    go_wp2;go_ret;exact⟨ret_bool bad.out.symm,(HA.out.trans (HB.out.mono (by simp))).alloc (by have:=HB.out.size;simp at this;omega) _⟩
   have hx':L<t:=by omega
   by_cases hy:64<=t
   ·have bad:Hid (topB ps lost all=false):=topB_no (fun q=>by have:=(I.out.1 (q.2.1 k (by rw[HL.out];exact hlt))).1.2;simp at this;omega)
    have KT:Hid (∀W,Calls Tryz.prog 106 #[.int .i64 t] W fun e w'=>e=.returned (.bool false)/\W=w'):=fun W=>isThing_no t W (.inr hy)
    go_wp2_with fail
    refine (KT.out _).mono ?_;rintro e w1 ⟨rfl,rfl⟩;go_wp2;go_ret;exact⟨ret_bool bad.out.symm,(HA.out.trans (HB.out.mono (by simp))).alloc (by have:=HB.out.size;simp at this;omega) _⟩
   have KT:Hid (∀W,Calls Tryz.prog 106 #[.int .i64 t] W fun e w'=>e=.returned (.bool true)/\W=w'):=fun W=>isThing_yes t W (by omega) (by omega)
   by_cases hm:m<1
   ·have bad:Hid (topB ps lost all=false):=topB_no (fun q=>by have:=(I.out.1 (q.2.1 k (by rw[HL.out];exact hlt))).2.1;simp at this;omega)
    go_wp2_with fail
    refine (KT.out _).mono ?_;rintro e w1 ⟨rfl,rfl⟩;go_wp2;go_ret;exact⟨ret_bool bad.out.symm,(HA.out.trans (HB.out.mono (by simp))).alloc (by have:=HB.out.size;simp at this;omega) _⟩
   by_cases hm2:2000<m
   ·have bad:Hid (topB ps lost all=false):=topB_no (fun q=>by have:=(I.out.1 (q.2.1 k (by rw[HL.out];exact hlt))).2.2;simp at this;omega)
    go_wp2_with fail
    refine (KT.out _).mono ?_;rintro e w1 ⟨rfl,rfl⟩;go_wp2;go_ret;exact⟨ret_bool bad.out.symm,(HA.out.trans (HB.out.mono (by simp))).alloc (by have:=HB.out.size;simp at this;omega) _⟩
   go_wp2_with fail
   refine (KT.out _).mono ?_;rintro e w1 ⟨rfl,rfl⟩;go_wp2;go_roundw
   case rel=>exact⟨k+1,by omega,by go_num,by rw[hla.out],by rw[hs.out];go_num,fun i hi=>by
        by_cases h:i<k
        · exact G.out i h
        · obtain rfl:i=k:=by omega
          exact I.out.2 ⟨⟨hx',by omega⟩,by omega,by omega⟩,HB.out.alloc (by have:=HB.out.size;simp at this;omega) _⟩
   case measure=>simp[intOf];omega
  ·obtain rfl:k=n:=by omega
   have e1:ps.take k=ps:=List.take_of_length_le (by rw[HL.out];exact Nat.le_refl _);rw[e1]at hsb ⊢;generalize hS:sumP ps=S at *;have HS:=hd_ hS;clear hg hbl e1 hS
   by_cases hle:lost * 5+S<=all
   ·have good:Hid (topB ps lost all=true):=(topB_iff _ _ _).2 ⟨⟨by rw[HL.out];exact hn,⟨lo0,lo1⟩,HAL.out⟩,fun i hi=>G.out i (by rw[HL.out]at hi;exact hi),by rw[HS.out];omega⟩
    go_wp2;go_ret;exact⟨ret_bool (by first|(rw[good.out];done)|(rw[good.out];simpa using hle)),HA.out.trans (HB.out.mono (by simp))⟩
   ·have bad:Hid (topB ps lost all=false):=topB_no (fun q=>by have:=q.2.2;rw[HS.out]at this;omega)
    go_wp2;go_ret;exact⟨ret_bool (by first|(rw[bad.out];done)|(rw[bad.out];simpa using hle)),HA.out.trans (HB.out.mono (by simp))⟩
theorem imTopOk_at (w:World) (u:Value) (ps:List Pr) (lost all:Int) (hp:Prs w u ps):
  Calls Tryz.prog 177 #[.agg #[u,.int .i64 lost,.int .i64 all]] w fun e w'=>e=.returned (.bool (topB ps lost all))/\Below w.heap.size w w':=by
 obtain⟨x,c,rfl,hc0,hc⟩:=hp.form;obtain⟨n,hn⟩:∃n,n=ps.length:=⟨_,rfl⟩
 by_cases h4:ps.length<=4
 ·by_cases hlo:0<=lost/\lost<=2000
  ·by_cases hal:0<=all/\all<=2000
   ·exact imTopOk_in w x _ c ps lost all rfl hp h4 hlo hal
   ·have bad:topB ps lost all=false:=topB_no (fun q=>hal q.1.2.2)
    rw[bad];have KL:Hid (∀W,Calls Tryz.prog 180 #[.int .i64 lost] W fun e w'=>e=.returned (.bool true)/\W=w'):=fun W=>isCount_yes lost W hlo
    have KA:Hid (∀W,Calls Tryz.prog 180 #[.int .i64 all] W fun e w'=>e=.returned (.bool false)/\W=w'):=fun W=>isCount_no all W hal
    rw[<-hn]at h4 ⊢;have hn':¬(4:Int)<(n:Int):=by omega
    clear hp hn bad hal hlo hc hc0;go_enter Tryz.func177,Tryz.ntmps177
    go_wp2_with fail
    refine (KL.out _).mono ?_;rintro e w1 ⟨rfl,rfl⟩
    go_wp2_with fail
    refine (KA.out _).mono ?_;rintro e w1 ⟨rfl,rfl⟩;go_wp2;go_ret;exact⟨rfl,(Below.refl _ _).alloc lr_ _⟩
  ·have bad:topB ps lost all=false:=topB_no (fun q=>hlo q.1.2.1)
   rw[bad];have KL:Hid (∀W,Calls Tryz.prog 180 #[.int .i64 lost] W fun e w'=>e=.returned (.bool false)/\W=w'):=fun W=>isCount_no lost W hlo
   rw[<-hn]at h4 ⊢;have hn':¬(4:Int)<(n:Int):=by omega
   clear hp hn bad hlo hc hc0;go_enter Tryz.func177,Tryz.ntmps177
   go_wp2_with fail
   refine (KL.out _).mono ?_;rintro e w1 ⟨rfl,rfl⟩;go_wp2;go_ret;exact⟨rfl,(Below.refl _ _).alloc lr_ _⟩
 ·have bad:topB ps lost all=false:=topB_no (fun q=>h4 q.1.1)
  rw[bad];rw[<-hn]at h4 ⊢;have hn':(4:Int)<(n:Int):=by omega
  clear hp hn bad hc hc0 h4;go_enter Tryz.func177,Tryz.ntmps177;go_wp2;go_ret;exact⟨rfl,(Below.refl _ _).alloc lr_ _⟩
theorem l3All_at (w:World) (x:Option Addr) (n c:Nat) (ps:List Pr) (hl:ps.length=n) (hp:Prs w (.slice x n c) ps) (hn:n<=4) (hg:∀i,i<n->TopG ps i):
  Calls Tryz.prog 277 #[.slice x n c] w fun e w'=>e=.returned (.int .i64 (sumP ps))/\w=w':=by
 have HP:=hd_ hp.cells;have HL:=hd_ hl;have G:=hd_ hg;clear hl hp hg;go_enter Tryz.func277,Tryz.ntmps277;go_wp2
 go_loop [3,4] (fun q i=>∃k:Nat,k<=n/\i=.int .i64 k/\q=.int .i64 (sumP (ps.take k))) (fun _ i=>n - (intOf i).toNat)
 case atStart=>exact⟨0,Nat.zero_le _,rfl,rfl⟩
 case round=>
  obtain⟨k,hk,rfl,rfl⟩:=hrel;have hsb:=sumP_bd (by rw[HL.out];exact hk) (fun i hi=>G.out i (by omega))
  by_cases hlt:k<n
  ·obtain⟨b,o,rfl,hb,h1,h2⟩:=HP.out k (by rw[HL.out];exact hlt)
   have g:=(G.out k hlt).1.2;have hs:=hd_ (sumP_succ ps k (by rw[HL.out];exact hlt));generalize pr ps k=q at h1 h2 hs g;obtain⟨t,m⟩:=q;generalize sumP (ps.take k)=S at *;obtain⟨g1,g2⟩:=g;go_wp2
   go_round
   case rel=>exact⟨k+1,by omega,by go_num,by rw[hs.out]⟩
   case measure=>simp[intOf];omega
  ·obtain rfl:k=n:=by omega
   have e1:ps.take k=ps:=List.take_of_length_le (by rw[HL.out];exact Nat.le_refl _);rw[e1];go_wp2;go_ret;exact⟨rfl,rfl⟩
theorem spTopOk_in (w:World) (x:Option Addr) (n c:Nat) (ps:List Pr) (lost all:Int) (hl:ps.length=n) (hp:Prs w (.slice x n c) ps) (hn:n<=maxLen):
  Calls Tryz.prog 221 #[.agg #[.slice x n c,.int .i64 lost,.int .i64 all]] w fun e w'=>e=.returned (.bool (topB ps lost all))/\Below w.heap.size w w':=by
 unfold maxLen at hn;have hA:=(Below.refl w.heap.size w).alloc lr_ (.cells #[.slice x n c,.int .i64 lost,.int .i64 all] 41);have c0:(w.alloc (.cells #[.slice x n c,.int .i64 lost,.int .i64 all] 41)).cell? ⟨w.heap.size,0,none⟩=some (.slice x n c):=by simp
 have c1:(w.alloc (.cells #[.slice x n c,.int .i64 lost,.int .i64 all] 41)).cell? ⟨w.heap.size,1,none⟩=some (.int .i64 lost):=by simp
 have c2:(w.alloc (.cells #[.slice x n c,.int .i64 lost,.int .i64 all] 41)).cell? ⟨w.heap.size,2,none⟩=some (.int .i64 all):=by simp
 have HC:=hd_ (And.intro c0 (And.intro c1 c2));have HPR:=hd_ hp;have HP:=hd_ hp.cells;have HL:=hd_ hl;have HA:=hd_ hA;clear hl hp hA c0 c1 c2;go_enter Tryz.func221,Tryz.ntmps221;go_wp2;go_loopw [3] (fun i wr=>∃k:Nat,k<=n/\i=.int .i64 k/\(∀i,i<k->TopG ps i)/\Below (w.heap.size+1) (w.alloc (.cells #[.slice x n c,.int .i64 lost,.int .i64 all] 41)) wr) (fun i _=>n - (intOf i).toNat)
 case atStart=>exact⟨0,Nat.zero_le _,rfl,fun _ h=>absurd h (Nat.not_lt_zero _),Below.refl _ _⟩
 case round=>
  obtain⟨k,hk,rfl,hg,hbl⟩:=hrel;have G:=hd_ hg;have HB:=hd_ hbl;have cw0:wr.cell? ⟨w.heap.size,0,none⟩=some (.slice x n c):=(HB.out.cell (p:=⟨w.heap.size,0,none⟩) (by simp)).trans HC.out.1;have cw1:wr.cell? ⟨w.heap.size,1,none⟩=some (.int .i64 lost):=(HB.out.cell (p:=⟨w.heap.size,1,none⟩) (by simp)).trans HC.out.2.1
  have cw2:wr.cell? ⟨w.heap.size,2,none⟩=some (.int .i64 all):=(HB.out.cell (p:=⟨w.heap.size,2,none⟩) (by simp)).trans HC.out.2.2;have FIN:=hd_ (HA.out.trans (HB.out.mono (Nat.le_succ _)))
  by_cases hlt:k<n
  ·obtain⟨b,o,rfl,hb,h1,h2⟩:=HP.out k (by rw[HL.out];exact hlt)
   have tr:∀j v,w.cell? ⟨b,j,none⟩=some v->wr.cell? ⟨b,j,none⟩=some v:=fun j v h=>by
    rw[HB.out.cell (p:=⟨b,j,none⟩) (by show b<_;omega),HA.out.cell (p:=⟨b,j,none⟩) hb];exact h
   have TR:=hd_ tr;replace h1:=tr _ _ h1;replace h2:=tr _ _ h2;have HQ:Hid (TopG ps k↔(((0<=(pr ps k).1/\(pr ps k).1<=63)/\1<=(pr ps k).2/\(pr ps k).2<=2000)/\(0<k->(pr ps (k - 1)).1<(pr ps k).1))):=Iff.rfl;have bad:Hid (¬TopG ps k->topB ps lost all=false):=fun h=>topB_no (fun q=>h (q.2.1 k (by rw[HL.out];exact hlt)))
   generalize pr ps k=q at h1 h2 HQ;obtain⟨t,m⟩:=q;have k0:(0:Int)<=(k:Int):=by omega
   have kn:(k:Int)<(n:Int):=by omega
   clear hg hbl tr
   by_cases ht:t<0\/63<t
   ·have bd:=hd_ (bad.out (fun q=>by have:=(HQ.out.1 q).1.1;simp at this;omega))
    clear HQ bad;go_wp2
    go_quiet (with_reducible exact quiet_same' (l6In_no _ _ _ _ ht))
    go_wp2;go_ret;exact⟨ret_bool bd.out.symm,below_drewN FIN.out _⟩
   have ht0:0<=t:=by omega
   have ht1:t<=63:=by omega
   by_cases hm:m<1\/2000<m
   ·have bd:=hd_ (bad.out (fun q=>by have:=(HQ.out.1 q).1.2;simp at this;omega))
    clear HQ bad;go_wp2
    go_quiet (first|(with_reducible exact quiet_same' (l6In_yes _ _ _ _ ht0 ht1))|(with_reducible exact quiet_same' (l6In_no _ _ _ _ hm)))
    go_wp2;go_ret;exact⟨ret_bool bd.out.symm,below_drewN FIN.out _⟩
   have hm0:1<=m:=by omega
   have hm1:m<=2000:=by omega
   rcases Nat.eq_zero_or_pos k with h0|h0
   ·subst h0
    have good:=hd_ (HQ.out.2 ⟨⟨⟨ht0,ht1⟩,hm0,hm1⟩,fun h=>absurd h (Nat.lt_irrefl _)⟩);clear HQ bad;have e0:o+0 * 2=o:=by omega
    rw[e0]at h1 h2;go_wp2
    go_quiet (first|(with_reducible exact quiet_same' (l6In_yes _ _ _ _ ht0 ht1))|(with_reducible exact quiet_same' (l6In_yes _ _ _ _ hm0 hm1)))
    go_wp2;go_roundw
    case rel=>exact⟨1,by omega,by go_num,fun i hi=>by
          obtain rfl:i=0:=by omega
          exact good.out,below_drewN HB.out _⟩
    case measure=>simp[intOf];omega
   ·obtain⟨j,rfl⟩:∃j,k=j+1:=⟨k - 1,by omega⟩
    obtain⟨b',o',e',hb',h3,_⟩:=HP.out j (by rw[HL.out];omega);cases e';replace h3:=TR.out _ _ h3;rw[Nat.add_sub_cancel]at HQ;generalize pr ps j=q' at h3 HQ;obtain⟨t',m'⟩:=q';have p0:(0:Int)<((j+1:Nat):Int):=by omega
    have e1:((j+1:Nat):Int) - 1=(j:Int):=by omega
    have j0:(0:Int)<=(j:Int):=by omega
    have jn:(j:Int)<(n:Int):=by omega
    by_cases hyx:t<=t'
    ·have bd:=hd_ (bad.out (fun q=>by have:=(HQ.out.1 q).2 h0;simp at this;omega))
     have hd:decide (t<=t')=true:=decide_eq_true hyx;clear HQ bad;go_wp2
     go_quiet (first|(with_reducible exact quiet_same' (l6In_yes _ _ _ _ ht0 ht1))|(with_reducible exact quiet_same' (l6In_yes _ _ _ _ hm0 hm1)))
     go_wp2;go_ret;exact⟨ret_bool bd.out.symm,below_drewN FIN.out _⟩
    ·have good:=hd_ (HQ.out.2 ⟨⟨⟨ht0,ht1⟩,hm0,hm1⟩,fun _=>by simp;omega⟩)
     have hd:decide (t<=t')=false:=decide_eq_false hyx;clear HQ bad;go_wp2
     go_quiet (first|(with_reducible exact quiet_same' (l6In_yes _ _ _ _ ht0 ht1))|(with_reducible exact quiet_same' (l6In_yes _ _ _ _ hm0 hm1)))
     go_wp2;go_roundw
     case rel=>exact⟨j+1+1,by omega,by go_num,fun i hi=>by
            by_cases h:i<j+1
            · exact G.out i h
            · obtain rfl:i=j+1:=by omega
              exact good.out,below_drewN HB.out _⟩
     case measure=>simp[intOf];omega
  ·obtain rfl:k=n:=by omega
   clear hg hbl
   by_cases h4:4<k
   ·have bd:Hid (topB ps lost all=false):=topB_no (fun q=>by have:=q.1.1;rw[HL.out]at this;omega)
    have h4':decide ((k:Int)<=4)=false:=decide_eq_false (by omega);go_wp2
    go_quiet (fail)
    go_wp2;go_ret;exact⟨ret_bool bd.out.symm,below_drewN FIN.out _⟩
   have h4':(k:Int)<=4:=by omega
   by_cases ha:all<0\/2000<all
   ·have bd:Hid (topB ps lost all=false):=topB_no (fun q=>by have:=q.1.2.2;omega)
    go_wp2
    go_quiet (first|(with_reducible exact quiet_same' (l6In_no _ _ _ _ ha)))
    go_wp2;go_ret;exact⟨ret_bool bd.out.symm,below_drewN FIN.out _⟩
   have ha0:0<=all:=by omega
   have ha1:all<=2000:=by omega
   by_cases hl:lost<0\/2000<lost
   ·have bd:Hid (topB ps lost all=false):=topB_no (fun q=>by have:=q.1.2.1;omega)
    go_wp2
    go_quiet (first|(with_reducible exact quiet_same' (l6In_yes _ _ _ _ ha0 ha1))|(with_reducible exact quiet_same' (l6In_no _ _ _ _ hl)))
    go_wp2;go_ret;exact⟨ret_bool bd.out.symm,below_drewN FIN.out _⟩
   have hl0:0<=lost:=by omega
   have hl1:lost<=2000:=by omega
   have KA:Hid (∀q,Calls Tryz.prog 277 #[.slice x k c] (wr.drewN q) fun e w'=>e=.returned (.int .i64 (sumP ps))/\wr.drewN q=w'):=fun q=>
    l3All_at _ x k c ps HL.out (Prs.below HPR.out (below_drewN FIN.out q) lr_) (by omega) G.out
   have hsb:=sumP_bd (k:=k) (by rw[HL.out];exact Nat.le_refl _) G.out;rw[List.take_of_length_le (by rw[HL.out];exact Nat.le_refl _)]at hsb;have HI:=hd_ (topB_iff ps lost all);have HF:Hid (sumP ps+5 * lost<=all->topB ps lost all=true):=fun h=>(topB_iff _ _ _).2 ⟨⟨by rw[HL.out];omega,⟨hl0,hl1⟩,ha0,ha1⟩,fun i hi=>G.out i (by rw[HL.out]at hi;exact hi),h⟩
   have HN:Hid (¬sumP ps+5 * lost<=all->topB ps lost all=false):=fun h=>topB_no (fun q=>h q.2.2)
   generalize sumP ps=S at *;have ws:IntKind.i64.wrap (5 * lost)=5 * lost:=IntWalk.i64_in _ (by omega);have ws2:IntKind.i64.wrap (S+5 * lost)=S+5 * lost:=IntWalk.i64_in _ (by omega)
   by_cases hle:S+5 * lost<=all
   ·have fv:=hd_ (HF.out hle)
    go_wp2
    go_quiet (first|(with_reducible exact quiet_same' (l6In_yes _ _ _ _ ha0 ha1))|(with_reducible exact quiet_same' (l6In_yes _ _ _ _ hl0 hl1))|(with_reducible exact quiet_same' (KA.out _)))
    go_wp2;go_ret;exact⟨ret_bool (by first|(rw[fv.out];done)|(rw[fv.out];simp;omega)|(rw[fv.out];simpa using hle)),below_drewN FIN.out _⟩
   ·have fv:=hd_ (HN.out hle)
    go_wp2
    go_quiet (first|(with_reducible exact quiet_same' (l6In_yes _ _ _ _ ha0 ha1))|(with_reducible exact quiet_same' (l6In_yes _ _ _ _ hl0 hl1))|(with_reducible exact quiet_same' (KA.out _)))
    go_wp2;go_ret;exact⟨ret_bool (by first|(rw[fv.out];done)|(rw[fv.out];simp;omega)|(rw[fv.out];simpa using hle)),below_drewN FIN.out _⟩
theorem spTopOk_at (w:World) (u:Value) (ps:List Pr) (lost all:Int) (hp:Prs w u ps):
  Calls Tryz.prog 221 #[.agg #[u,.int .i64 lost,.int .i64 all]] w fun e w'=>e=.returned (.bool (topB ps lost all))/\Below w.heap.size w w':=by
 obtain⟨x,c,rfl,hc0,hc⟩:=hp.form;exact spTopOk_in w x _ c ps lost all rfl hp (by omega)
def tot:List Pr->Int->Int
 | [],_=>0
 |p::ps,t=>(if p.1=t then p.2 else 0)+tot ps t
theorem tot_append (ps qs:List Pr) (t:Int):tot (ps++qs) t=tot ps t+tot qs t:=by
 induction ps with
 |nil=>simp[tot]
 |cons p ps ih=>simp only[List.cons_append,tot,ih];omega
theorem tot_one (p:Pr) (t:Int):tot [p] t=if p.1=t then p.2 else 0:=by simp[tot]
theorem tot_none {ps:List Pr} {t:Int} (h:∀p ∈ ps,p.1≠t):tot ps t=0:=by
 induction ps with
 |nil=>rfl
 |cons p ps ih=>
  have h1:=h p (by simp);simp only[tot,if_neg h1,ih (fun q hq=>h q (by simp[hq]))];rfl
def Asc (ps:List Pr):Prop:=∀i,0<i->i<ps.length->(pr ps (i - 1)).1<(pr ps i).1
theorem Asc.lt {ps:List Pr} (h:Asc ps) {i:Nat}:∀{j:Nat},i<j->j<ps.length->(pr ps i).1<(pr ps j).1:=by
 intro j
 induction j with
 |zero=>intro h0;omega
 |succ j ih=>
  intro hij hj;have h1:=h (j+1) (by omega) hj;rw[Nat.add_sub_cancel]at h1
  by_cases e:i=j
  ·rw[e];exact h1
  ·have:=ih (by omega) (by omega);omega
theorem pr_take {ps:List Pr} {k i:Nat} (h:i<k):pr (ps.take k) i=pr ps i:=by simp[pr,h]
theorem tot_succ (ps:List Pr) (k:Nat) (t:Int) (h:k<ps.length):tot (ps.take (k+1)) t=tot (ps.take k) t+if (pr ps k).1=t then (pr ps k).2 else 0:=by
 rw[take_succ_pr ps k h,tot_append,tot_one]
theorem Asc.before {ps:List Pr} (h:Asc ps) {k:Nat} {t:Int} (hk:k<ps.length) (ht:(pr ps k).1<=t):tot (ps.take k) t=0:=tot_none fun p hp=>by
 obtain⟨i,hi,rfl⟩:=pr_at hp;have hi':i<k:=by simp at hi;omega
 rw[pr_take hi'];have:=h.lt hi' hk;omega
theorem Asc.at {ps:List Pr} (h:Asc ps) {k:Nat} (hk:k<ps.length):tot ps (pr ps k).1=(pr ps k).2:=by
 have e1:tot (ps.drop (k+1)) (pr ps k).1=0:=tot_none fun p hp=>by
  obtain⟨i,hi,rfl⟩:=pr_at hp;have e2:pr (ps.drop (k+1)) i=pr ps (k+1+i):=by simp[pr]
  rw[e2];simp at hi;have:=h.lt (i:=k) (j:=k+1+i) (by omega) (by omega);omega
 have e2:tot ps (pr ps k).1=tot (ps.take (k+1)) (pr ps k).1+tot (ps.drop (k+1)) (pr ps k).1:=by rw[<-tot_append,List.take_append_drop]
 rw[e2,e1,tot_succ ps k _ hk,h.before hk (Int.le_refl _)];simp
theorem TopP.asc {ps:List Pr} {lost all:Int} (h:TopP ps lost all):Asc ps:=fun i h0 hi=>(h.2.1 i hi).2 h0
def isT (t:Int):Bool:=decide (0<=t/\t<64)
theorem isT_yes {t:Int} (h:isT t=true):0<=t/\t<64:=by simpa[isT]using h
theorem isT_no {t:Int} (h:isT t=false):t<0\/64<=t:=by simp[isT]at h;omega
theorem tot_bd {ps:List Pr} {t:Int} (h:∀i,i<ps.length->TopG ps i) (ha:Asc ps):0<=tot ps t/\tot ps t<=2000:=by
 by_cases hx:∃i,i<ps.length/\(pr ps i).1=t
 ·obtain⟨i,hi,rfl⟩:=hx
  rw[ha.at hi];have:=(h i hi).1.2;omega
 ·rw[tot_none fun p hp e=>by obtain⟨i,hi,rfl⟩:=pr_at hp;exact hx ⟨i,hi,e⟩]
  omega
theorem cell_two_new (w:World) (x y:Value) (t:TypeId):∀j u,[x,y][j]? =some u->(w.alloc (.cells #[x,y] t)).cell? ((⟨w.heap.size,0,none⟩:Addr).add j)=some u:=by
 intro j u hj
 match j,hj with
 | 0,hj=>simp at hj;subst hj;simp[Addr.add]
 | 1,hj=>simp at hj;subst hj;simp[Addr.add]
theorem grownBy_of_drew' {w w':World} {row:Option Nat} (h:w.drew.grownBy w' row):w.grownBy w' row:=⟨h.os,h.tape,h.output,h.size,h.block⟩
def putP:List Pr->Pr->List Pr
 | [],x=>[x]
 |p::ps,x=>if p.1<x.1 then p::putP ps x else if p.1=x.1 then (x.1,x.2+p.2)::ps else x::p::ps
def toCome (ps:List Pr) (x:Pr) (d:Bool):List Pr:=if d then ps else putP ps x
theorem putP_len (ps:List Pr) (x:Pr):(putP ps x).length<=ps.length+1:=by
 induction ps with
 |nil=>simp[putP]
 |cons p ps ih=>
  unfold putP
  split
  ·simp;omega
  ·split<;>simp
theorem drop_pr {ps:List Pr} {k:Nat} (h:k<ps.length):ps.drop k=pr ps k::ps.drop (k+1):=by
 rw[List.drop_eq_getElem_cons h];simp[pr,h]
theorem own_snocP {w:World} {B no:Nat} {v:Value} {os:List Pr} {t m:Int} (h:w.ownsRow B 213 2 v (no+1) (prs os++[.int .i64 t,.int .i64 m])) (hn:no=os.length):OwnP w B v (os++[(t,m)]):=by
 unfold OwnP;rw[prs_snoc,List.length_append, <-hn];exact h
theorem below_appendP {B:Nat} {w wr w':World} {o:Obj} {e:TypeId} {size:Nat} {v:Value} {n:Nat} {xs:List Value} (hb:Below B w wr) (hB:B<=wr.heap.size) (ho:wr.ownsRow B e size v n xs) (hg:(wr.alloc o).grownBy w' v.ownBlock):Below B w w':=
 (hb.alloc hB o).grown hg (Nat.le_trans hB (by simp)) (fun k e=>(ho.lt k e).1)
theorem cell_appendP {B:Nat} {wr w':World} {o:Obj} {e:TypeId} {size:Nat} {v u:Value} {n:Nat} {xs:List Value} {a:Addr} (hc:wr.cell? a=some u) (ha:a.block<B) (ho:wr.ownsRow B e size v n xs) (hg:(wr.alloc o).grownBy w' v.ownBlock):w'.cell? a=some u:=
 hg.cell ((World.cell?_alloc_lt (h:=World.block_lt_of_cell? _ _ hc) ..).trans hc) (fun h=>by have:=(ho.lt _ h.symm).1;omega)
theorem l3Put_in (w:World) (x:Option Addr) (n c:Nat) (ps:List Pr) (t m:Int) (hl:ps.length=n) (hp:Prs w (.slice x n c) ps) (hn:n<=100) (hm:∀i,i<n->0<=(pr ps i).2/\(pr ps i).2<=100000) (m0:0<=m) (m1:m<=100000):
  Calls Tryz.prog 226 #[.slice x n c,.agg #[.int .i64 t,.int .i64 m]] w fun e w'=>∃v,e=.returned v/\OwnP w' w.heap.size v (putP ps (t,m))/\Below w.heap.size w w':=by
 obtain⟨i0,hi,hz0,hz1,hz2⟩:=info_parts pair_info;have HP:=hd_ hp.cells;have HL:=hd_ hl;have HM:=hd_ hm;have hA:=(Below.refl w.heap.size w).alloc lr_ (.cells #[.int .i64 t,.int .i64 m] 213);have HA:=hd_ hA;have C0:Hid ((w.alloc (.cells #[.int .i64 t,.int .i64 m] 213)).cell? ⟨w.heap.size,0,none⟩=some (.int .i64 t)):=by show _=_;simp
 have C1:Hid ((w.alloc (.cells #[.int .i64 t,.int .i64 m] 213)).cell? ⟨w.heap.size,1,none⟩=some (.int .i64 m)):=by show _=_;simp
 have E0:Hid (OwnP ((w.alloc (.cells #[.int .i64 t,.int .i64 m] 213)).alloc (.cells #[] 213)) (w.heap.size+1) (.slice (some ⟨w.heap.size+1,0,none⟩) 0 0) []):=by
  have h:=pair_empty (w.alloc (.cells #[.int .i64 t,.int .i64 m] 213)) (w.heap.size+1) (by simp);have e:(w.alloc (.cells #[.int .i64 t,.int .i64 m] 213)).heap.size=w.heap.size+1:=by simp
  rw[e]at h;exact h
 clear hl hp hm hA;go_enter Tryz.func226,Tryz.ntmps226;go_wp2;go_loopw [5,6,7] (fun u d i wr=>∃(k:Nat) (dn:Bool) (os:List Pr),k<=n/\i=.int .i64 k/\d=.bool dn/\os.length<=k+dn.toNat/\OwnP wr (w.heap.size+1) u os/\os++toCome (ps.drop k) (t,m) dn=putP ps (t,m)/\Below (w.heap.size+1) (w.alloc (.cells #[.int .i64 t,.int .i64 m] 213)) wr) (fun _ _ i _=>n - (intOf i).toNat)
 case atStart=>exact⟨0,false,[],Nat.zero_le _,rfl,rfl,Nat.zero_le _,E0.out,rfl,(Below.refl _ _).alloc (by simp) _⟩
 case round=>
  obtain⟨k,dn,os,hk,rfl,rfl,hos,hown,hput,hbl⟩:=hrel;obtain⟨y,cp,hu,_,_⟩:=hown.form;obtain⟨no,hno⟩:∃no,no=os.length:=⟨_,rfl⟩
  have hdn:dn.toNat<=1:=by cases dn<;>simp
  have hno2:no<=200:=by omega
  clear hdn;rw[<-hno]at hu;subst hu;have HN:=hd_ hno;have HPT:=hd_ hput;have HB:=hd_ hbl;have hsz:=hbl.size;simp only[World.size_alloc]at hsz;have ho:wr.ownsRow (w.heap.size+1) 213 2 (.slice y no cp) no (prs os):=by have h:=hown;unfold OwnP at h;rw[<-hno]at h;exact h
  have HO:=hd_ ho;have b0:wr.cell? ⟨w.heap.size,0,none⟩=some (.int .i64 t):=(hbl.cell (p:=⟨w.heap.size,0,none⟩) (by simp)).trans C0.out;have b1:wr.cell? ⟨w.heap.size,1,none⟩=some (.int .i64 m):=(hbl.cell (p:=⟨w.heap.size,1,none⟩) (by simp)).trans C1.out;have hlt1:w.heap.size<w.heap.size+1:=Nat.lt_succ_self _;clear hput hbl hown hno ho
  by_cases hlt:k<n
  ·obtain⟨b,o,rfl,hb,h1,h2⟩:=HP.out k (by rw[HL.out];exact hlt)
   have tr:∀j v,w.cell? ⟨b,j,none⟩=some v->wr.cell? ⟨b,j,none⟩=some v:=fun j v h=>by
    rw[HB.out.cell (p:=⟨b,j,none⟩) (by show b<_;omega),HA.out.cell (p:=⟨b,j,none⟩) hb];exact h
   replace h1:=tr _ _ h1;replace h2:=tr _ _ h2;have hb1:b<w.heap.size+1:=by omega
   have hd:=drop_pr (ps:=ps) (k:=k) (by rw[HL.out];exact hlt);have hmm:=HM.out k hlt;have H200:no<=200:=hno2;generalize pr ps k=q at h1 h2 hd hmm;obtain⟨t',m'⟩:=q;simp only at h1 h2 hmm;rw[hd]at HPT;obtain⟨mm0,mm1⟩:=hmm;clear hd tr;have k0:(0:Int)<=(k:Int):=by omega
   have kn:(k:Int)<(n:Int):=by omega
   cases dn with
   |true=>
    have hos1:os.length<=k+1:=hos;clear hos;go_wp2
    go_quiet (fail)
    obtain⟨wq,hwq⟩:∃wq,wq=wr.drewN nq:=⟨_,rfl⟩
    have HOq:Hid (wq.ownsRow (w.heap.size+1) 213 2 (.slice y no cp) no (prs os)):=by rw[hwq];exact HO.out
    have HBq:Hid (Below (w.heap.size+1) (w.alloc (.cells #[.int .i64 t,.int .i64 m] 213)) wq):=by rw[hwq];exact below_drewN HB.out _
    have hszq:w.heap.size+1<=wq.heap.size:=by rw[hwq];exact hsz
    have h1q:wq.cell? ⟨b,o+k * 2,none⟩=some (.int .i64 t'):=by rw[hwq];exact h1
    have h2q:wq.cell? ⟨b,o+k * 2+1,none⟩=some (.int .i64 m'):=by rw[hwq];exact h2
    have b0q:wq.cell? ⟨w.heap.size,0,none⟩=some (.int .i64 t):=by rw[hwq];exact b0
    have b1q:wq.cell? ⟨w.heap.size,1,none⟩=some (.int .i64 m):=by rw[hwq];exact b1
    rw[<-hwq];clear hwq h1 h2 b0 b1 HO HB hsz
    go_wp2_with (first|(at_builtin;refine wpList_append_own _ rfl _ _ 39 rfl (w.heap.size+1) 213 i0 (.agg #[.int .i64 0,.int .i64 0]) 2 16 Tryz.underlying39 hi hz0 hz1 hz2 rfl (by decide) _ _ _ rfl (HOq.out.alloc _) ⟨wq.heap.size,0,none⟩ 1 1 [.int .i64 t',.int .i64 m'] rfl rfl (cell_two_new _ _ _ _) (by simp[Value.oneCell']) (by unfold maxLen;omega) (by omega) (by simp;omega) ?_;intro v1 w1 ho1 hg1 _;obtain⟨g_v1,c_v1,rfl,_,_⟩:=World.ownsRow.form ho1 (Nat.succ_pos _)))
    go_roundw
    case rel=>exact⟨k+1,true,os++[(t',m')],by omega,by go_num,rfl,by simp;omega,own_snocP ho1 HN.out,by rw[<-HPT.out];simp[toCome],below_appendP HBq.out hszq HOq.out hg1⟩
    case measure=>simp[intOf];omega
   |false=>
    have hos1:os.length<=k:=hos;clear hos
    by_cases hlt2:t'<t
    ·have hD:decide (t<=t')=false:=decide_eq_false (by omega)
     go_wp2
     go_quiet (fail)
     obtain⟨wq,hwq⟩:∃wq,wq=wr.drewN nq:=⟨_,rfl⟩
     have HOq:Hid (wq.ownsRow (w.heap.size+1) 213 2 (.slice y no cp) no (prs os)):=by rw[hwq];exact HO.out
     have HBq:Hid (Below (w.heap.size+1) (w.alloc (.cells #[.int .i64 t,.int .i64 m] 213)) wq):=by rw[hwq];exact below_drewN HB.out _
     have hszq:w.heap.size+1<=wq.heap.size:=by rw[hwq];exact hsz
     have h1q:wq.cell? ⟨b,o+k * 2,none⟩=some (.int .i64 t'):=by rw[hwq];exact h1
     have h2q:wq.cell? ⟨b,o+k * 2+1,none⟩=some (.int .i64 m'):=by rw[hwq];exact h2
     have b0q:wq.cell? ⟨w.heap.size,0,none⟩=some (.int .i64 t):=by rw[hwq];exact b0
     have b1q:wq.cell? ⟨w.heap.size,1,none⟩=some (.int .i64 m):=by rw[hwq];exact b1
     rw[<-hwq];clear hwq h1 h2 b0 b1 HO HB hsz
     go_wp2_with (first|(at_builtin;refine wpList_append_own _ rfl _ _ 39 rfl (w.heap.size+1) 213 i0 (.agg #[.int .i64 0,.int .i64 0]) 2 16 Tryz.underlying39 hi hz0 hz1 hz2 rfl (by decide) _ _ _ rfl (HOq.out.alloc _) ⟨wq.heap.size,0,none⟩ 1 1 [.int .i64 t',.int .i64 m'] rfl rfl (cell_two_new _ _ _ _) (by simp[Value.oneCell']) (by unfold maxLen;omega) (by omega) (by simp;omega) ?_;intro v1 w1 ho1 hg1 _;obtain⟨g_v1,c_v1,rfl,_,_⟩:=World.ownsRow.form ho1 (Nat.succ_pos _)))
     go_roundw
     case rel=>exact⟨k+1,false,os++[(t',m')],by omega,by go_num,rfl,by simp;omega,own_snocP ho1 HN.out,by rw[<-HPT.out];simp[toCome,putP,hlt2],below_appendP HBq.out hszq HOq.out hg1⟩
     case measure=>simp[intOf];omega
    ·have hD:decide (t<=t')=true:=decide_eq_true (by omega)
     by_cases he:t'=t
     ·have he':=he.symm
      subst he';go_wp2
      go_quiet (fail)
      obtain⟨wq,hwq⟩:∃wq,wq=wr.drewN nq:=⟨_,rfl⟩
      have HOq:Hid (wq.ownsRow (w.heap.size+1) 213 2 (.slice y no cp) no (prs os)):=by rw[hwq];exact HO.out
      have HBq:Hid (Below (w.heap.size+1) (w.alloc (.cells #[.int .i64 t,.int .i64 m] 213)) wq):=by rw[hwq];exact below_drewN HB.out _
      have hszq:w.heap.size+1<=wq.heap.size:=by rw[hwq];exact hsz
      have h1q:wq.cell? ⟨b,o+k * 2,none⟩=some (.int .i64 t):=by rw[hwq];exact h1
      have h2q:wq.cell? ⟨b,o+k * 2+1,none⟩=some (.int .i64 m'):=by rw[hwq];exact h2
      have b0q:wq.cell? ⟨w.heap.size,0,none⟩=some (.int .i64 t):=by rw[hwq];exact b0
      have b1q:wq.cell? ⟨w.heap.size,1,none⟩=some (.int .i64 m):=by rw[hwq];exact b1
      rw[<-hwq];clear hwq h1 h2 b0 b1 HO HB hsz;have ws:IntKind.i64.wrap (m+m')=m+m':=IntWalk.i64_in _ (by omega);go_wp2
      go_quiet (fail)
      obtain⟨w3,hw3⟩:∃w3,w3=wq.drewN nq:=⟨_,rfl⟩
      have HO3:Hid (w3.ownsRow (w.heap.size+1) 213 2 (.slice y no cp) no (prs os)):=by rw[hw3];exact HOq.out
      have HB3:Hid (Below (w.heap.size+1) (w.alloc (.cells #[.int .i64 t,.int .i64 m] 213)) w3):=by rw[hw3];exact below_drewN HBq.out _
      have hsz3:w.heap.size+1<=w3.heap.size:=by rw[hw3];exact hszq
      have h2r:w3.cell? ⟨b,o+k * 2+1,none⟩=some (.int .i64 m'):=by rw[hw3];exact h2q
      have b0r:w3.cell? ⟨w.heap.size,0,none⟩=some (.int .i64 t):=by rw[hw3];exact b0q
      have b1r:w3.cell? ⟨w.heap.size,1,none⟩=some (.int .i64 m):=by rw[hw3];exact b1q
      rw[<-hw3];clear hw3 h1q h2q b0q b1q HOq HBq hszq
      go_wp2_with fail
      go_region_law ((refine step_append_lies _ (by rfl) _ _ _ (by rfl) (w.heap.size+1) 213 i0 _ 2 16 Tryz.underlying39 hi hz0 hz1 hz2 rfl (by decide) (.slice y no cp) no (prs os) (by rfl) ((HO3.out.alloc _).drew) ⟨w3.heap.size,0,none⟩ 1 1 [.int .i64 t,.int .i64 (m+m')] (by rfl) (by rfl) (World.news_of_block (cs:=#[.int .i64 t,.int .i64 (m+m')]) (t:=213) (fr:=(0,0)) (heap_alloc_new w3 _)) (by simp[Value.oneCell']) (by omega) (by unfold maxLen;omega) (by omega) (by simp;omega) (w3.heap.size+1) (by simp) ?_;intro g1 cap1 w4 hown4 hgrow4 hat4 hlt4))
      all_goals
       have hg5:(w3.alloc (.cells #[.int .i64 t,.int .i64 (m+m')] 213)).grownBy w4 (Value.slice y no cp).ownBlock:=grownBy_of_drew' hgrow4;go_wp2;go_roundw
       case rel=>exact⟨k+1,true,os++[(t,m+m')],by omega,by go_num,rfl,by simp;omega,own_snocP hown4 HN.out,by rw[<-HPT.out];simp[toCome,putP],below_appendP HB3.out hsz3 HO3.out hg5⟩
       case measure=>simp[intOf];omega
     ·have he1:(t'==t)=false:=by simpa using he
      have he2:decide (t'=t)=false:=by simpa using he
      go_wp2
      go_quiet (fail)
      obtain⟨wq,hwq⟩:∃wq,wq=wr.drewN nq:=⟨_,rfl⟩
      have HOq:Hid (wq.ownsRow (w.heap.size+1) 213 2 (.slice y no cp) no (prs os)):=by rw[hwq];exact HO.out
      have HBq:Hid (Below (w.heap.size+1) (w.alloc (.cells #[.int .i64 t,.int .i64 m] 213)) wq):=by rw[hwq];exact below_drewN HB.out _
      have hszq:w.heap.size+1<=wq.heap.size:=by rw[hwq];exact hsz
      have h1q:wq.cell? ⟨b,o+k * 2,none⟩=some (.int .i64 t'):=by rw[hwq];exact h1
      have h2q:wq.cell? ⟨b,o+k * 2+1,none⟩=some (.int .i64 m'):=by rw[hwq];exact h2
      have b0q:wq.cell? ⟨w.heap.size,0,none⟩=some (.int .i64 t):=by rw[hwq];exact b0
      have b1q:wq.cell? ⟨w.heap.size,1,none⟩=some (.int .i64 m):=by rw[hwq];exact b1
      rw[<-hwq];clear hwq h1 h2 b0 b1 HO HB hsz;go_wp2
      go_quiet (fail)
      obtain⟨w3,hw3⟩:∃w3,w3=wq.drewN nq:=⟨_,rfl⟩
      have HO3:Hid (w3.ownsRow (w.heap.size+1) 213 2 (.slice y no cp) no (prs os)):=by rw[hw3];exact HOq.out
      have HB3:Hid (Below (w.heap.size+1) (w.alloc (.cells #[.int .i64 t,.int .i64 m] 213)) w3):=by rw[hw3];exact below_drewN HBq.out _
      have hsz3:w.heap.size+1<=w3.heap.size:=by rw[hw3];exact hszq
      have h1r:w3.cell? ⟨b,o+k * 2,none⟩=some (.int .i64 t'):=by rw[hw3];exact h1q
      have h2r:w3.cell? ⟨b,o+k * 2+1,none⟩=some (.int .i64 m'):=by rw[hw3];exact h2q
      have b0r:w3.cell? ⟨w.heap.size,0,none⟩=some (.int .i64 t):=by rw[hw3];exact b0q
      have b1r:w3.cell? ⟨w.heap.size,1,none⟩=some (.int .i64 m):=by rw[hw3];exact b1q
      rw[<-hw3];clear hw3 h1q h2q b0q b1q HOq HBq hszq
      go_wp2_with (first|(at_builtin;refine wpList_append_own _ rfl _ _ 39 rfl (w.heap.size+1) 213 i0 (.agg #[.int .i64 0,.int .i64 0]) 2 16 Tryz.underlying39 hi hz0 hz1 hz2 rfl (by decide) _ _ _ rfl (HO3.out.alloc _) ⟨w3.heap.size,0,none⟩ 1 1 [.int .i64 t,.int .i64 m] rfl rfl (cell_two_new _ _ _ _) (by simp[Value.oneCell']) (by unfold maxLen;omega) (by omega) (by simp;omega) ?_;intro v1 w1 ho1 hg1 _;obtain⟨g_v1,c_v1,rfl,_,_⟩:=World.ownsRow.form ho1 (Nat.succ_pos _);have c_1:=cell_appendP h1r hb1 HO3.out hg1;have c_2:=cell_appendP h2r hb1 HO3.out hg1;have sz1:=hg1.size;simp only[World.size_alloc]at sz1;clear h1r h2r)|(at_builtin;refine wpList_append_own _ rfl _ _ 39 rfl (w.heap.size+1) 213 i0 (.agg #[.int .i64 0,.int .i64 0]) 2 16 Tryz.underlying39 hi hz0 hz1 hz2 rfl (by decide) _ _ _ rfl (ho1.alloc _) ⟨w1.heap.size,0,none⟩ 1 1 [.int .i64 t',.int .i64 m'] rfl rfl (cell_two_new _ _ _ _) (by simp[Value.oneCell']) (by unfold maxLen;omega) (by omega) (by simp;omega) ?_;intro v2 w2 ho2 hg2 _;obtain⟨g_v2,c_v2,rfl,_,_⟩:=World.ownsRow.form ho2 (Nat.succ_pos _)))
      have o1:=own_snocP ho1 HN.out;have o2:=own_snocP (os:=os++[(t,m)]) (by have h:=ho2;rw[show prs os++[Value.int .i64 t,Value.int .i64 m]=prs (os++[(t,m)])from (prs_snoc os (t,m)).symm]at h;exact h) (by simp;exact HN.out);have e2:toCome ((t',m')::ps.drop (k+1)) (t,m) false=[(t,m)]++[(t',m')]++ps.drop (k+1):=by simp[toCome,putP,he,hlt2]
      rw[e2]at HPT;have B1:=below_appendP HB3.out hsz3 HO3.out hg1;have B2:=below_appendP B1 (by omega) ho1 hg2;clear e2 B1;go_roundw
      case rel=>exact⟨k+1,true,os++[(t,m)]++[(t',m')],by omega,by go_num,rfl,by simp;omega,o2,by rw[<-HPT.out];simp[toCome],B2⟩
      case measure=>simp[intOf];omega
  ·have hd0:ps.drop k=[]:=List.drop_of_length_le (by rw[HL.out];omega)
   rw[hd0]at HPT;clear hd0;cases dn with
   |true=>
    go_wp2;go_ret;refine⟨_,rfl,?_,HA.out.trans (HB.out.mono (Nat.le_succ _))⟩;have e:putP ps (t,m)=os:=by rw[<-HPT.out];simp[toCome]
    rw[e];have ho:=HO.out;rw[HN.out]at ho ⊢;exact ownsRow_base ho (Nat.le_succ _)
   |false=>
    go_wp2_with (first|(at_builtin;refine wpList_append_own _ rfl _ _ 39 rfl (w.heap.size+1) 213 i0 (.agg #[.int .i64 0,.int .i64 0]) 2 16 Tryz.underlying39 hi hz0 hz1 hz2 rfl (by decide) _ _ _ rfl (HO.out.alloc _) ⟨wr.heap.size,0,none⟩ 1 1 [.int .i64 t,.int .i64 m] rfl rfl (cell_two_new _ _ _ _) (by simp[Value.oneCell']) (by unfold maxLen;omega) (by omega) (by simp;omega) ?_;intro v1 w1 ho1 hg1 _;obtain⟨g_v1,c_v1,rfl,_,_⟩:=World.ownsRow.form ho1 (Nat.succ_pos _)))
    go_ret;refine⟨_,rfl,?_,HA.out.trans ((below_appendP HB.out hsz HO.out hg1).mono (Nat.le_succ _))⟩;have e:putP ps (t,m)=os++[(t,m)]:=by rw[<-HPT.out];simp[toCome,putP]
    rw[e];exact (own_snocP ho1 HN.out).base (Nat.le_succ _)
theorem l3Put_at (w:World) (v:Value) (ps:List Pr) (t m:Int) (hp:Prs w v ps) (hn:ps.length<=100) (hm:∀i,i<ps.length->0<=(pr ps i).2/\(pr ps i).2<=100000) (m0:0<=m) (m1:m<=100000):
  Calls Tryz.prog 226 #[v,.agg #[.int .i64 t,.int .i64 m]] w fun e w'=>∃v,e=.returned v/\OwnP w' w.heap.size v (putP ps (t,m))/\Below w.heap.size w w':=by
 obtain⟨x,c,rfl,_,_⟩:=hp.form;exact l3Put_in w x _ c ps t m rfl hp hn hm m0 m1
def Box3 (W:World) (b:Nat) (t:TypeId) (x y z:Value):Prop:=W.heap[b]? =some (.cells #[x,y,z] t (0,0))
section
variable {W W':World} {b:Nat} {t:TypeId} {x y z:Value}
theorem Box3.lt (h:Box3 W b t x y z):b<W.heap.size:=(Array.getElem?_eq_some_iff.1 h).1
theorem Box3.new (W:World) (t:TypeId) (x y z:Value):Box3 (W.alloc (.cells #[x,y,z] t)) W.heap.size t x y z:=heap_alloc_new W _
theorem Box3.below (h:Box3 W b t x y z) {B:Nat} (hb:Below B W W') (hB:b<B):Box3 W' b t x y z:=(hb.block b hB).trans h
theorem Box3.later (h:Box3 W b t x y z) (hb:Below W.heap.size W W'):Box3 W' b t x y z:=h.below hb h.lt
theorem Box3.drew (h:Box3 W b t x y z):Box3 W.drew b t x y z:=h
theorem Box3.alloc (h:Box3 W b t x y z) (o:Obj):Box3 (W.alloc o) b t x y z:=h.later ((Below.refl _ _).alloc lr_ o)
theorem Box3.kept {row:Option Nat} (h:Box3 W b t x y z) (hg:W.grownBy W' row) (hr:row≠some b):Box3 W' b t x y z:=(hg.block b h.lt (fun e=>hr e.symm)).trans h
theorem Box3.cell0 (h:Box3 W b t x y z):W.cell? ⟨b,0,none⟩=some x:=by unfold Box3 at h;simp[World.cell?,h]
theorem Box3.cell1 (h:Box3 W b t x y z):W.cell? ⟨b,1,none⟩=some y:=by unfold Box3 at h;simp[World.cell?,h]
theorem Box3.cell2 (h:Box3 W b t x y z):W.cell? ⟨b,2,none⟩=some z:=by unfold Box3 at h;simp[World.cell?,h]
theorem Box3.free (h:Box3 W b t x y z) (i:Nat):W.frozen? ⟨b,i,none⟩=false:=by unfold Box3 at h;simp[World.frozen?,h]
theorem Box3.set0 (h:Box3 W b t x y z) (u:Value):Box3 (W.setCell ⟨b,0,none⟩ u) b t u y z:=by unfold Box3 at h ⊢;rw[heap_setCell_same W b 0 _ _ _ h];rfl
theorem Box3.set1 (h:Box3 W b t x y z) (u:Value):Box3 (W.setCell ⟨b,1,none⟩ u) b t x u z:=by unfold Box3 at h ⊢;rw[heap_setCell_same W b 1 _ _ _ h];rfl
theorem Box3.set2 (h:Box3 W b t x y z) (u:Value):Box3 (W.setCell ⟨b,2,none⟩ u) b t x y u:=by unfold Box3 at h ⊢;rw[heap_setCell_same W b 2 _ _ _ h];rfl
theorem Box3.set (h:Box3 W b t x y z) (x' y' z':Value):Box3 (((W.setCell ⟨b,0,none⟩ x').setCell ⟨b,1,none⟩ y').setCell ⟨b,2,none⟩ z') b t x' y' z':=((h.set0 x').set1 y').set2 z'
theorem Box3.not_row {B:Nat} {e:TypeId} {size n:Nat} {v:Value} {xs:List Value} (h:Box3 W b t x y z) (ht:t≠e) (ho:W.ownsRow B e size v n xs):v.ownBlock≠some b:=fun hb=>by
 rcases ho.2 with ⟨rfl,_⟩|⟨g,cap,cur,rfl,_,hg,_⟩
 ·cases hb
 ·obtain rfl:g=b:=by simpa[Value.ownBlock]using hb
  unfold Box3 at h;rw[hg]at h;cases h;exact ht rfl
end
theorem below_set3 {B b:Nat} {w W:World} (h:Below B w W) (hb:B<=b) (x y z:Value):Below B w (((W.setCell ⟨b,0,none⟩ x).setCell ⟨b,1,none⟩ y).setCell ⟨b,2,none⟩ z):=((h.setCell hb _).setCell hb _).setCell hb _
theorem OwnP.set3 {W:World} {B b:Nat} {v:Value} {ps:List Pr} (h:OwnP W B v ps) (hv:v.ownBlock≠some b) (x y z:Value):OwnP (((W.setCell ⟨b,0,none⟩ x).setCell ⟨b,1,none⟩ y).setCell ⟨b,2,none⟩ z) B v ps:=
 ((h.keep (grownBy_setCell W ⟨b,0,none⟩ x) hv).keep (grownBy_setCell _ ⟨b,1,none⟩ y) hv).keep (grownBy_setCell _ ⟨b,2,none⟩ z) hv
def cntGe (ps:List Pr) (v:Int):Nat:=(ps.filter fun p=>decide (v<=p.2)).length
def overK (ps:List Pr):Nat->Int
 | 0=>0
 |k+1=>if 4<cntGe ps (pr ps k).2 then max (overK ps k) (pr ps k).2 else overK ps k
def overV (ps:List Pr):Int:=overK ps ps.length
theorem cntGe_le (ps:List Pr) (v:Int):cntGe ps v<=ps.length:=List.length_filter_le _ _
theorem cntGe_succ (ps:List Pr) (k:Nat) (v:Int) (h:k<ps.length):cntGe (ps.take (k+1)) v=cntGe (ps.take k) v+if v<=(pr ps k).2 then 1 else 0:=by
 rw[take_succ_pr ps k h];unfold cntGe;rw[List.filter_append,List.length_append]
 by_cases h:v<=(pr ps k).2<;>simp[h]
theorem overK_bd {ps:List Pr} {M:Int} {k:Nat} (hM:0<=M) (hk:k<=ps.length) (h:∀i,i<ps.length->0<=(pr ps i).2/\(pr ps i).2<=M):0<=overK ps k/\overK ps k<=M:=by
 induction k with
 |zero=>exact⟨Int.le_refl _,hM⟩
 |succ k ih=>
  have:=ih (by omega);have:=h k (by omega);unfold overK
  split<;>omega
theorem overV_bd {ps:List Pr} {M:Int} (hM:0<=M) (h:∀i,i<ps.length->0<=(pr ps i).2/\(pr ps i).2<=M):0<=overV ps/\overV ps<=M:=overK_bd hM lr_ h
theorem l3Over_in (w:World) (x:Option Addr) (n c:Nat) (ps:List Pr) (hl:ps.length=n) (hp:Prs w (.slice x n c) ps) (hn:n<=100) (hm:∀i,i<n->0<=(pr ps i).2/\(pr ps i).2<=100000):
  Calls Tryz.prog 278 #[.slice x n c] w fun e w'=>e=.returned (.int .i64 (overV ps))/\Below w.heap.size w w':=by
 have HP:=hd_ hp.cells;have HL:=hd_ hl;have HM:=hd_ hm;clear hl hp hm;go_enter Tryz.func278,Tryz.ntmps278;go_wp2;go_loopw [3,4] (fun q i wr=>∃k:Nat,k<=n/\i=.int .i64 k/\q=.int .i64 (overK ps k)/\Below w.heap.size w wr) (fun _ i _=>n - (intOf i).toNat)
 case atStart=>exact⟨0,Nat.zero_le _,rfl,rfl,Below.refl _ _⟩
 case round=>
  obtain⟨k,hk,rfl,rfl,hbl⟩:=hrel;have HB:=hd_ hbl;have ob:=overK_bd (ps:=ps) (M:=100000) (k:=k) (by omega) (by rw[HL.out];exact hk) (fun i hi=>HM.out i (by rw[HL.out]at hi;exact hi));clear hbl
  by_cases hlt:k<n
  ·obtain⟨b,o,rfl,hb,g1,g2⟩:=HP.out k (by rw[HL.out];exact hlt)
   have G2:=hd_ g2;have hmk:=HM.out k hlt;have hov:Hid (overK ps (k+1)=if 4<cntGe ps (pr ps k).2 then max (overK ps k) (pr ps k).2 else overK ps k):=by show overK _ _=_;rfl
   have k0:(0:Int)<=(k:Int):=by omega
   have kn:(k:Int)<(n:Int):=by omega
   obtain⟨wo,rfl⟩:∃wo:World,wo=wr:=⟨_,rfl⟩
   generalize (pr ps k).2=v at G2 hmk hov;clear g1 g2;go_wp2;go_loopw [5,6] (fun q i wr=>∃j:Nat,j<=n/\i=.int .i64 j/\q=.int .i64 (cntGe (ps.take j) v)/\Below wo.heap.size wo wr) (fun _ i _=>n - (intOf i).toNat)
   case atStart=>exact⟨0,Nat.zero_le _,rfl,rfl,Below.refl _ _⟩
   case round=>
    obtain⟨j,hj,rfl,rfl,hbj⟩:=hrel;have HJ:=hd_ hbj;have FB:=hd_ (HB.out.trans (hbj.mono HB.out.size));have cb:=cntGe_le (ps.take j) v;have cl:(ps.take j).length<=100:=by have:=HL.out;simp;omega
    have g2w:wr.cell? ⟨b,o+k * 2+1,none⟩=some (.int .i64 v):=(FB.out.cell (p:=⟨b,o+k * 2+1,none⟩) hb).trans G2.out;clear hbj
    by_cases hjl:j<n
    ·obtain⟨b',o',e',hb',h1,h2⟩:=HP.out j (by rw[HL.out];exact hjl)
     cases e';have h2w:=(FB.out.cell (p:=⟨b,o+j * 2+1,none⟩) hb).trans h2;have hc:=hd_ (cntGe_succ ps j v (by rw[HL.out];exact hjl));have hmj:=HM.out j hjl;generalize (pr ps j).2=u at h2w hc hmj;generalize cntGe (ps.take j) v=C at *;have j0:(0:Int)<=(j:Int):=by omega
     have jn:(j:Int)<(n:Int):=by omega
     clear h1 h2
     by_cases hvu:v<=u
     ·rw[if_pos hvu]at hc
      go_wp2
      go_quiet (fail)
      go_wp2;go_roundw
      case rel=>exact⟨j+1,by omega,by go_num,by rw[hc.out];go_num,below_drewN HJ.out _⟩
      case measure=>simp[intOf];omega
     ·rw[if_neg hvu]at hc
      go_wp2
      go_quiet (fail)
      go_wp2;go_roundw
      case rel=>exact⟨j+1,by omega,by go_num,by rw[hc.out];rfl,below_drewN HJ.out _⟩
      case measure=>simp[intOf];omega
    ·obtain rfl:j=n:=by omega
     have e1:ps.take j=ps:=List.take_of_length_le (by rw[HL.out];exact Nat.le_refl _);rw[e1]at cb ⊢;generalize cntGe ps v=C at *;clear e1 cl
     by_cases h4:4<C
     ·rw[if_pos h4]at hov
      go_wp2;go_roundw
      case rel=>exact⟨k+1,by omega,by go_num,by rw[hov.out]<;>first|rfl|(congr 1;omega)|(congr 1;simp[Int.max_def];omega),FB.out⟩
      case measure=>simp[intOf];omega
     ·rw[if_neg h4]at hov
      go_wp2;go_roundw
      case rel=>exact⟨k+1,by omega,by go_num,by rw[hov.out],FB.out⟩
      case measure=>simp[intOf];omega
  ·obtain rfl:k=n:=by omega
   go_wp2;go_ret;exact⟨ret_int (by unfold overV;rw[HL.out]),HB.out⟩
theorem l3Over_at (w:World) (v:Value) (ps:List Pr) (hp:Prs w v ps) (hn:ps.length<=100) (hm:∀i,i<ps.length->0<=(pr ps i).2/\(pr ps i).2<=100000):
  Calls Tryz.prog 278 #[v] w fun e w'=>e=.returned (.int .i64 (overV ps))/\Below w.heap.size w w':=by
 obtain⟨x,c,rfl,_,_⟩:=hp.form;exact l3Over_in w x _ c ps rfl hp hn hm
end Go.Proofs.YtcblbdpdbggkbaaGreat.T
set_option linter.unusedVariables false
namespace Go.Proofs.YtcblbdpdbggkbaaGreat.T
open Go.RowKit Go.Sort Go.Shelf
def sortP_ren:Go.Shelf.Ren:=⟨fun| 20=>325|n=>n,fun| 24=>213| 22=>39| 3=>3| 25=>321| 4=>4| 0=>0|n=>n,fun|n=>n⟩
theorem sortP:Go.Proofs.SlLaysF0.n20 Tryz.prog sortP_ren:={
  mixed:=by kernel_rfl
  f20:=⟨Tryz.f325.name,by decide,Tryz.func325.trans (congrArg some (by kernel_rfl))⟩
  t0:=Tryz.underlying0
  a0:=Tryz.isAgg0
  z0:=Tryz.sizeOf0
  v0:=Tryz.zeroValue0
  t3:=Tryz.underlying3
  a3:=Tryz.isAgg3
  z3:=Tryz.sizeOf3
  v3:=Tryz.zeroValue3
  t4:=Tryz.underlying4
  a4:=Tryz.isAgg4
  z4:=Tryz.sizeOf4
  v4:=Tryz.zeroValue4
  t22:=Tryz.underlying39
  a22:=Tryz.isAgg39
  z22:=Tryz.sizeOf39
  v22:=Tryz.zeroValue39
  t25:=Tryz.underlying321
  a25:=Tryz.isAgg321
  z25:=Tryz.sizeOf321
  v25:=Tryz.zeroValue321 }
def cmpV (a b:Int):Int:=if a<b then -1 else if b<a then 1 else 0
theorem compare_at (a b:Int) (w:World):Calls Tryz.prog 314 #[.int .i64 a,.int .i64 b] w fun e w'=>e=.returned (.int .i64 (cmpV a b))/\w=w':=by
 have e1:(a != a)=false:=by simp
 have e2:(b != b)=false:=by simp
 rcases (by omega:a<b\/a=b\/b<a)with h|h|h
 ·have e:cmpV a b= -1:=if_pos h
  rw[e];clear e;go_enter Tryz.func314,Tryz.ntmps314;go_wp2;go_ret;exact⟨rfl,rfl⟩
 ·subst h
  have e:cmpV a a=0:=by simp[cmpV]
  rw[e];clear e;go_enter Tryz.func314,Tryz.ntmps314;go_wp2;go_ret;exact⟨rfl,rfl⟩
 ·have e:cmpV a b=1:=by simp[cmpV,h];omega
  have h':¬a<b:=by omega
  rw[e];clear e;go_enter Tryz.func314,Tryz.ntmps314;go_wp2;go_ret;exact⟨rfl,rfl⟩
def orV (a b:Int):Int:=if a=0 then b else a
theorem or_at (g:Nat) (a b:Int) (w:World) (h0:w.cell? ⟨g,0,none⟩=some (.int .i64 a)) (h1:w.cell? ⟨g,1,none⟩=some (.int .i64 b)):
  Calls Tryz.prog 315 #[.slice (some ⟨g,0,none⟩) 2 2] w fun e w'=>e=.returned (.int .i64 (orV a b))/\w=w':=by
 by_cases ha:a=0
 ·subst ha
  rw[show orV 0 b=b from if_pos rfl]
  by_cases hb:b=0
  ·subst hb
   go_enter Tryz.func315,Tryz.ntmps315;go_wp2;refine wp_loop_rounds 3 ?_;rw[rounds_succ];go_wp2;rw[rounds_succ];go_wp2;rw[rounds_succ];go_wp2;go_ret;exact⟨rfl,rfl⟩
  ·have e1:(b != 0)=true:=by simpa using hb
   have e2:decide (b=0)=false:=by simpa using hb
   clear hb;go_enter Tryz.func315,Tryz.ntmps315;go_wp2;refine wp_loop_rounds 2 ?_;rw[rounds_succ];go_wp2;rw[rounds_succ];go_wp2;go_ret;exact⟨rfl,rfl⟩
 ·have e1:(a != 0)=true:=by simpa using ha
  have e2:decide (a=0)=false:=by simpa using ha
  rw[show orV a b=a from if_neg ha];clear ha;go_enter Tryz.func315,Tryz.ntmps315;go_wp2;refine wp_loop_rounds 1 ?_;rw[rounds_succ];go_wp2;go_ret;exact⟨rfl,rfl⟩
def encP (p:Pr):List Value:=[.int .i64 p.1,.int .i64 p.2]
theorem againstThing_at (x y:Pr) (w:World):Calls Tryz.prog 301 #[.agg #[.int .i64 x.1,.int .i64 x.2],.agg #[.int .i64 y.1,.int .i64 y.2]] w fun e w'=>e=.returned (.int .i64 (cmpV x.1 y.1))/\
  (w.alloc (.cells #[.int .i64 x.1,.int .i64 x.2] 213)).alloc (.cells #[.int .i64 y.1,.int .i64 y.2] 213)=w':=by
 obtain⟨a,b⟩:=x;obtain⟨c,d⟩:=y;simp only;have K:Hid (∀W,Calls Tryz.prog 314 #[.int .i64 a,.int .i64 c] W fun e w'=>e=.returned (.int .i64 (cmpV a c))/\W=w'):=fun W=>compare_at a c W
 generalize cmpV a c=V at K ⊢;go_enter Tryz.func301,Tryz.ntmps301
 go_wp2_with fail
 refine (K.out _).mono ?_;rintro e w1 ⟨rfl,rfl⟩;go_wp2;go_ret;exact⟨rfl,rfl⟩
def cmpN (x y:Pr):Int:=orV (cmpV y.2 x.2) (cmpV x.1 y.1)
theorem againstNum_at (x y:Pr) (w:World):Calls Tryz.prog 302 #[.agg #[.int .i64 x.1,.int .i64 x.2],.agg #[.int .i64 y.1,.int .i64 y.2]] w fun e w'=>e=.returned (.int .i64 (cmpN x y))/\∃q os,w'=grow (w.drewN q) os:=by
 obtain⟨a,b⟩:=x;obtain⟨c,d⟩:=y;have K:Hid (∀W,Calls Tryz.prog 314 #[.int .i64 d,.int .i64 b] W fun e w'=>e=.returned (.int .i64 (cmpV d b))/\W=w'):=fun W=>compare_at d b W
 have KT:Hid (∀W,Calls Tryz.prog 301 #[.agg #[.int .i64 a,.int .i64 b],.agg #[.int .i64 c,.int .i64 d]] W fun e w'=>e=.returned (.int .i64 (cmpV a c))/\
    (W.alloc (.cells #[.int .i64 a,.int .i64 b] 213)).alloc (.cells #[.int .i64 c,.int .i64 d] 213)=w'):=fun W=>againstThing_at (a,b) (c,d) W
 show Calls _ _ #[.agg #[.int .i64 a,.int .i64 b],.agg #[.int .i64 c,.int .i64 d]] _ fun e w'=>e=.returned (.int .i64 (orV (cmpV d b) (cmpV a c)))/\_
 generalize cmpV d b=V at K ⊢;generalize cmpV a c=U at KT ⊢;have KO:Hid (∀W g,W.cell? ⟨g,0,none⟩=some (.int .i64 V)->W.cell? ⟨g,1,none⟩=some (.int .i64 U)->Calls Tryz.prog 315 #[.slice (some ⟨g,0,none⟩) 2 2] W fun e w'=>e=.returned (.int .i64 (orV V U))/\W=w'):=fun W g h0 h1=>or_at g V U W h0 h1
 generalize orV V U=Z at KO ⊢;obtain⟨W0,hW0⟩:∃W0,W0=(w.alloc (.cells #[.int .i64 a,.int .i64 b] 213)).alloc (.cells #[.int .i64 c,.int .i64 d] 213):=⟨_,rfl⟩
 have G0:Hid (∃os,W0=grow w os):=by show ∃os,_;rw[hW0,alloc_eq_grow,alloc_eq_grow,grow_grow];exact⟨_,rfl⟩
 have c0:W0.cell? ⟨w.heap.size,0,none⟩=some (.int .i64 a)/\W0.cell? ⟨w.heap.size,1,none⟩=some (.int .i64 b):=by constructor<;>(rw[hW0,World.cell?_alloc_past (hn:=by simp)];simp)
 have c1:W0.cell? ⟨w.heap.size+1,0,none⟩=some (.int .i64 c)/\W0.cell? ⟨w.heap.size+1,1,none⟩=some (.int .i64 d):=by constructor<;>(rw[hW0,World.cell?_alloc_at (hn:=by simp)];simp)
 have far:∀(p:Addr) v o,W0.cell? p=some v->(W0.alloc o).cell? p=some v:=fun p v o h=>(World.cell?_alloc_lt (h:=World.block_lt_of_cell? _ _ h) ..).trans h
 have far2:∀(p:Addr) v o o',W0.cell? p=some v->((W0.alloc o).alloc o').cell? p=some v:=fun p v o o' h=>(World.cell?_alloc_lt (h:=World.block_lt_of_cell? _ _ (far p v o h)) ..).trans (far p v o h)
 have F2:=hd_ far2;have HW0:=hd_ hW0;obtain⟨x0,x1⟩:=c0;obtain⟨y0,y1⟩:=c1;have a0:=fun o o'=>F2.out _ _ o o' x0
 have a1:=fun o o'=>F2.out _ _ o o' x1
 have b0:=fun o o'=>F2.out _ _ o o' y0
 have b1:=fun o o'=>F2.out _ _ o o' y1
 have n0:∀o o',(((W0.alloc o).alloc o').alloc (.cells #[.int .i64 V,.int .i64 U] 3)).cell? ⟨W0.heap.size+1+1,0,none⟩=some (.int .i64 V):=fun o o'=>by rw[World.cell?_alloc_at (hn:=by simp)];simp
 have n1:∀o o',(((W0.alloc o).alloc o').alloc (.cells #[.int .i64 V,.int .i64 U] 3)).cell? ⟨W0.heap.size+1+1,1,none⟩=some (.int .i64 U):=fun o o'=>by rw[World.cell?_alloc_at (hn:=by simp)];simp
 clear hW0 far far2;go_enter Tryz.func302,Tryz.ntmps302
 go_wp2_with fail
 rw[<-HW0.out];clear HW0
 go_wp2_with fail
 go_region_held3 (fun w'=>w'.cell? ⟨w.heap.size,0,none⟩=some (.int .i64 a)/\w'.cell? ⟨w.heap.size,1,none⟩=some (.int .i64 b)/\w'.cell? ⟨w.heap.size+1,0,none⟩=some (.int .i64 c)/\w'.cell? ⟨w.heap.size+1,1,none⟩=some (.int .i64 d)) (go_keep)
  (first
      |(go_at_call 314;refine (K.out _).mono ?_;rintro e w1 ⟨rfl,rfl⟩)
      |(go_at_call 301;refine (KT.out _).mono ?_;rintro e w1 ⟨rfl,rfl⟩)
      |(go_at_call 315;refine (KO.out _ _ (by simpa using n0 _ _) (by simpa using n1 _ _)).mono ?_;rintro e w1 ⟨rfl,rfl⟩))
 all_goals
  go_wp2;go_ret;obtain⟨os,hg⟩:=G0.out;exact⟨rfl,1,_,by rw[hg,alloc_eq_grow,alloc_eq_grow,alloc_eq_grow,grow_grow,grow_grow,grow_grow];rfl⟩
theorem flat_prs (ps:List Pr):flatK encP 2 ps.toArray=(prs ps).toArray:=by
 apply ext_get!
 ·simp[prs_len]
 ·intro t ht
  simp only[size_flatK,List.size_toArray]at ht;rw[get_flatK encP 2 ps.toArray t (by simpa using ht)];have hi:t / 2<ps.length:=by omega
  have hg:=prs_get ps (t / 2) hi;have e1:ps.toArray[t / 2]! =pr ps (t / 2):=by
   rw[getElem!_pos _ _ (by simpa using hi)];simp[pr,hi]
  rw[e1];have hl:t<(prs ps).length:=by rw[prs_len];exact ht
  have key:(prs ps)[t]? =some ((encP (pr ps (t / 2)))[t % 2]!):=by
   rcases (by omega:t % 2=0\/t % 2=1)with h|h
   ·rw[show t=t / 2 * 2 by omega,hg.1,show t / 2 * 2 / 2=t / 2 by omega,show t / 2 * 2 % 2=0 by omega];rfl
   ·rw[show t=t / 2 * 2+1 by omega,hg.2,show (t / 2 * 2+1) / 2=t / 2 by omega,show (t / 2 * 2+1) % 2=1 by omega];rfl
  rw[getElem!_pos (prs ps).toArray t (by simpa using hl)];rw[List.getElem?_eq_getElem hl]at key;simpa using (Option.some.inj key).symm
theorem OwnP.holds {w:World} {B g n c:Nat} {ps:List Pr} (h:OwnP w B (.slice (some ⟨g,0,none⟩) n c) ps):HoldsK encP 2 w g 0 ps.toArray/\g<w.heap.size/\B<=g/\n=ps.length:=by
 rcases h.2 with ⟨e,_⟩|⟨g',cap,cur,e,hb,hg,hn,hc,hs,ht⟩
 ·cases e
 ·obtain⟨e1,rfl,rfl⟩:=Value.slice.inj e
  have e2:g=g':=by simpa using e1
  subst e2;have hl:=(Array.getElem?_eq_some_iff.1 hg).1;refine⟨?_,hl,hb,rfl⟩;unfold HoldsK;rw[flat_prs];intro j hj;simp only[List.size_toArray]at hj
  constructor
  ·have:=World.ownsRow.cells h (g:=g) rfl j ((prs ps)[j]) (List.getElem?_eq_getElem hj)
   rw[addr_plus]at this;rw[this];simp[getElem!_pos,hj]
  ·simp[World.frozen?,hg]
theorem grown_sortWorldK (w:World) (g n:Nat) (d:Array Pr) (os:Array Obj):w.grownBy (sortWorldK encP 2 w g 0 n d os) (some g):=by
 refine⟨rfl,rfl,rfl,size_sortWorldK_c encP 2 w g 0 n d os,fun k hk hne=>?_⟩;have hne':g≠k:=fun e=>hne (by rw[e])
 show ((w.heap.modify g _)++os)[k]? =_
 rw[Array.getElem?_append_left (by simpa using hk)];simp[Array.getElem?_modify,hne']
theorem prs_sortWorldK {w:World} {g c n:Nat} {d d':Array Pr} {os:Array Obj} (h:HoldsK encP 2 w g 0 d) (hg:g<w.heap.size) (hs:d'.size=d.size) (hc:d.size<=c) (hm:c<=maxLen):
  Prs (sortWorldK encP 2 w g 0 n d' os) (.slice (some ⟨g,0,none⟩) d.size c) d'.toList:=by
 have H:=holdsK_sortWorldK_c encP 2 w g 0 d d' n os h hg hs;have e:d'.toList.toArray=d':=by simp
 rw[<-e]at H;unfold HoldsK at H;rw[flat_prs]at H;refine .inr ⟨g,0,c,by simp[hs],by simpa[hs]using hc,hm,Nat.lt_of_lt_of_le hg (size_sortWorldK_c encP 2 w g 0 n _ os),fun i hi=>?_⟩;have hgg:=prs_get d'.toList i hi;have hl:=prs_len d'.toList;have a:=(H (i * 2) (by simp only[List.size_toArray];omega)).1;have b:=(H (i * 2+1) (by simp only[List.size_toArray];omega)).1
 have l0:i * 2<(prs d'.toList).length:=by omega
 have l1:i * 2+1<(prs d'.toList).length:=by omega
 rw[List.getElem?_eq_getElem l0]at hgg;rw[List.getElem?_eq_getElem l1]at hgg;rw[e]at a b;refine⟨by rw[a];rw[getElem!_pos _ _ (by simpa using l0)];simpa using hgg.1,?_⟩;rw[Nat.add_assoc,b,getElem!_pos _ _ (by simpa using l1)];simpa using hgg.2
def SortedL (cf:Pr->Pr->Int) (qs:List Pr):Prop:=∀i j,i<j->j<qs.length->ltOf cf (pr qs j) (pr qs i)=false
theorem len_at (n:Nat) (w:World) (h:n<=8):Calls Tryz.prog 164 #[.int .u64 n] w fun e w'=>(∃l:Int,e=.returned (.int .i64 l))/\w=w':=by
 rcases (by omega:n=0\/n=1\/n=2\/n=3\/n=4\/n=5\/n=6\/n=7\/n=8)with rfl|rfl|rfl|rfl|rfl|rfl|rfl|rfl|rfl
 all_goals
  clear h;go_enter Tryz.func164,Tryz.ntmps164;go_wp2;go_ret;exact⟨⟨_,rfl⟩,rfl⟩
section
variable (g:Nat) (cf:Pr->Pr->Int) (eg:∀args w,(callFunc g args).run Tryz.prog w=.ok (.enter g args) w) (hg:∀x y W,Calls Tryz.prog g #[.agg (encP x).toArray,.agg (encP y).toArray] W fun e w'=>e=.returned (.int .i64 (cf x y))/\∃q os,w'=grow (W.drewN q) os)
include eg hg
theorem insert_at (w:World) (k c:Nat) (d:Array Pr) (hH:HoldsK encP 2 w k 0 d) (hk:k<w.heap.size) (hn:d.size<=8):
  Calls Tryz.prog 325 #[.slice (some ⟨k,0,none⟩) d.size c,.int .i64 0,.int .i64 d.size,.func (.func g) #[] #[]] w fun e w'=>e=.returned (.tuple #[])/\∃n os,w'=sortWorldK encP 2 w k 0 n (Sort.insertionSort (ltOf cf) d 0 d.size) os:=by
 have h:=AnyQ.insertionSortCmpFunc sortP 2 Tryz.isAgg213 Tryz.sizeOf213 encP (fun _=>rfl) (fun x v hv=>by simp[encP]at hv;rcases hv with rfl|rfl<;>rfl) cf g #[] k 0 c 0 d.size d w eg
  (fun m os dk _ x y=>hg x y _) hH hk (Nat.zero_le _) lr_ (by omega)
 exact h
theorem sortFunc_some (w:World) (k c n:Nat) (d:Array Pr) (hs:d.size=n) (hH:HoldsK encP 2 w k 0 d) (hk:k<w.heap.size) (hn:n<=8):
  Calls Tryz.prog 317 #[.slice (some ⟨k,0,none⟩) n c,.func (.func g) #[] #[]] w fun e w'=>e=.returned (.tuple #[])/\∃n os,w'=sortWorldK encP 2 w k 0 n (Sort.insertionSort (ltOf cf) d 0 d.size) os:=by
 have hi:Hid (Calls Tryz.prog 325 #[.slice (some ⟨k,0,none⟩) n c,.int .i64 0,.int .i64 n,.func (.func g) #[] #[]] w fun e w'=>e=.returned (.tuple #[])/\∃n os,w'=sortWorldK encP 2 w k 0 n (Sort.insertionSort (ltOf cf) d 0 d.size) os):=by
  have h:=insert_at g cf eg hg w k c d hH hk (by omega);rw[hs]at h ⊢;exact h
 clear hH hs;have hp:Hid (∀l:Int,Calls Tryz.prog 323 #[.slice (some ⟨k,0,none⟩) n c,.int .i64 0,.int .i64 n,.int .i64 l,.func (.func g) #[] #[]] w fun e w'=>e=.returned (.tuple #[])/\∃n os,w'=sortWorldK encP 2 w k 0 n (Sort.insertionSort (ltOf cf) d 0 d.size) os):=fun l=>by
  generalize Sort.insertionSort (ltOf cf) d 0 d.size=r at hi ⊢;go_enter Tryz.func323,Tryz.ntmps323;go_wp2;refine wp_loop_rounds 1 ?_;rw[rounds_succ]
  go_wp2_with fail
  refine hi.out.mono ?_;rintro e w' ⟨rfl,n',os,rfl⟩;go_wp2
  (try simp only[Exit.inBlock,Exit.then]);refine bodyPost_ret (results_none rfl _ _ _) rfl ?_
  exact⟨rfl,n',os,rfl⟩
 generalize Sort.insertionSort (ltOf cf) d 0 d.size=r at hp ⊢;have e0:IntKind.u64.wrap (n:Int)=(n:Int):=by unfold IntKind.wrap;simp[IntKind.bits,IntKind.signed];omega
 clear hi;go_enter Tryz.func317,Tryz.ntmps317
 go_wp2_with fail
 refine (len_at n w hn).mono ?_;rintro e w' ⟨⟨l,rfl⟩,rfl⟩
 go_wp2_with fail
 refine (hp.out l).mono ?_;rintro e w' ⟨rfl,n',os,rfl⟩;go_wp2
 go_end0
 exact⟨rfl,n',os,rfl⟩
omit eg hg in
theorem sortFunc_none (w:World):Calls Tryz.prog 317 #[.slice none 0 0,.func (.func g) #[] #[]] w fun e w'=>e=.returned (.tuple #[])/\w=w':=by
 have hi:Hid (Calls Tryz.prog 325 #[.slice none 0 0,.int .i64 0,.int .i64 0,.func (.func g) #[] #[]] w fun e w'=>e=.returned (.tuple #[])/\w=w'):=by
  show Calls _ _ _ _ _
  go_enter Tryz.func325,Tryz.ntmps325;go_wp2;refine wp_loop_rounds 1 ?_;rw[rounds_succ];go_wp2
  go_end0
  exact⟨rfl,rfl⟩
 have hp:Hid (∀l:Int,Calls Tryz.prog 323 #[.slice none 0 0,.int .i64 0,.int .i64 0,.int .i64 l,.func (.func g) #[] #[]] w fun e w'=>e=.returned (.tuple #[])/\w=w'):=fun l=>by
  go_enter Tryz.func323,Tryz.ntmps323;go_wp2;refine wp_loop_rounds 1 ?_;rw[rounds_succ]
  go_wp2_with fail
  refine hi.out.mono ?_;rintro e w' ⟨rfl,rfl⟩;go_wp2
  (try simp only[Exit.inBlock,Exit.then]);refine bodyPost_ret (results_none rfl _ _ _) rfl ?_
  exact⟨rfl,rfl⟩
 go_enter Tryz.func317,Tryz.ntmps317
 go_wp2_with fail
 refine (len_at 0 w (by omega)).mono ?_;rintro e w' ⟨⟨l,rfl⟩,rfl⟩
 go_wp2_with fail
 refine (hp.out l).mono ?_;rintro e w' ⟨rfl,rfl⟩;go_wp2
 go_end0
 exact⟨rfl,rfl⟩
theorem sortFunc_at (hS:SWO (ltOf cf)) (w:World) (B:Nat) (v:Value) (ps:List Pr) (h:OwnP w B v ps) (hn:ps.length<=8):
  Calls Tryz.prog 317 #[v,.func (.func g) #[] #[]] w fun e w'=>e=.returned (.tuple #[])/\∃qs:List Pr,qs.Perm ps/\SortedL cf qs/\Prs w' v qs/\w.grownBy w' v.ownBlock:=by
 by_cases hv:v=.slice none 0 0
 ·subst hv
  have h0:ps=[]:=by
   rcases h.2 with ⟨_,h0⟩|⟨g',cap,cur,e,_⟩
   ·exact List.eq_nil_of_length_eq_zero h0
   ·cases e
  subst h0;refine (sortFunc_none g w).mono fun e w' ⟨he,hw⟩=>⟨he,[],List.Perm.refl _,fun i j _ hj=>(by cases hj),.inl ⟨rfl,rfl⟩,?_⟩
  subst hw;exact grownBy_refl _ _
 ·rcases h.2 with ⟨e,_⟩|⟨k,c,cur,e,_,_,hnc,hcm,_⟩
  ·exact absurd e hv
  ·subst e
   have hh:=h.holds;refine (sortFunc_some g cf eg hg w k c ps.length ps.toArray (by simp) hh.1 hh.2.1 hn).mono fun e w' ⟨he,n,os,hw⟩=>⟨he,?_⟩
   have hi:=insertionSort_holds (lt:=ltOf cf) hS ps.toArray 0 ps.toArray.size (Nat.zero_le _) lr_;obtain⟨⟨hsz,_,hperm⟩,hsrt⟩:=hi;generalize Sort.insertionSort (ltOf cf) ps.toArray 0 ps.toArray.size=d' at hw hsz hperm hsrt;subst hw;have hp:=prs_sortWorldK (n:=n) (os:=os) (c:=c) hh.1 hh.2.1 hsz (by simpa using hnc) hcm
   refine⟨d'.toList,?_,?_,by simpa using hp,by simpa[Value.ownBlock]using grown_sortWorldK w k n d' os⟩
   ·have e1:(d'.extract 0 ps.toArray.size).toList=d'.toList:=by simp[<-hsz]
    have e2:(ps.toArray.extract 0 ps.toArray.size).toList=ps:=by simp
    rw[e1,e2]at hperm;exact hperm
   ·intro i j hij hj
    have h2:=hsrt i j (Nat.zero_le _) hij (by rw[<-hsz];simpa using hj);have f:∀k,k<d'.toList.length->pr d'.toList k=d'[k]! :=fun k hk=>by
     have hk':k<d'.size:=by simpa using hk
     rw[getElem!_pos d' k hk'];simp[pr,List.getD_eq_getElem?_getD,hk']
    rw[f j hj,f i (by omega)];exact h2
end
end Go.Proofs.YtcblbdpdbggkbaaGreat.T
namespace Go.Proofs.YtcblbdpdbggkbaaGreat.T
open Go.RowKit Go.Shelf
attribute [local go_sem] Oper.semAt_some
def InP (n₀:Nat) (w:World) (v:Value) (ps:List Pr):Prop:=
 (v=.slice none 0 0/\ps=[])\/
 ∃b o c,v=.slice (some ⟨b,o,none⟩) ps.length c/\ps.length<=c/\c<=maxLen/\b<n₀/\∀i,i<ps.length->w.cell? ⟨b,o+i * 2,none⟩=some (.int .i64 (pr ps i).1)/\w.cell? ⟨b,o+i * 2+1,none⟩=some (.int .i64 (pr ps i).2)
theorem InP.below {n₀:Nat} {w w':World} {v:Value} {ps:List Pr} (h:InP n₀ w v ps) (hb:Below n₀ w w'):InP n₀ w' v ps:=by
 rcases h with h|⟨b,o,c,e,h1,h2,h3,h4⟩
 ·exact .inl h
 ·exact .inr ⟨b,o,c,e,h1,h2,h3,fun i hi=>⟨(hb.cell (p:=⟨b,o+i * 2,none⟩) h3).trans (h4 i hi).1,(hb.cell (p:=⟨b,o+i * 2+1,none⟩) h3).trans (h4 i hi).2⟩⟩
theorem Prs.inP {w:World} {v:Value} {ps:List Pr} (h:Prs w v ps):InP w.heap.size w v ps:=h
theorem values1_some (n:Nat) (hn:1<=n) (l Bs n₀ b off len cap:Nat) (ps:List Pr) (hl:ps.length=len) (hm:len<=1000) (hb:b<n₀) (J Jx:List Pr->World->Prop)
  (hY:∀pre (x:Pr) W,J pre W->pre.length<len->YieldAt Fence.wide (n - 1) Tryz.prog l #[.agg #[.int .i64 x.1,.int .i64 x.2]] W fun e W'=>
      (e=.returned (.bool true)/\J (pre++[x]) W'/\Below n₀ W W')\/(e=.returned (.bool false)/\Jx (pre++[x]) W'))
  (hJa:∀s W1 o,J s W1->J s (W1.alloc o)) (W:World) (hW:n₀<=W.heap.size) (hBs:W.cell? ⟨Bs,0,none⟩=some (.slice (some ⟨b,off,none⟩) len cap))
  (hc:∀i,i<len->W.cell? ⟨b,off+i * 2,none⟩=some (.int .i64 (pr ps i).1)/\W.cell? ⟨b,off+i * 2+1,none⟩=some (.int .i64 (pr ps i).2)) (h0:J [] W):
  CallsIn Fence.wide n Tryz.prog 318 #[.func (.yield l) #[] #[],.pointer (some ⟨Bs,0,none⟩)] W fun e W'=>(∃v,e=.returned v)/\
   ((∃ys,ys=ps/\J ys W')\/(∃pre,pre<+:ps/\Jx pre W')):=by
 have HY:=hd_ hY;have HA:=hd_ hJa;have HC:=hd_ hc;have HL:=hd_ hl;have H0:=hd_ h0;clear hY hJa hc hl h0;refine callsIn_of_wp Tryz.func318 rfl trivial ?_ rfl;simp only[Tryz.ntmps318,List.size_toArray,List.length_cons,List.length_nil,Nat.reduceAdd,Nat.reduceSub,Array.replicate_succ,Array.replicate_zero,List.push_toArray,List.append_toArray,List.nil_append,List.cons_append]
 gi_wp2
 gi_loopw [7] (fun i wr=>∃k:Nat,k<=len/\i=.int .i64 k/\J (ps.take k) wr/\Below n₀ W wr)
  (fun i _=>len - (intOf i).toNat)
 case atStart=>exact⟨0,Nat.zero_le _,rfl,by simpa using H0.out,Below.refl _ _⟩
 case round=>
  obtain⟨k,hk,rfl,hJs,hnx⟩:=hrel;have HJ:=hd_ hJs;have HX:=hd_ hnx;have hsz:=hnx.size;clear hJs hnx
  by_cases hlt:k<len
  ·have h1:=(HX.out.cell (p:=⟨b,off+k * 2,none⟩) hb).trans (HC.out k hlt).1
   have h2:=(HX.out.cell (p:=⟨b,off+k * 2+1,none⟩) hb).trans (HC.out k hlt).2;have hs:Hid (ps.take (k+1)=ps.take k++[pr ps k]):=take_succ_pr ps k (by rw[HL.out];exact hlt);have HLt:Hid ((ps.take k).length<len):=by show _<_;have:=HL.out;simp;omega
   generalize pr ps k=q at h1 h2 hs;obtain⟨t,m⟩:=q;simp only at h1 h2;obtain⟨fn,tmps,assign,body,hy,hR⟩:=HY.out (ps.take k) (t,m) (wr.alloc (.cells #[.int .i64 t,.int .i64 m] 213)) (HA.out _ _ _ HJ.out) HLt.out;dsimp only at hy
   gi_wp2
   refine hR.mono ?_;rintro e W3 (⟨rfl,hJ3,hk3⟩|⟨rfl,hJx3⟩)
   ·have B3:=hd_ (hk3)
    have J3:=hd_ hJ3;clear hk3 hJ3 hR hy
    gi_wp2
    go_roundw
    case rel=>exact⟨k+1,by omega,by simp,by rw[hs.out];exact J3.out,(HX.out.alloc (by omega) _).trans B3.out⟩
    case measure=>simp[intOf];omega
   ·have JX:=hd_ hJx3
    have PF:Hid (ps.take k++[(t,m)]<+:ps):=by show _<+:_;rw[<-hs.out];exact List.take_prefix _ _
    clear hJx3 hR hy
    gi_wp2
    refine bodyPost_ret (results_none rfl _ _ _) rfl ?_;exact⟨⟨_,rfl⟩,.inr ⟨_,PF.out,JX.out⟩⟩
  ·obtain rfl:k=len:=by omega
   have e1:ps.take k=ps:=List.take_of_length_le (by rw[HL.out];exact Nat.le_refl _);have E1:=hd_ e1;clear e1
   gi_wp2
   go_end0
   exact⟨⟨_,rfl⟩,.inl ⟨ps,rfl,by have h:=HJ.out;rw[E1.out]at h;exact h⟩⟩
theorem values1_nil (n:Nat) (l Bs:Nat) (J:List Pr->World->Prop) (W:World) (hBs:W.cell? ⟨Bs,0,none⟩=some (.slice none 0 0)) (h0:J [] W):
  CallsIn Fence.wide n Tryz.prog 318 #[.func (.yield l) #[] #[],.pointer (some ⟨Bs,0,none⟩)] W fun e W'=>(∃v,e=.returned v)/\J [] W':=by
 have H0:=hd_ h0;clear h0;refine callsIn_of_wp Tryz.func318 rfl trivial ?_ rfl;simp only[Tryz.ntmps318,List.size_toArray,List.length_cons,List.length_nil,Nat.reduceAdd,Nat.reduceSub,Array.replicate_succ,Array.replicate_zero,List.push_toArray,List.append_toArray,List.nil_append,List.cons_append]
 gi_wp2
 gi_loopw [7] (fun i wr=>i=.int .i64 0/\J [] wr) (fun _ _=>0)
 case atStart=>exact⟨rfl,H0.out⟩
 case round=>
  obtain⟨rfl,hJs⟩:=hrel;have HJ:=hd_ hJs;clear hJs
  gi_wp2
  go_end0
  exact⟨⟨_,rfl⟩,HJ.out⟩
theorem values_stops (n:Nat) (hn:1<=n) (Bs n₀:Nat) (v:Value) (ps:List Pr) (hm:ps.length<=1000) (w:World) (hBs:Bs<w.heap.size) (hn₀:n₀<=w.heap.size) (hc:w.cell? ⟨Bs,0,none⟩=some v) (hI:InP n₀ w v ps):
  SeqStopsK Fence.wide n Tryz.prog 318 #[.pointer (some ⟨Bs,0,none⟩)] (fun x:Pr=>#[.agg #[.int .i64 x.1,.int .i64 x.2]]) (Below n₀) (fun ys=>ys=ps) (fun pre=>pre<+:ps) ps.length w:=fun l J Jx W hW hJ _ hY h0=>by
 have hc':=(hW.cell (p:=⟨Bs,0,none⟩) hBs).trans hc;have hJa:∀s W1 o,J s W1->J s (W1.alloc o):=fun s W1 o h=>hJ s W1 _ none h (World.grownBy_alloc W1 o none) (fun r e=>by cases e)
 rcases hI.below (hW.mono hn₀)with ⟨rfl,rfl⟩|⟨b,off,cap,rfl,h1,h2,hb,hcs⟩
 ·exact (values1_nil n l Bs J W hc' h0).mono fun e W' ⟨he,hj⟩=>⟨he,.inl ⟨_,rfl,hj⟩⟩
 ·exact values1_some n hn l Bs n₀ b off ps.length cap ps rfl hm hb J Jx hY hJa W (Nat.le_trans hn₀ hW.size) hc' hcs h0
def Box2 (W:World) (B:Nat) (x:Pr):Prop:=W.heap[B]? =some (.cells #[.int .i64 x.1,.int .i64 x.2] 213 (0,0))
theorem Box2.cell0 {W:World} {B:Nat} {x:Pr} (h:Box2 W B x):W.cell? ⟨B,0,none⟩=some (.int .i64 x.1):=by unfold Box2 at h;simp[World.cell?,h]
theorem Box2.cell1 {W:World} {B:Nat} {x:Pr} (h:Box2 W B x):W.cell? ⟨B,1,none⟩=some (.int .i64 x.2):=by unfold Box2 at h;simp[World.cell?,h]
theorem box2_own (B:Nat) (x:Pr) {X Y:World} {row:Option Nat} (h:Box2 X B x) (hg:X.grownBy Y row) (hr:∀r,row=some r->∃o:Obj,X.heap[r]? =some o/\o.isCells=false):Box2 Y B x:=by
 unfold Box2 at h ⊢;refine (hg.block B (Array.getElem?_eq_some_iff.1 h).1 (fun e=>?_)).trans h;obtain⟨o,ho,hc⟩:=hr B e.symm;rw[h]at ho;cases ho;cases hc
theorem appendSeq_at (w:World) (Bs:Nat) (v:Value) (ps:List Pr) (hm:ps.length<=1000) (hc:w.cell? ⟨Bs,0,none⟩=some v) (hp:Prs w v ps):
  CallsIn Fence.wide 8 Tryz.prog 322 #[.slice none 0 0,.func (.func 318) #[] #[.pointer (some ⟨Bs,0,none⟩)]] w fun e w'=>∃u,e=.returned u/\OwnP w' w.heap.size u ps/\Below w.heap.size w w':=by
 obtain⟨i0,hi,hz0,hz1,hz2⟩:=info_parts pair_info;have hBs:=World.block_lt_of_cell? _ _ hc;simp only at hBs;have IA:=hd_ hp.inP;have hb0:=(Below.refl w.heap.size w).alloc lr_ (.cells #[.slice none 0 0] 39);have B0:=hd_ hb0;have C0:=hd_ (cell_later hb0 hc);have S0:Hid ((w.alloc (.cells #[.slice none 0 0] 39)).heap.size=w.heap.size+1):=by show _=_;simp
 have X0:=hd_ (Go.Boxed.new w 39 (.slice none 0 0));have HM:=hd_ hm;clear hc hp hb0 hm;refine callsIn_of_wp_marks Tryz.func322 rfl trivial ?_ rfl;simp only[Tryz.ntmps322,List.size_toArray,List.length_cons,List.length_nil,Nat.reduceAdd,Nat.reduceSub,Array.replicate_succ,Array.replicate_zero,List.push_toArray,List.append_toArray,List.nil_append,List.cons_append]
 gi_wp2
 obtain⟨W0,hW0⟩:∃W0,W0=w.alloc (.cells #[.slice none 0 0] 39):=⟨_,rfl⟩
 rw[<-hW0]at B0 C0 S0 X0 ⊢;clear hW0;refine wpIn_rangeFunc_ownH rfl (by omega) (gf:=318) (lb:=#[.pointer (some ⟨Bs,0,none⟩)]) rfl trivial (enters_of Tryz.func318 (by kernel_rfl) rfl)
  (values_stops 7 (by omega) Bs w.heap.size v ps HM.out W0 (by rw[S0.out];omega) B0.out.size C0.out (IA.out.below B0.out)) belowK_t (belowK_b (by rw[S0.out];omega)) (Below.refl _ _) (fun _=>rfl)
  (fun (pre:List Pr) W=>(∃u,Go.Boxed W w.heap.size 39 u/\W.ownsRow w.heap.size 213 2 u pre.length (prs pre)/\True)/\Below w.heap.size w W)
  (fun _ _ _=>False)
  (OwnFrom.and (Own.from (holdsRow_own w.heap.size w.heap.size 39 213 2 (fun pre:List Pr=>pre.length) (fun pre=>prs pre) (fun _ _=>True)) _) (ownFrom_below lr_ (by rw[S0.out];omega)))
  (fun _ _ _ _ _ hs _ _=>hs)
  ⟨⟨_,X0.out,World.ownsRow_nil _ _ _ _,trivial⟩,B0.out⟩
  (fun x a' W=>∃Bx,w.heap.size<Bx/\Box2 W Bx x/\a'={ tmps:=#[.slice none 0 0,.func (.func 318) #[] #[.pointer (some ⟨Bs,0,none⟩)],.pointer (some ⟨w.heap.size,0,none⟩),undef,.slice none 0 0,.pointer (some ⟨Bx,0,none⟩),.func (.func 318) #[] #[.pointer (some ⟨Bs,0,none⟩)],.agg #[.int .i64 x.1,.int .i64 x.2],undef,undef,undef,undef,undef],defers:=[] })
  (fun x a' _ X Y row hs hg hr=>by obtain⟨Bx,h1,h2,h3⟩:=hs;exact⟨Bx,h1,box2_own Bx x h2 hg (fun r e=>(hr r e).2),h3⟩)
  ?assign ?body ?done ?stop
 case assign=>
  rintro l pre x W K ⟨⟨u,hu,hrow,_⟩,hB⟩ hK;obtain⟨t,m⟩:=x
  gi_wp2
  exact hK _ _ ((KeepsOthers.alloc _ _).from _) ((Below.refl _ W).alloc hB.size _) ⟨⟨u,hu.alloc _,hrow.alloc _,trivial⟩,hB.alloc hB.size _⟩ ⟨W.heap.size,hu.lt,heap_alloc_new W _,rfl⟩
 case body=>
  rintro l pre x a' W hl hr ⟨⟨u,hu,hrow,_⟩,hB⟩ ⟨Bx,hBx,bX,rfl⟩ hlt;obtain⟨t,m⟩:=x;obtain⟨xu,cu,rfl,_,_⟩:=(show OwnP W w.heap.size u pre from hrow).form;obtain⟨np,hnp⟩:∃np,np=pre.length:=⟨_,rfl⟩
  have n1000:np<1000:=by have:=HM.out;omega
  rw[<-hnp]at hu hrow;have NP:=hd_ hnp;have c0:=hu.cell;have x0:=bX.cell0;have x1:=bX.cell1;have HBW:=hd_ hB;have lS:=hB.size;simp only at x0 x1;clear hr hB hnp hlt bX
  gi_wp2_with (gi_at_builtin;refine wpListIn_append_own _ rfl _ _ 39 rfl w.heap.size 213 i0 (.agg #[.int .i64 0,.int .i64 0]) 2 16 Tryz.underlying39 hi hz0 hz1 hz2 rfl (by decide) _ _ _ rfl (hrow.alloc _) ⟨W.heap.size,0,none⟩ 1 1 [.int .i64 t,.int .i64 m] rfl rfl (cell_two_new _ _ _ _) (by simp[Value.oneCell']) (by unfold maxLen;omega) (by omega) (by simp;omega) ?_;intro v' w1 hown' hgrow _;obtain⟨g',cap',rfl⟩:=ownsRow_succ hown';obtain⟨hv1,hv2,hr2,hk2,hb2⟩:=hu.appended (by decide) hrow lS lr_ hown' hgrow;have hc1:=hv1.cell;have hf1:=hv1.frozen)
  have R:(w1.setCell ⟨w.heap.size,0,none⟩ (.slice (some ⟨g',0,none⟩) (np+1) cap')).ownsRow w.heap.size 213 2 (.slice (some ⟨g',0,none⟩) (np+1) cap') (pre++[(t,m)]).length (prs (pre++[(t,m)])):=by
   rw[List.length_append, <-NP.out,prs_snoc];exact hr2
  first
   |exact⟨hk2.from _,hb2,⟨_,hv2,R,trivial⟩,HBW.out.trans hb2⟩
   |exact⟨hk2.from _,hb2,⟨_,hv2,R⟩,HBW.out.trans hb2⟩
 case done=>
  rintro D xs W hD rfl ⟨⟨u,hu,hrow,_⟩,hB⟩ hK;have c0:=hu.cell;obtain⟨xu,cu,rfl,_,_⟩:=(show OwnP W w.heap.size u xs from hrow).form;obtain⟨np,hnp⟩:∃np,np=xs.length:=⟨_,rfl⟩
  rw[<-hnp]at c0
  gi_wp2
  refine⟨by simp,.inl ⟨_,_,rfl,run_takeDeferred hK,?_⟩⟩;have o3:=ownsRow_putObj hrow (.deferred none) hK rfl;refine⟨_,results_tmp rfl _ _ _,_,rfl,?_,hB.trans (belowK_b (w:=w) lr_ W D _ _ (by have:=S0.out;omega) hK rfl rfl)⟩;exact o3
 case stop=>
  rintro D c pre W _ _ h _;exact h.elim
end Go.Proofs.YtcblbdpdbggkbaaGreat.T
namespace Go.Proofs.YtcblbdpdbggkbaaGreat.T
open Go.RowKit Go.Sort Go.Shelf
theorem values_at (x:Option Addr) (n c:Nat) (w:World):Calls Tryz.prog 304 #[.slice x n c] w fun e w'=>e=.returned (.func (.func 318) #[] #[.pointer (some ⟨w.heap.size,0,none⟩)])/\w.alloc (.cells #[.slice x n c] 39)=w':=by
 go_enter Tryz.func304,Tryz.ntmps304;go_wp2;go_ret;exact⟨rfl,rfl⟩
theorem collect_at (w:World) (Bs:Nat) (v:Value) (ps:List Pr) (hm:ps.length<=1000) (hc:w.cell? ⟨Bs,0,none⟩=some v) (hp:Prs w v ps):
  Calls Tryz.prog 316 #[.func (.func 318) #[] #[.pointer (some ⟨Bs,0,none⟩)]] w fun e w'=>∃u,e=.returned u/\OwnP w' w.heap.size u ps/\Below w.heap.size w w':=by
 have K:=hd_ (callsIn_wide.1 (appendSeq_at w Bs v ps hm hc hp));clear hc hp hm;go_enter Tryz.func316,Tryz.ntmps316
 go_wp2_with fail
 refine K.out.mono ?_;rintro e w1 ⟨u,rfl,ho,hb⟩;obtain⟨x,c,rfl,_,_⟩:=ho.form;go_wp2;go_ret;exact⟨_,rfl,ho,hb⟩
def Sorted (cf:Pr->Pr->Int) (w:World) (ps:List Pr) (w':World) (u:Value):Prop:=∃qs:List Pr,qs.Perm ps/\SortedL cf qs/\Prs w' u qs/\Below w.heap.size w w'
theorem sortedFunc_at (g:Nat) (cf:Pr->Pr->Int) (eg:∀args w,(callFunc g args).run Tryz.prog w=.ok (.enter g args) w) (hg:∀x y W,Calls Tryz.prog g #[.agg (encP x).toArray,.agg (encP y).toArray] W fun e w'=>e=.returned (.int .i64 (cf x y))/\∃q os,w'=grow (W.drewN q) os) (hS:SWO (ltOf cf))
  (w:World) (Bs:Nat) (v:Value) (ps:List Pr) (hm:ps.length<=8) (hc:w.cell? ⟨Bs,0,none⟩=some v) (hp:Prs w v ps):
  Calls Tryz.prog 303 #[.func (.func 318) #[] #[.pointer (some ⟨Bs,0,none⟩)],.func (.func g) #[] #[]] w fun e w'=>∃u,e=.returned u/\Sorted cf w ps w' u:=by
 have K:=hd_ (collect_at w Bs v ps (by omega) hc hp);have KS:Hid (∀W u,OwnP W w.heap.size u ps->Calls Tryz.prog 317 #[u,.func (.func g) #[] #[]] W fun e w'=>e=.returned (.tuple #[])/\∃qs:List Pr,qs.Perm ps/\SortedL cf qs/\Prs w' u qs/\W.grownBy w' u.ownBlock):=fun W u h=>sortFunc_at g cf eg hg hS W w.heap.size u ps h hm
 clear hc hp hm eg hg hS;go_enter Tryz.func303,Tryz.ntmps303
 go_wp2_with fail
 refine K.out.mono ?_;rintro e w1 ⟨u,rfl,ho,hb⟩;have KS1:=hd_ (KS.out w1 u ho);have LT:=hd_ (fun k e=>(World.ownsRow.lt ho k e).1);have HB:=hd_ hb;obtain⟨x,c,rfl,_,_⟩:=ho.form;clear ho hb
 go_wp2_with fail
 refine KS1.out.mono ?_;rintro e w2 ⟨rfl,qs,h1,h2,h3,h4⟩;have fin:Hid (Sorted cf w ps w2 (.slice x ps.length c)):=⟨qs,h1,h2,h3,HB.out.grown h4 HB.out.size (fun k e=>LT.out k e)⟩
 clear h1 h2 h3 h4;go_wp2;go_ret;exact⟨_,rfl,fin.out⟩
def cmpT (x y:Pr):Int:=cmpV x.1 y.1
theorem cmpV_neg (a b:Int):cmpV a b<0↔a<b:=by
 unfold cmpV
 by_cases h:a<b
 ·simp[h]
 ·by_cases h':b<a<;>simp[h,h']
theorem cmpV_zero (a b:Int):cmpV a b=0↔a=b:=by
 unfold cmpV
 by_cases h:a<b
 ·simp[h];omega
 ·by_cases h':b<a
  ·simp[h,h'];omega
  ·simp[h,h'];omega
theorem ltT_iff (x y:Pr):ltOf cmpT x y=true↔x.1<y.1:=by
 simp only[ltOf,cmpT,decide_eq_true_eq,cmpV_neg]
theorem ltN_iff (x y:Pr):ltOf cmpN x y=true↔y.2<x.2\/(y.2=x.2/\x.1<y.1):=by
 simp only[ltOf,cmpN,orV];have h0:=cmpV_zero y.2 x.2;have h1:=cmpV_neg y.2 x.2;have h2:=cmpV_neg x.1 y.1
 split
 ·rw[decide_eq_true_eq,h2];omega
 ·rw[decide_eq_true_eq,h1];omega
theorem ltT_no (x y:Pr):ltOf cmpT x y=false↔¬x.1<y.1:=by rw[<-ltT_iff];simp
theorem ltN_no (x y:Pr):ltOf cmpN x y=false↔¬(y.2<x.2\/(y.2=x.2/\x.1<y.1)):=by rw[<-ltN_iff];simp
theorem swoT:SWO (ltOf cmpT):=⟨fun x=>by rw[ltT_no];omega,fun x y z=>by simp only[ltT_iff];omega,fun x y z=>by simp only[ltT_no];omega⟩
theorem swoN:SWO (ltOf cmpN):=⟨fun x=>by rw[ltN_no];omega,fun x y z=>by simp only[ltN_iff];omega,fun x y z=>by simp only[ltN_no];omega⟩
theorem egT:∀args w,(callFunc 301 args).run Tryz.prog w=.ok (.enter 301 args) w:=enters_of Tryz.func301 (by kernel_rfl) rfl
theorem egN:∀args w,(callFunc 302 args).run Tryz.prog w=.ok (.enter 302 args) w:=enters_of Tryz.func302 (by kernel_rfl) rfl
theorem hgT (x y:Pr) (W:World):Calls Tryz.prog 301 #[.agg (encP x).toArray,.agg (encP y).toArray] W fun e w'=>e=.returned (.int .i64 (cmpT x y))/\∃q os,w'=grow (W.drewN q) os:=
 (againstThing_at x y W).mono fun e w' ⟨he,hw⟩=>⟨he,0,#[.cells #[.int .i64 x.1,.int .i64 x.2] 213 ]++#[.cells #[.int .i64 y.1,.int .i64 y.2] 213 ],by subst hw;rw[alloc_eq_grow,alloc_eq_grow,grow_grow];rfl⟩
theorem againstNumE (x y:Pr) (W:World):Calls Tryz.prog 302 #[.agg (encP x).toArray,.agg (encP y).toArray] W fun e w'=>e=.returned (.int .i64 (cmpN x y))/\∃q os,w'=grow (W.drewN q) os:=againstNum_at x y W
theorem inOrderT_at (w:World) (v:Value) (ps:List Pr) (hp:Prs w v ps) (hn:ps.length<=8):
  Calls Tryz.prog 289 #[v,.int .i64 0] w fun e w'=>∃u,e=.returned u/\Sorted cmpT w ps w' u:=by
 obtain⟨x,c,rfl,_,_⟩:=hp.form;obtain⟨n,hn'⟩:∃n,n=ps.length:=⟨_,rfl⟩
 rw[<-hn']at hp ⊢;obtain⟨W0,hW0⟩:∃W0,W0=w.alloc (.cells #[.func (.func 301) #[] #[],.func (.func 302) #[] #[]] 323):=⟨_,rfl⟩
 have B0:Hid (Below w.heap.size w W0):=by show Below _ _ _;rw[hW0];exact (Below.refl _ _).alloc lr_ _
 have P0:=hd_ (hp.below B0.out lr_);have c0:W0.cell? ⟨w.heap.size,0,none⟩=some (.func (.func 301) #[] #[]):=by rw[hW0];simp
 have l0:w.heap.size<W0.heap.size:=by rw[hW0];simp
 have c1:(W0.drew.alloc (.cells #[.slice x n c] 39)).cell? ⟨w.heap.size,0,none⟩=some (.func (.func 301) #[] #[]):=(World.cell?_alloc_lt (h:=l0) ..).trans c0
 have KS:Hid (Calls Tryz.prog 303 #[.func (.func 318) #[] #[.pointer (some ⟨W0.heap.size,0,none⟩)],.func (.func 301) #[] #[]] (W0.drew.alloc (.cells #[.slice x n c] 39)) fun e w'=>∃u,e=.returned u/\Sorted cmpT (W0.drew.alloc (.cells #[.slice x n c] 39)) ps w' u):=
  sortedFunc_at _ cmpT egT hgT swoT _ W0.heap.size (.slice x n c) ps hn (by rw[World.cell?_alloc_at (hn:=by simp)];simp) (Prs.below (show Prs W0.drew _ ps from P0.out) ((Below.refl _ _).alloc lr_ _) lr_)
 have HW:=hd_ hW0;clear hp hn hn' hW0;go_enter Tryz.func289,Tryz.ntmps289
 go_wp2_with fail
 rw[<-HW.out];clear HW
 go_wp2_with fail
 go_region_with (first
    |(go_at_call 304;refine (values_at x n c _).mono ?_;rintro e w1 ⟨rfl,rfl⟩)
    |(go_at_call 303;refine KS.out.mono ?_;rintro e w2 ⟨u,rfl,qs,h1,h2,h3,h4⟩;obtain⟨xu,cu,rfl,_,_⟩:=h3.form))
 all_goals
  have fin:Hid (Sorted cmpT w ps w2 (.slice xu qs.length cu)):=⟨qs,h1,h2,h3,(B0.out.trans (Below.drew (Below.refl _ _))).trans ((((Below.refl _ _).alloc lr_ _).trans (h4.mono (by simp))).mono (by simpa using B0.out.size))⟩
  clear h1 h2 h3 h4;go_wp2;go_ret;exact⟨_,rfl,fin.out⟩
theorem inOrderN_at (w:World) (v:Value) (ps:List Pr) (hp:Prs w v ps) (hn:ps.length<=8):
  Calls Tryz.prog 289 #[v,.int .i64 1] w fun e w'=>∃u,e=.returned u/\Sorted cmpN w ps w' u:=by
 obtain⟨x,c,rfl,_,_⟩:=hp.form;obtain⟨n,hn'⟩:∃n,n=ps.length:=⟨_,rfl⟩
 rw[<-hn']at hp ⊢;obtain⟨W0,hW0⟩:∃W0,W0=w.alloc (.cells #[.func (.func 301) #[] #[],.func (.func 302) #[] #[]] 323):=⟨_,rfl⟩
 have B0:Hid (Below w.heap.size w W0):=by show Below _ _ _;rw[hW0];exact (Below.refl _ _).alloc lr_ _
 have P0:=hd_ (hp.below B0.out lr_);have c0:W0.cell? ⟨w.heap.size,1,none⟩=some (.func (.func 302) #[] #[]):=by rw[hW0];simp
 have l0:w.heap.size<W0.heap.size:=by rw[hW0];simp
 have c1:(W0.drew.alloc (.cells #[.slice x n c] 39)).cell? ⟨w.heap.size,1,none⟩=some (.func (.func 302) #[] #[]):=(World.cell?_alloc_lt (h:=l0) ..).trans c0
 have KS:Hid (Calls Tryz.prog 303 #[.func (.func 318) #[] #[.pointer (some ⟨W0.heap.size,0,none⟩)],.func (.func 302) #[] #[]] (W0.drew.alloc (.cells #[.slice x n c] 39)) fun e w'=>∃u,e=.returned u/\Sorted cmpN (W0.drew.alloc (.cells #[.slice x n c] 39)) ps w' u):=
  sortedFunc_at _ cmpN egN againstNumE swoN _ W0.heap.size (.slice x n c) ps hn (by rw[World.cell?_alloc_at (hn:=by simp)];simp) (Prs.below (show Prs W0.drew _ ps from P0.out) ((Below.refl _ _).alloc lr_ _) lr_)
 have HW:=hd_ hW0;clear hp hn hn' hW0;go_enter Tryz.func289,Tryz.ntmps289
 go_wp2_with fail
 rw[<-HW.out];clear HW
 go_wp2_with fail
 go_region_with (first
    |(go_at_call 304;refine (values_at x n c _).mono ?_;rintro e w1 ⟨rfl,rfl⟩)
    |(go_at_call 303;refine KS.out.mono ?_;rintro e w2 ⟨u,rfl,qs,h1,h2,h3,h4⟩;obtain⟨xu,cu,rfl,_,_⟩:=h3.form))
 all_goals
  have fin:Hid (Sorted cmpN w ps w2 (.slice xu qs.length cu)):=⟨qs,h1,h2,h3,(B0.out.trans (Below.drew (Below.refl _ _))).trans ((((Below.refl _ _).alloc lr_ _).trans (h4.mono (by simp))).mono (by simpa using B0.out.size))⟩
  clear h1 h2 h3 h4;go_wp2;go_ret;exact⟨_,rfl,fin.out⟩
end Go.Proofs.YtcblbdpdbggkbaaGreat.T
namespace Go.Proofs.YtcblbdpdbggkbaaGreat.T
open Go.RowKit Go.Sort
theorem row_form {w:World} {B:Nat} {e:TypeId} {size n:Nat} {v:Value} {xs:List Value} (h:w.ownsRow B e size v n xs):∃x c,v=.slice x n c:=by
 rcases h.2 with ⟨rfl,h0⟩|⟨g,cap,cur,rfl,_⟩
 ·exact⟨none,0,by rw[h0]⟩
 ·exact⟨_,_,rfl⟩
theorem prs_one (ps:List Pr):∀u ∈ prs ps,u.oneCell'=true:=by
 induction ps with
 |nil=>intro u hu;cases hu
 |cons p ps ih=>
  intro u hu;rw[prs_cons]at hu;simp only[List.mem_cons]at hu;rcases hu with rfl|rfl|hu
  ·rfl
  ·rfl
  ·exact ih u hu
theorem Prs.news {w:World} {b o n c:Nat} {ps:List Pr} (h:Prs w (.slice (some ⟨b,o,none⟩) n c) ps):∀j u,(prs ps)[j]? =some u->w.cell? ((⟨b,o,none⟩:Addr).add j)=some u:=fun j u hu=>by
 have hj:j<(prs ps).length:=(List.getElem?_eq_some_iff.1 hu).1;rw[prs_len]at hj;obtain⟨b',o',e,_,h1,h2⟩:=h.cells (j / 2) (by omega);cases e;have hg:=prs_get ps (j / 2) (by omega);rw[addr_plus];rcases (by omega:j % 2=0\/j % 2=1)with h0|h0
 ·have e:j=j / 2 * 2:=by omega
  rw[e]at hu ⊢;rw[hg.1]at hu;rw[h1, <-hu]
 ·have e:j=j / 2 * 2+1:=by omega
  rw[e]at hu ⊢;rw[hg.2]at hu;rw[<-Nat.add_assoc,h2, <-hu]
theorem growNil_at (n:Nat) (w:World) (hn:n<=100):Calls Tryz.prog 305 #[.slice none 0 0,.int .i64 n] w fun e w'=>∃v,e=.returned v/\OwnP w' w.heap.size v []/\Below w.heap.size w w':=by
 obtain⟨i0,hi,hz0,hz1,hz2⟩:=info_parts pair_info
 by_cases h0:n=0
 ·subst h0
  go_enter Tryz.func305,Tryz.ntmps305;go_wp2;go_ret;exact⟨_,rfl,OwnP.nil _ _,Below.refl _ _⟩
 ·have h1:¬((n:Int)<0):=by omega
  have h4:(0:Int)<(n:Int):=by omega
  have hrz:∀ty,(Builtin.append_ #[39,3 ] ty #[.slice none 0 0,.int .i64 (n:Int)]).run Tryz.prog w=
    .ok (.slice (some ⟨w.heap.size,0,none⟩) n (grownCap w n 0 213)) (w.drew.alloc (.cells ((([]:List Value).toArray++Builtin.zeroCells (Value.agg #[.int .i64 0,.int .i64 0]).cells n)++Builtin.zeroCells (Value.agg #[.int .i64 0,.int .i64 0]).cells (grownCap w n 0 213 - n)) 213)):=fun ty=>by
   have h:=Lib.run_append_grow_zeros w 39 3 ty 213 i0 _ .i64 .i64 Tryz.underlying39 Tryz.underlying3 hi hz0 none 0 0 [] (run_firstCells_none w.drew i0.size 0 0 0) n (by omega) (by rw[hz1];omega) (by omega) (by omega) (by rw[hz2];omega)
    (by rw[Nat.zero_add];exact growslice_fits (by omega) (by rw[hz2];omega))
   rw[Nat.zero_add]at h;exact h
  have hGn:n<=grownCap w n 0 213:=grownCap_ge w _ _ _;have hG63:=grownCap_le_maxLen w n 0 213 (by unfold maxLen;omega);have hsz:∀G,n<=G->((([]:List Value).toArray++Builtin.zeroCells (Value.agg #[.int .i64 0,.int .i64 0]).cells n)++Builtin.zeroCells (Value.agg #[.int .i64 0,.int .i64 0]).cells (G - n)).size=G * 2:=fun G hG=>by
   simp only[Array.size_append,size_zeroCells,Value.cells];simp;omega
  obtain⟨G,hG⟩:∃G,G=grownCap w n 0 213:=⟨_,rfl⟩
  rw[<-hG]at hrz hGn hG63;obtain⟨CS,hCS⟩:∃CS,CS=((([]:List Value).toArray++Builtin.zeroCells (Value.agg #[.int .i64 0,.int .i64 0]).cells n)++Builtin.zeroCells (Value.agg #[.int .i64 0,.int .i64 0]).cells (G - n)):=⟨_,rfl⟩
  have hs:=hsz G hGn;rw[<-hCS]at hrz hs;have FIN:Hid (OwnP (w.drew.alloc (.cells CS 213)) w.heap.size (.slice (some ⟨w.heap.size,0,none⟩) 0 G) []/\Below w.heap.size w (w.drew.alloc (.cells CS 213))):=
   ⟨World.ownsRow_made w.drew CS G lr_ hG63 hs,(Below.drew (Below.refl _ _)).alloc lr_ _⟩
  have hGi:(n:Int)<=(G:Int):=by omega
  have hG0:(0:Int)<=(G:Int):=by omega
  have hG64:(G:Int)<=9223372036854775807:=by unfold maxLen at hG63;omega
  clear hG hCS hsz hs;go_enter Tryz.func305,Tryz.ntmps305
  go_wp2_with (at_builtin;refine Lib.wpList_append_run _ rfl _ _ _ _ rfl _ _ rfl rfl _ _ (hrz _) ?_)
  go_ret;exact⟨_,rfl,FIN.out.1,FIN.out.2⟩
theorem concat_at (w:World) (g na nb ca cb:Nat) (x y:Option Addr) (ps qs:List Pr) (ha:ps.length=na) (hb:qs.length=nb) (la:na<=8) (lb:nb<=8) (hp:Prs w (.slice x na ca) ps) (hq:Prs w (.slice y nb cb) qs)
  (c0:w.cell? ⟨g,0,none⟩=some (.slice x na ca)) (c1:w.cell? ⟨g,1,none⟩=some (.slice y nb cb)):
  Calls Tryz.prog 290 #[.slice (some ⟨g,0,none⟩) 2 2] w fun e w'=>∃v,e=.returned v/\OwnP w' w.heap.size v (ps++qs)/\Below w.heap.size w w':=by
 obtain⟨i0,hi,hz0,hz1,hz2⟩:=info_parts pair_info;have HA:=hd_ ha;have HB:=hd_ hb;have HP:=hd_ hp;have HQ:=hd_ hq;have C0:=hd_ c0;have C1:=hd_ c1;have n0:¬(na:Int)<0:=by omega
 have n1:¬(na:Int)+(nb:Int)<0:=by omega
 have KG:Hid (Calls Tryz.prog 305 #[.slice none 0 0,.int .i64 ((na:Int)+(nb:Int))] w fun e w'=>∃v,e=.returned v/\OwnP w' w.heap.size v []/\Below w.heap.size w w'):=by
  have h:=growNil_at (na+nb) w (by omega);rw[Int.natCast_add]at h;exact h
 have NP:Hid (x=none->ps=[]/\na=0/\ca=0):=fun e=>by
  subst e;rcases HP.out with ⟨e,h0⟩|⟨b,o,c,e,_⟩
  ·injection e with e1 e2 e3;exact⟨h0,e2,e3⟩
  ·cases e
 have NQ:Hid (y=none->qs=[]/\nb=0/\cb=0):=fun e=>by
  subst e;rcases HQ.out with ⟨e,h0⟩|⟨b,o,c,e,_⟩
  ·injection e with e1 e2 e3;exact⟨h0,e2,e3⟩
  ·cases e
 have SX:Hid (∀a,x=some a->∃b o,a=⟨b,o,none⟩):=fun a e=>by
  rcases HP.out with ⟨e',_⟩|⟨b,o,c,e',_⟩
  ·rw[e]at e';cases e'
  ·rw[e]at e';injection e' with e1;exact⟨b,o,Option.some.inj e1⟩
 have SY:Hid (∀a,y=some a->∃b o,a=⟨b,o,none⟩):=fun a e=>by
  rcases HQ.out with ⟨e',_⟩|⟨b,o,c,e',_⟩
  ·rw[e]at e';cases e'
  ·rw[e]at e';injection e' with e1;exact⟨b,o,Option.some.inj e1⟩
 clear ha hb hp hq;go_enter Tryz.func290,Tryz.ntmps290;go_wp2;refine wp_loop_rounds 3 ?_;rw[rounds_succ];go_wp2;rw[rounds_succ];go_wp2;rw[rounds_succ]
 go_wp2_with fail
 refine KG.out.mono ?_;rintro e w1 ⟨v,rfl,ho1,hb1⟩;obtain⟨z,cz,rfl,_,_⟩:=ho1.form;have d0:=cell_later hb1 C0.out;have d1:=cell_later hb1 C1.out;have P1:=hd_ (HP.out.below hb1 lr_);have Q1:=hd_ (HQ.out.below hb1 lr_);have O1:Hid (w1.ownsRow w.heap.size 213 2 (.slice z 0 cz) 0 []):=ho1;have B1:=hd_ hb1;have s1:=hb1.size;have D1:=hd_ d1;have gl:g<w.heap.size:=World.block_lt_of_cell? _ _ C1.out
 clear ho1 hb1 c0 c1 KG;simp only[List.length_nil];go_wp2;refine wp_loop_rounds 3 ?_;rw[rounds_succ]
 -- the first
 rcases hx:x with _|⟨bx,ox,sx⟩
 ·subst hx
  obtain⟨rfl,rfl,rfl⟩:=NP.out rfl;rcases hy:y with _|⟨by',oy,sy⟩
  ·subst hy
   obtain⟨rfl,rfl,rfl⟩:=NQ.out rfl
   go_wp2_with (first|(at_builtin;refine wpList_append_own_none rfl _ _ 39 rfl w.heap.size 213 i0 2 Tryz.underlying39 hi (.slice z 0 cz) 0 [] rfl O1.out rfl ?_;have tok1:True:=trivial))
   rw[rounds_succ]
   go_wp2_with (first|(at_builtin;refine wpList_append_own_none rfl _ _ 39 rfl w.heap.size 213 i0 2 Tryz.underlying39 hi (.slice z 0 cz) 0 [] rfl O1.out rfl ?_;have tok2:True:=trivial))
   rw[rounds_succ];go_wp2;go_ret;exact⟨_,rfl,O1.out,B1.out⟩
  ·obtain⟨by2,oy2,ey⟩:=SY.out _ hy
   obtain⟨rfl,rfl,rfl⟩:by'=by2/\oy=oy2/\sy=none:=by injection ey with e1 e2 e3;exact⟨e1,e2,e3⟩
   subst hy;clear ey
   go_wp2_with (first|(at_builtin;refine wpList_append_own_none rfl _ _ 39 rfl w.heap.size 213 i0 2 Tryz.underlying39 hi (.slice z 0 cz) 0 [] rfl O1.out rfl ?_;have tok1:True:=trivial))
   rw[rounds_succ]
   go_wp2_with (first|(at_builtin;refine wpList_append_own _ rfl _ _ 39 rfl w.heap.size 213 i0 (.agg #[.int .i64 0,.int .i64 0]) 2 16 Tryz.underlying39 hi hz0 hz1 hz2 rfl (by decide) (.slice z 0 cz) 0 [] rfl O1.out ⟨by',oy,none⟩ nb cb (prs qs) rfl (by rw[prs_len,HB.out]) (Q1.out.news) (prs_one _) (by unfold maxLen;omega) (by omega) (by omega) ?_;intro v3 w3 ho3 hg3 _;have O3:=hd_ ho3;obtain⟨z3,cz3,rfl⟩:=row_form ho3;have B3:=hd_ (B1.out.grown hg3 B1.out.size (fun k e=>(O1.out.lt k e).1))))
   rw[rounds_succ];go_wp2;go_ret;refine⟨_,rfl,?_,B3.out⟩;unfold OwnP;have h:=O3.out;rw[<-HB.out]at h ⊢;simpa using h
 ·obtain⟨bx',ox',ex⟩:=SX.out _ hx
  obtain⟨rfl,rfl,rfl⟩:bx=bx'/\ox=ox'/\sx=none:=by injection ex with e1 e2 e3;exact⟨e1,e2,e3⟩
  subst hx;clear ex;rcases hy:y with _|⟨by',oy,sy⟩
  ·subst hy
   obtain⟨rfl,rfl,rfl⟩:=NQ.out rfl
   go_wp2_with (first|(at_builtin;refine wpList_append_own _ rfl _ _ 39 rfl w.heap.size 213 i0 (.agg #[.int .i64 0,.int .i64 0]) 2 16 Tryz.underlying39 hi hz0 hz1 hz2 rfl (by decide) (.slice z 0 cz) 0 [] rfl O1.out ⟨bx,ox,none⟩ na ca (prs ps) rfl (by rw[prs_len,HA.out]) (P1.out.news) (prs_one _) (by unfold maxLen;omega) (by omega) (by omega) ?_;intro v2 w2 ho2 hg2 _;simp only[Nat.zero_add,List.nil_append]at ho2;obtain⟨z2,cz2,rfl⟩:=row_form ho2;have O2:=hd_ ho2;have B2:=hd_ (B1.out.grown hg2 B1.out.size (fun k e=>(O1.out.lt k e).1));have d2:=hg2.cell D1.out (fun e=>by have:=(O1.out.lt _ e.symm).1;simp only at this;omega);have s2:=hg2.size;have Q2:=hd_ (HQ.out.below B2.out lr_)))
   rw[rounds_succ]
   go_wp2_with (first|(at_builtin;refine wpList_append_own_none rfl _ _ 39 rfl w.heap.size 213 i0 2 Tryz.underlying39 hi (.slice z2 na cz2) na (prs ps) rfl O2.out rfl ?_;have tok2:True:=trivial))
   rw[rounds_succ];go_wp2;go_ret;exact⟨_,rfl,by rw[List.append_nil];have h:=O2.out;rw[<-HA.out]at h ⊢;exact h,B2.out⟩
  ·obtain⟨by2,oy2,ey⟩:=SY.out _ hy
   obtain⟨rfl,rfl,rfl⟩:by'=by2/\oy=oy2/\sy=none:=by injection ey with e1 e2 e3;exact⟨e1,e2,e3⟩
   subst hy;clear ey
   go_wp2_with (first|(at_builtin;refine wpList_append_own _ rfl _ _ 39 rfl w.heap.size 213 i0 (.agg #[.int .i64 0,.int .i64 0]) 2 16 Tryz.underlying39 hi hz0 hz1 hz2 rfl (by decide) (.slice z 0 cz) 0 [] rfl O1.out ⟨bx,ox,none⟩ na ca (prs ps) rfl (by rw[prs_len,HA.out]) (P1.out.news) (prs_one _) (by unfold maxLen;omega) (by omega) (by omega) ?_;intro v2 w2 ho2 hg2 _;simp only[Nat.zero_add,List.nil_append]at ho2;obtain⟨z2,cz2,rfl⟩:=row_form ho2;have O2:=hd_ ho2;have B2:=hd_ (B1.out.grown hg2 B1.out.size (fun k e=>(O1.out.lt k e).1));have d2:=hg2.cell D1.out (fun e=>by have:=(O1.out.lt _ e.symm).1;simp only at this;omega);have s2:=hg2.size;have Q2:=hd_ (HQ.out.below B2.out lr_)))
   rw[rounds_succ]
   go_wp2_with (first|(at_builtin;refine wpList_append_own _ rfl _ _ 39 rfl w.heap.size 213 i0 (.agg #[.int .i64 0,.int .i64 0]) 2 16 Tryz.underlying39 hi hz0 hz1 hz2 rfl (by decide) (.slice z2 na cz2) na (prs ps) rfl O2.out ⟨by',oy,none⟩ nb cb (prs qs) rfl (by rw[prs_len,HB.out]) (Q2.out.news) (prs_one _) (by unfold maxLen;omega) (by omega) (by omega) ?_;intro v3 w3 ho3 hg3 _;have O3:=hd_ ho3;obtain⟨z3,cz3,rfl⟩:=row_form ho3;have B3:=hd_ (B2.out.grown hg3 B2.out.size (fun k e=>(O2.out.lt k e).1))))
   rw[rounds_succ];go_wp2;go_ret;refine⟨_,rfl,?_,B3.out⟩;unfold OwnP;have h:=O3.out;rw[<-HA.out, <-HB.out]at h ⊢;rw[prs_append,List.length_append];exact h
end Go.Proofs.YtcblbdpdbggkbaaGreat.T
set_option linter.unusedVariables false
namespace Go.Proofs.YtcblbdpdbggkbaaGreat.T
open Go.RowKit Go.Sort
def lessV:List Pr->Int->List Pr
 | [],_=>[]
 |p::ps,n=>if n<p.2 then (p.1,p.2 - n)::lessV ps n else lessV ps n
theorem lessV_append (ps qs:List Pr) (n:Int):lessV (ps++qs) n=lessV ps n++lessV qs n:=by
 induction ps with
 |nil=>rfl
 |cons p ps ih=>
  simp only[List.cons_append,lessV]
  split<;>simp[ih]
theorem lessV_len (ps:List Pr) (n:Int):(lessV ps n).length<=ps.length:=by
 induction ps with
 |nil=>simp[lessV]
 |cons p ps ih=>unfold lessV;split<;>simp<;>omega
theorem lessV_succ (ps:List Pr) (k:Nat) (n:Int) (h:k<ps.length):lessV (ps.take (k+1)) n=lessV (ps.take k) n++if n<(pr ps k).2 then [((pr ps k).1,(pr ps k).2 - n)]else []:=by
 rw[take_succ_pr ps k h,lessV_append];simp only[lessV]
theorem l3Less_in (w:World) (x:Option Addr) (n c:Nat) (ps:List Pr) (m:Int) (hl:ps.length=n) (hp:Prs w (.slice x n c) ps) (hn:n<=100) (hm:∀i,i<n->0<=(pr ps i).2/\(pr ps i).2<=100000) (m0:0<=m) (m1:m<=100000):
  Calls Tryz.prog 279 #[.slice x n c,.int .i64 m] w fun e w'=>∃v,e=.returned v/\OwnP w' w.heap.size v (lessV ps m)/\Below w.heap.size w w':=by
 obtain⟨i0,hi,hz0,hz1,hz2⟩:=info_parts pair_info;have HP:=hd_ hp.cells;have HL:=hd_ hl;have HM:=hd_ hm;have E0:=hd_ (pair_empty w w.heap.size lr_);clear hl hp hm;go_enter Tryz.func279,Tryz.ntmps279;go_wp2;go_loopw [5,6] (fun u i wr=>∃(k:Nat) (os:List Pr),k<=n/\i=.int .i64 k/\os=lessV (ps.take k) m/\OwnP wr w.heap.size u os/\Below w.heap.size w wr) (fun _ i _=>n - (intOf i).toNat)
 case atStart=>exact⟨0,[],Nat.zero_le _,rfl,by simp[lessV],E0.out,(Below.refl _ _).alloc lr_ _⟩
 case round=>
  obtain⟨k,os,hk,rfl,hos,hown,hbl⟩:=hrel;obtain⟨y,cp,hu,_,_⟩:=hown.form;obtain⟨no,hno⟩:∃no,no=os.length:=⟨_,rfl⟩
  have hno2:no<=200:=by have:=lessV_len (ps.take k) m;rw[hno,hos];have:=HL.out;simp at *;omega
  rw[<-hno]at hu;subst hu;have HOS:=hd_ hos;have HN:=hd_ hno;have HB:=hd_ hbl;have hsz:=hbl.size;have ho:wr.ownsRow w.heap.size 213 2 (.slice y no cp) no (prs os):=by have h:=hown;unfold OwnP at h;rw[<-hno]at h;exact h
  have HO:=hd_ ho;clear hbl hown hno ho hos
  by_cases hlt:k<n
  ·obtain⟨b,o,rfl,hb,h1,h2⟩:=HP.out k (by rw[HL.out];exact hlt)
   replace h1:=(HB.out.cell (p:=⟨b,o+k * 2,none⟩) hb).trans h1;replace h2:=(HB.out.cell (p:=⟨b,o+k * 2+1,none⟩) hb).trans h2;have hs:=hd_ (lessV_succ ps k m (by rw[HL.out];exact hlt));have hmm:=HM.out k hlt;generalize pr ps k=q at h1 h2 hs hmm;obtain⟨t',m'⟩:=q;simp only at h1 h2 hmm;have k0:(0:Int)<=(k:Int):=by omega
   have kn:(k:Int)<(n:Int):=by omega
   by_cases hlm:m<m'
   ·rw[if_pos (by exact hlm)]at hs
    have ws:IntKind.i64.wrap (m' - m)=m' - m:=IntWalk.i64_in _ (by omega)
    go_wp2_with fail
    go_region_law ((refine step_append_lies _ (by rfl) _ _ _ (by rfl) w.heap.size 213 i0 _ 2 16 Tryz.underlying39 hi hz0 hz1 hz2 rfl (by decide) (.slice y no cp) no (prs os) (by rfl) ((HO.out.alloc _).drew) ⟨wr.heap.size,0,none⟩ 1 1 [.int .i64 t',.int .i64 (m' - m)] (by rfl) (by rfl) (World.news_of_block (cs:=#[.int .i64 t',.int .i64 (m' - m)]) (t:=213) (fr:=(0,0)) (heap_alloc_new wr _)) (by simp[Value.oneCell']) (by omega) (by unfold maxLen;omega) (by omega) (by simp;omega) (wr.heap.size+1) (by simp) ?_;intro g1 cap1 w4 hown4 hgrow4 hat4 hlt4))
    all_goals
     have hg5:(wr.alloc (.cells #[.int .i64 t',.int .i64 (m' - m)] 213)).grownBy w4 (Value.slice y no cp).ownBlock:=grownBy_of_drew' hgrow4;go_wp2;go_roundw
     case rel=>exact⟨k+1,os++[(t',m' - m)],by omega,by go_num,by rw[hs.out,HOS.out],own_snocP hown4 HN.out,below_appendP HB.out hsz HO.out hg5⟩
     case measure=>simp[intOf];omega
   ·rw[if_neg (by exact hlm)]at hs
    go_wp2;go_roundw
    case rel=>exact⟨k+1,os,by omega,by go_num,by rw[hs.out,HOS.out,List.append_nil],by have h:=HO.out;rw[HN.out]at h ⊢;exact h,HB.out⟩
    case measure=>simp[intOf];omega
  ·obtain rfl:k=n:=by omega
   have e1:lessV ps m=os:=by rw[HOS.out,List.take_of_length_le (by rw[HL.out];exact Nat.le_refl _)]
   have E1:=hd_ e1;clear e1;go_wp2;go_ret;exact⟨_,rfl,by rw[E1.out];have h:=HO.out;rw[HN.out]at h ⊢;exact h,HB.out⟩
theorem l3Less_at (w:World) (v:Value) (ps:List Pr) (m:Int) (hp:Prs w v ps) (hn:ps.length<=100) (hm:∀i,i<ps.length->0<=(pr ps i).2/\(pr ps i).2<=100000) (m0:0<=m) (m1:m<=100000):
  Calls Tryz.prog 279 #[v,.int .i64 m] w fun e w'=>∃v,e=.returned v/\OwnP w' w.heap.size v (lessV ps m)/\Below w.heap.size w w':=by
 obtain⟨x,c,rfl,_,_⟩:=hp.form;exact l3Less_in w x _ c ps m rfl hp hn hm m0 m1
theorem l3Cut_at (w:World) (u:Value) (ps:List Pr) (lost all:Int) (hp:Prs w u ps) (hn:ps.length<=100) (hm:∀i,i<ps.length->0<=(pr ps i).2/\(pr ps i).2<=100000) (m0:0<=lost) (m1:lost<=100000):
  Calls Tryz.prog 227 #[.agg #[u,.int .i64 lost,.int .i64 all]] w fun e w'=>∃v,e=.returned (.agg #[v,.int .i64 (lost+overV ps),.int .i64 all])/\OwnP w' w.heap.size v (lessV ps (overV ps))/\Below w.heap.size w w':=by
 have hA:=((Below.refl w.heap.size w).alloc lr_ (.cells #[u,.int .i64 lost,.int .i64 all] 41)).alloc (by simp) (.cells #[.slice none 0 0,.int .i64 0,.int .i64 0] 41);have HA:=hd_ hA;have I0:=hd_ (hp.below hA lr_);have K:=hd_ (l3Over_at _ u ps I0.out hn hm);have ob:=overV_bd (M:=100000) (by omega) hm;obtain⟨ov,hov⟩:∃ov,ov=overV ps:=⟨_,rfl⟩
 rw[<-hov]at K ob ⊢;have KL:Hid (∀W,Prs W u ps->Calls Tryz.prog 279 #[u,.int .i64 ov] W fun e w'=>∃v,e=.returned v/\OwnP w' W.heap.size v (lessV ps ov)/\Below W.heap.size W w'):=fun W hW=>l3Less_at W u ps ov hW hn hm ob.1 ob.2
 obtain⟨x,c,hu,_,_⟩:=hp.form;obtain⟨n,hn'⟩:∃n,n=ps.length:=⟨_,rfl⟩
 rw[<-hn']at hu;subst hu;have K0:=hd_ (K.out);obtain⟨W0,hW0⟩:∃W0,W0=(w.alloc (.cells #[.slice x n c,.int .i64 lost,.int .i64 all] 41)).alloc (.cells #[.slice none 0 0,.int .i64 0,.int .i64 0] 41):=⟨_,rfl⟩
 have X0:Box3 W0 w.heap.size 41 (.slice x n c) (.int .i64 lost) (.int .i64 all):=by rw[hW0];exact (Box3.new _ _ _ _ _).alloc _
 have R0:Box3 W0 (w.heap.size+1) 41 (.slice none 0 0) (.int .i64 0) (.int .i64 0):=by
  have h:=Box3.new (w.alloc (.cells #[.slice x n c,.int .i64 lost,.int .i64 all] 41)) 41 (.slice none 0 0) (.int .i64 0) (.int .i64 0);rw[hW0];simpa using h
 rw[<-hW0]at K HA I0;have HW0:=hd_ hW0;have x0:=X0.cell0;have x1:=X0.cell1;have x2:=X0.cell2;clear hA hW0 hov hn' hp hm K0;go_enter Tryz.func227,Tryz.ntmps227
 go_wp2_with fail
 rw[<-HW0.out]
 go_wp2_with fail
 refine K.out.mono ?_;rintro e w1 ⟨rfl,hb1⟩;have X1:=X0.later hb1;have R1:=R0.later hb1;have B1:=hd_ (HA.out.trans (hb1.mono HA.out.size));have I1:=hd_ (I0.out.below hb1 lr_);clear hb1 X0 R0 x0 x1 x2 K HA I0;have x0:=X1.cell0;have x1:=X1.cell1;have x2:=X1.cell2;have ws:IntKind.i64.wrap (lost+ov)=lost+ov:=IntWalk.i64_in _ (by omega)
 have KD:Hid (Calls Tryz.prog 279 #[.slice x n c,.int .i64 ov] w1.drew fun e w'=>∃v,e=.returned v/\OwnP w' w1.drew.heap.size v (lessV ps ov)/\Below w1.drew.heap.size w1.drew w'):=KL.out w1.drew I1.out
 go_wp2_with fail
 go_region_with (first|(go_at_call 279;refine KD.out.mono ?_;rintro e w2 ⟨v,rfl,ho2,hb2⟩;obtain⟨xv,cv,rfl,_,_⟩:=ho2.form;have X2:=X1.drew.later hb2;have y0:=X2.cell0;have y1:=X2.cell1;have y2:=X2.cell2;have R2:=R1.drew.later hb2;have f2:=R2.free;have z0:=R2.cell0;have z1:=R2.cell1;have z2:=R2.cell2))
 all_goals
  have RZ:=R2.set (.slice xv (lessV ps ov).length cv) (.int .i64 (lost+ov)) (.int .i64 all);have hr0:=RZ.cell0;have hr1:=RZ.cell1;have hr2:=RZ.cell2;have OZ:=hd_ (((ho2.set3 (R2.not_row (by decide) ho2) (.slice xv (lessV ps ov).length cv) (.int .i64 (lost+ov)) (.int .i64 all))).base (B':=w.heap.size) (by have:=B1.out.size;simpa using this))
  have BZ:=hd_ (below_set3 (b:=w.heap.size+1) ((B1.out.trans (Below.drew (Below.refl _ _))).trans (hb2.mono (by have:=B1.out.size;simpa using this))) (Nat.le_succ _) (.slice xv (lessV ps ov).length cv) (.int .i64 (lost+ov)) (.int .i64 all));clear ho2 hb2 X2 R2 RZ y0 y1 y2 f2 z0 z1 z2;go_wp2
  exact bodyPost_ret (v:=.agg #[.slice xv (lessV ps ov).length cv,.int .i64 (lost+ov),.int .i64 all]) (by simp[results,Tryz.results227,go_sem,hr0,hr1,hr2]) rfl ⟨_,rfl,OZ.out,BZ.out⟩
def BdP (M:Int) (ps:List Pr):Prop:=∀p ∈ ps,0<=p.2/\p.2<=M
theorem BdP.at {M:Int} {ps:List Pr} (h:BdP M ps):∀i,i<ps.length->0<=(pr ps i).2/\(pr ps i).2<=M:=fun _ hi=>h _ (pr_mem hi)
theorem BdP.mono {M N:Int} {ps:List Pr} (h:BdP M ps) (hM:M<=N):BdP N ps:=fun p hp=>by have:=h p hp;omega
theorem BdP.put {M:Int} {ps:List Pr} {x:Pr} (h:BdP M ps) (hM:0<=M) (hx:0<=x.2):BdP (M+x.2) (putP ps x):=by
 induction ps with
 |nil=>intro p hp;simp[putP]at hp;subst hp;omega
 |cons q ps ih=>
  have hq:=h q (by simp);have ht:BdP M ps:=fun p hp=>h p (by simp[hp])
  intro p hp;unfold putP at hp
  split at hp
  ·rcases List.mem_cons.1 hp with rfl|hp
   ·omega
   ·exact ih ht p hp
  ·split at hp
   ·rcases List.mem_cons.1 hp with rfl|hp
    ·exact⟨by simp;omega,by simp;omega⟩
    ·have:=ht p hp;omega
   ·rcases List.mem_cons.1 hp with rfl|hp
    ·omega
    ·rcases List.mem_cons.1 hp with rfl|hp
     ·omega
     ·have:=ht p hp;omega
theorem TopP.bd {ps:List Pr} {lost all:Int} (h:TopP ps lost all):BdP 2000 ps:=fun p hp=>by
 obtain⟨i,hi,rfl⟩:=pr_at hp;have:=(h.2.1 i hi).1.2;omega
def cutP (ps:List Pr):List Pr:=lessV ps (overV ps)
abbrev Tp:=List Pr × Int × Int
def noneT:Tp:=([],0,0)
def addOk (ps:List Pr) (lost all t:Int):Bool:=topB ps lost all&&(isT t&&decide (all<2000))
def addT (ps:List Pr) (lost all t:Int):Tp:=if addOk ps lost all t then (cutP (putP ps (t,1)),lost+overV (putP ps (t,1)),all+1)else noneT
theorem addT_no {ps:List Pr} {lost all t:Int} (h:addOk ps lost all t=false):addT ps lost all t=noneT:=by simp[addT,h]
theorem addT_yes {ps:List Pr} {lost all t:Int} (h:addOk ps lost all t=true):addT ps lost all t=(cutP (putP ps (t,1)),lost+overV (putP ps (t,1)),all+1):=by simp[addT,h]
theorem addOk_cases (ps:List Pr) (lost all t:Int):(topB ps lost all=false/\addOk ps lost all t=false)\/(topB ps lost all=true/\(t<0\/63<t)/\addOk ps lost all t=false)\/(topB ps lost all=true/\(0<=t/\t<=63)/\2000<=all/\addOk ps lost all t=false)\/(topB ps lost all=true/\(0<=t/\t<=63)/\all<2000/\addOk ps lost all t=true):=by
 unfold addOk;cases h:topB ps lost all
 ·exact .inl ⟨rfl,rfl⟩
 ·cases h':isT t
  ·exact .inr (.inl ⟨rfl,by have:=isT_no h';omega,rfl⟩)
  ·have:=isT_yes h'
   by_cases ha:all<2000
   ·exact .inr (.inr (.inr ⟨rfl,by omega,ha,by simp[ha]⟩))
   ·exact .inr (.inr (.inl ⟨rfl,by omega,by omega,by simp[ha]⟩))
theorem spTopAdd_no (w:World) (u:Value) (ps:List Pr) (lost all t:Int) (hp:Prs w u ps) (hno:addOk ps lost all t=false):
  Calls Tryz.prog 312 #[.agg #[u,.int .i64 lost,.int .i64 all],.int .i64 t] w fun e w'=>e=.returned (.tuple #[.agg #[.slice none 0 0,.int .i64 0,.int .i64 0],.bool false])/\Below w.heap.size w w':=by
 have hA:=((Below.refl w.heap.size w).alloc lr_ (.cells #[u,.int .i64 lost,.int .i64 all] 41)).alloc (by simp) (.cells #[.slice none 0 0,.int .i64 0,.int .i64 0] 41);have K:=hd_ (spTopOk_at _ u ps lost all (hp.below hA lr_));have HA:=hd_ hA;obtain⟨x,c,hu,_,_⟩:=hp.form;obtain⟨n,hn'⟩:∃n,n=ps.length:=⟨_,rfl⟩
 rw[<-hn']at hu;subst hu;obtain⟨W0,hW0⟩:∃W0,W0=(w.alloc (.cells #[.slice x n c,.int .i64 lost,.int .i64 all] 41)).alloc (.cells #[.slice none 0 0,.int .i64 0,.int .i64 0] 41):=⟨_,rfl⟩
 have X0:Box3 W0 w.heap.size 41 (.slice x n c) (.int .i64 lost) (.int .i64 all):=by rw[hW0];exact (Box3.new _ _ _ _ _).alloc _
 have R0:Box3 W0 (w.heap.size+1) 41 (.slice none 0 0) (.int .i64 0) (.int .i64 0):=by
  have h:=Box3.new (w.alloc (.cells #[.slice x n c,.int .i64 lost,.int .i64 all] 41)) 41 (.slice none 0 0) (.int .i64 0) (.int .i64 0);rw[hW0];simpa using h
 rw[<-hW0]at K HA;have HW0:=hd_ hW0;have x0:=X0.cell0;have x1:=X0.cell1;have x2:=X0.cell2;have HNO:=hd_ (addOk_cases ps lost all t);have HN:=hd_ hno;have EB:=hd_ (rfl:topB ps lost all=topB ps lost all)
 have main:∀ok,topB ps lost all=ok->(ok=true->(t<0\/63<t)\/((0<=t/\t<=63)/\2000<=all))->Calls Tryz.prog 312 #[.agg #[.slice x n c,.int .i64 lost,.int .i64 all],.int .i64 t] w fun e w'=>e=.returned (.tuple #[.agg #[.slice none 0 0,.int .i64 0,.int .i64 0],.bool false])/\Below w.heap.size w w':=by
  intro ok hok hwhy;rw[hok]at K;have HY:=hd_ hwhy;clear hok hwhy hA hW0 hn' hp hno;cases ok with
  |false=>
   go_enter Tryz.func312,Tryz.ntmps312
   go_wp2_with fail
   rw[<-HW0.out]
   go_wp2_with fail
   refine K.out.mono ?_;rintro e w1 ⟨rfl,hb1⟩;have R1:=R0.later hb1;have z0:=R1.cell0;have z1:=R1.cell1;have z2:=R1.cell2;have f2:=R1.free;have RZ:=R1.set (.slice none 0 0) (.int .i64 0) (.int .i64 0);have hr0:=RZ.cell0;have hr1:=RZ.cell1;have hr2:=RZ.cell2
   have BZ:=hd_ (below_set3 (b:=w.heap.size+1) (HA.out.trans (hb1.mono HA.out.size)) (Nat.le_succ _) (.slice none 0 0) (.int .i64 0) (.int .i64 0));clear R1 RZ x0 x1 x2 X0 R0 hb1;go_wp2;exact bodyPost_ret (v:=.tuple #[.agg #[.slice none 0 0,.int .i64 0,.int .i64 0],.bool false]) (by simp[results,Tryz.results312,go_sem,hr0,hr1,hr2]) rfl ⟨rfl,BZ.out⟩
  |true=>
   rcases HY.out rfl with ht|⟨ht,ha⟩
   ·have KT:Hid (∀W,Calls Tryz.prog 66 #[.int .i64 t,.int .i64 0,.int .i64 63] W fun e w'=>e=.returned (.bool false)/\W=w'):=fun W=>l6In_no t 0 63 W ht
    clear ht;go_enter Tryz.func312,Tryz.ntmps312
    go_wp2_with fail
    rw[<-HW0.out]
    go_wp2_with fail
    refine K.out.mono ?_;rintro e w1 ⟨rfl,hb1⟩
    go_wp2_with fail
    refine (KT.out _).mono ?_;rintro e w' ⟨rfl,rfl⟩;have R1:=R0.later hb1;have z0:=R1.cell0;have z1:=R1.cell1;have z2:=R1.cell2;have f2:=R1.free;have RZ:=R1.set (.slice none 0 0) (.int .i64 0) (.int .i64 0);have hr0:=RZ.cell0;have hr1:=RZ.cell1;have hr2:=RZ.cell2
    have BZ:=hd_ (below_set3 (b:=w.heap.size+1) (HA.out.trans (hb1.mono HA.out.size)) (Nat.le_succ _) (.slice none 0 0) (.int .i64 0) (.int .i64 0));clear R1 RZ x0 x1 x2 X0 R0 hb1;go_wp2;exact bodyPost_ret (v:=.tuple #[.agg #[.slice none 0 0,.int .i64 0,.int .i64 0],.bool false]) (by simp[results,Tryz.results312,go_sem,hr0,hr1,hr2]) rfl ⟨rfl,BZ.out⟩
   ·have KT:Hid (∀W,Calls Tryz.prog 66 #[.int .i64 t,.int .i64 0,.int .i64 63] W fun e w'=>e=.returned (.bool true)/\W=w'):=fun W=>l6In_yes t 0 63 W ht.1 ht.2
    clear ht;go_enter Tryz.func312,Tryz.ntmps312
    go_wp2_with fail
    rw[<-HW0.out]
    go_wp2_with fail
    refine K.out.mono ?_;rintro e w1 ⟨rfl,hb1⟩
    go_wp2_with fail
    refine (KT.out _).mono ?_;rintro e w' ⟨rfl,rfl⟩;have X1:=X0.later hb1;have y2:=X1.cell2;have R1:=R0.later hb1;have z0:=R1.cell0;have z1:=R1.cell1;have z2:=R1.cell2;have f2:=R1.free;have RZ:=R1.set (.slice none 0 0) (.int .i64 0) (.int .i64 0);have hr0:=RZ.cell0;have hr1:=RZ.cell1;have hr2:=RZ.cell2
    have BZ:=hd_ (below_set3 (b:=w.heap.size+1) (HA.out.trans (hb1.mono HA.out.size)) (Nat.le_succ _) (.slice none 0 0) (.int .i64 0) (.int .i64 0));clear R1 RZ x0 x1 x2 X0 R0 hb1;go_wp2;exact bodyPost_ret (v:=.tuple #[.agg #[.slice none 0 0,.int .i64 0,.int .i64 0],.bool false]) (by simp[results,Tryz.results312,go_sem,hr0,hr1,hr2]) rfl ⟨rfl,BZ.out⟩
 refine main _ rfl fun hok=>?_
 rcases HNO.out with ⟨h,_⟩|⟨_,h,_⟩|⟨_,h,h',_⟩|⟨_,_,_,h⟩
 ·rw[h]at hok;cases hok
 ·exact .inl h
 ·exact .inr ⟨h,h'⟩
 ·rw[hno]at h;cases h
theorem spTopAdd_yes (w:World) (u:Value) (ps:List Pr) (lost all t:Int) (hp:Prs w u ps) (hok:topB ps lost all=true) (ht:0<=t/\t<=63) (ha:all<2000):
  Calls Tryz.prog 312 #[.agg #[u,.int .i64 lost,.int .i64 all],.int .i64 t] w fun e w'=>∃v,e=.returned (.tuple #[.agg #[v,.int .i64 (lost+overV (putP ps (t,1))),.int .i64 (all+1)],.bool true])/\OwnP w' w.heap.size v (cutP (putP ps (t,1)))/\Below w.heap.size w w':=by
 have hA:=((Below.refl w.heap.size w).alloc lr_ (.cells #[u,.int .i64 lost,.int .i64 all] 41)).alloc (by simp) (.cells #[.slice none 0 0,.int .i64 0,.int .i64 0] 41);have I0:=hd_ (hp.below hA lr_);have K:=hd_ (spTopOk_at _ u ps lost all I0.out);have HA:=hd_ hA;have hP:=(topB_iff _ _ _).1 hok;have hbd:=hP.bd;have hl4:=hP.1.1;have hlo:=hP.1.2.1;have hal:=hP.1.2.2
 have KP:Hid (∀W,Prs W u ps->Calls Tryz.prog 226 #[u,.agg #[.int .i64 t,.int .i64 1]] W fun e w'=>∃v,e=.returned v/\OwnP w' W.heap.size v (putP ps (t,1))/\Below W.heap.size W w'):=fun W hW=>
  l3Put_at W u ps t 1 hW (by omega) (hbd.mono (by omega)).at (by omega) (by omega)
 have hbq:=(hbd.put (x:=(t,1)) (by omega) (by simp)).mono (N:=100000) (by simp);have hlq:=putP_len ps (t,1);rw[hok]at K;obtain⟨qs,hqs⟩:∃qs,qs=putP ps (t,1):=⟨_,rfl⟩
 rw[<-hqs]at KP hbq hlq ⊢;have KC:Hid (∀W v,Prs W v qs->Calls Tryz.prog 227 #[.agg #[v,.int .i64 lost,.int .i64 (all+1)]] W fun e w'=>∃v,e=.returned (.agg #[v,.int .i64 (lost+overV qs),.int .i64 (all+1)])/\OwnP w' W.heap.size v (cutP qs)/\Below W.heap.size W w'):=fun W v hv=>
  l3Cut_at W v qs lost (all+1) hv (by omega) hbq.at (by omega) (by omega)
 obtain⟨x,c,hu,_,_⟩:=hp.form;obtain⟨n,hn'⟩:∃n,n=ps.length:=⟨_,rfl⟩
 rw[<-hn']at hu;subst hu;obtain⟨W0,hW0⟩:∃W0,W0=(w.alloc (.cells #[.slice x n c,.int .i64 lost,.int .i64 all] 41)).alloc (.cells #[.slice none 0 0,.int .i64 0,.int .i64 0] 41):=⟨_,rfl⟩
 have X0:Box3 W0 w.heap.size 41 (.slice x n c) (.int .i64 lost) (.int .i64 all):=by rw[hW0];exact (Box3.new _ _ _ _ _).alloc _
 have R0:Box3 W0 (w.heap.size+1) 41 (.slice none 0 0) (.int .i64 0) (.int .i64 0):=by
  have h:=Box3.new (w.alloc (.cells #[.slice x n c,.int .i64 lost,.int .i64 all] 41)) 41 (.slice none 0 0) (.int .i64 0) (.int .i64 0);rw[hW0];simpa using h
 rw[<-hW0]at K HA I0;have HW0:=hd_ hW0;have x0:=X0.cell0;have x1:=X0.cell1;have x2:=X0.cell2;have KT:Hid (∀W,Calls Tryz.prog 66 #[.int .i64 t,.int .i64 0,.int .i64 63] W fun e w'=>e=.returned (.bool true)/\W=w'):=fun W=>l6In_yes t 0 63 W ht.1 ht.2
 obtain⟨ov,hov⟩:∃ov,ov=overV qs:=⟨_,rfl⟩
 obtain⟨cs,hcs⟩:∃cs,cs=cutP qs:=⟨_,rfl⟩
 rw[<-hov, <-hcs]at KC ⊢;clear hA hW0 hn' hp hP hbd hok hqs hbq hlq hov hcs;go_enter Tryz.func312,Tryz.ntmps312
 go_wp2_with fail
 rw[<-HW0.out]
 go_wp2_with fail
 refine K.out.mono ?_;rintro e w1 ⟨rfl,hb1⟩
 go_wp2_with fail
 refine (KT.out _).mono ?_;rintro e w' ⟨rfl,rfl⟩;have X1:=X0.later hb1;have R1:=R0.later hb1;have B1:=hd_ (HA.out.trans (hb1.mono HA.out.size));have I1:=hd_ (I0.out.below hb1 lr_);clear hb1 X0 R0 x0 x1 x2 K HA I0 KT;have x0:=X1.cell0;have x1:=X1.cell1;have x2:=X1.cell2
 have KD:Hid (Calls Tryz.prog 226 #[.slice x n c,.agg #[.int .i64 t,.int .i64 1]] w1.drew fun e w'=>∃v,e=.returned v/\OwnP w' w1.drew.heap.size v qs/\Below w1.drew.heap.size w1.drew w'):=KP.out w1.drew I1.out;have ws:IntKind.i64.wrap (all+1)=all+1:=IntWalk.i64_in _ (by omega)
 go_wp2_with fail
 go_region_with (first|(go_at_call 226;refine KD.out.mono ?_;rintro e w2 ⟨v,rfl,ho2,hb2⟩;obtain⟨xv,cv,rfl,_,_⟩:=ho2.form;have X2:=X1.drew.later hb2;have y0:=X2.cell0;have y1:=X2.cell1;have y2:=X2.cell2;have R2:=R1.drew.later hb2;have KE:=hd_ (KC.out w2 _ ho2.rd))|(go_at_call 227;refine KE.out.mono ?_;rintro e w3 ⟨v,rfl,ho3,hb3⟩;obtain⟨xz,cz,rfl,_,_⟩:=ho3.form;have R3:=R2.later hb3;have f2:=R3.free;have z0:=R3.cell0;have z1:=R3.cell1;have z2:=R3.cell2))
 all_goals
  have RZ:=R3.set (.slice xz cs.length cz) (.int .i64 (lost+ov)) (.int .i64 (all+1));have hr0:=RZ.cell0;have hr1:=RZ.cell1;have hr2:=RZ.cell2;have s1:w.heap.size<=w1.heap.size:=B1.out.size;have s2:w1.heap.size<=w2.heap.size:=by have:=hb2.size;simpa using this
  have OZ:=hd_ (((ho3.set3 (R3.not_row (by decide) ho3) (.slice xz cs.length cz) (.int .i64 (lost+ov)) (.int .i64 (all+1)))).base (B':=w.heap.size) (by omega))
  have BZ:=hd_ (below_set3 (b:=w.heap.size+1) ((B1.out.trans (Below.drew (Below.refl _ _))).trans ((hb2.trans (hb3.mono (by simpa using s2))).mono (by simpa using s1))) (Nat.le_succ _) (.slice xz cs.length cz) (.int .i64 (lost+ov)) (.int .i64 (all+1)));clear ho2 hb2 X2 R2 ho3 hb3 R3 RZ y0 y1 y2 f2 z0 z1 z2 s1 s2;go_wp2
  exact bodyPost_ret (v:=.tuple #[.agg #[.slice xz cs.length cz,.int .i64 (lost+ov),.int .i64 (all+1)],.bool true]) (by simp[results,Tryz.results312,go_sem,hr0,hr1,hr2]) rfl ⟨_,rfl,OZ.out,BZ.out⟩
theorem spTopAdd_at (w:World) (u:Value) (ps:List Pr) (lost all t:Int) (hp:Prs w u ps):
  Calls Tryz.prog 312 #[.agg #[u,.int .i64 lost,.int .i64 all],.int .i64 t] w fun e w'=>∃v,e=.returned (.tuple #[.agg #[v,.int .i64 (addT ps lost all t).2.1,.int .i64 (addT ps lost all t).2.2],.bool (addOk ps lost all t)])/\OwnP w' w.heap.size v (addT ps lost all t).1/\Below w.heap.size w w':=by
 cases h:addOk ps lost all t with
 |false=>
  rw[addT_no h];exact (spTopAdd_no w u ps lost all t hp h).mono fun e w' ⟨he,hb⟩=>⟨_,he,OwnP.nil _ _,hb⟩
 |true=>
  rw[addT_yes h];rcases addOk_cases ps lost all t with ⟨_,h'⟩|⟨_,_,h'⟩|⟨_,_,_,h'⟩|⟨hk,ht,ha,_⟩
  ·rw[h]at h';cases h'
  ·rw[h]at h';cases h'
  ·rw[h]at h';cases h'
  ·exact spTopAdd_yes w u ps lost all t hp hk ht ha
end Go.Proofs.YtcblbdpdbggkbaaGreat.T
set_option linter.unusedVariables false
namespace Go.Proofs.YtcblbdpdbggkbaaGreat.T
open Go.RowKit Go.Sort
def mrg (os:List Pr) (p:Pr):List Pr:=if 0<os.length/\(pr os (os.length - 1)).1=p.1 then os.set (os.length - 1) (p.1,(pr os (os.length - 1)).2+p.2)else os++[p]
theorem mrg_new {os:List Pr} {p:Pr} (h:¬(0<os.length/\(pr os (os.length - 1)).1=p.1)):mrg os p=os++[p]:=if_neg h
theorem mrg_old {os:List Pr} {p:Pr} (h0:0<os.length) (h:(pr os (os.length - 1)).1=p.1):mrg os p=os.set (os.length - 1) (p.1,(pr os (os.length - 1)).2+p.2):=if_pos ⟨h0,h⟩
def mrgV (qs:List Pr):List Pr:=qs.foldl mrg []
theorem mrg_len (os:List Pr) (p:Pr):(mrg os p).length<=os.length+1:=by unfold mrg;split<;>simp
theorem mrgV_succ (qs:List Pr) (k:Nat) (h:k<qs.length):mrgV (qs.take (k+1))=mrg (mrgV (qs.take k)) (pr qs k):=by
 rw[take_succ_pr qs k h];simp[mrgV]
theorem mrgV_len (qs:List Pr) {k:Nat} (h:k<=qs.length):(mrgV (qs.take k)).length<=k:=by
 induction k with
 |zero=>simp[mrgV]
 |succ k ih=>rw[mrgV_succ qs k h];have:=mrg_len (mrgV (qs.take k)) (pr qs k);have:=ih (by omega);omega
theorem BdP.mrg {M N:Int} {os:List Pr} {p:Pr} (h:BdP M os) (h0:0<=M) (hp:0<=p.2/\p.2<=N):BdP (M+N) (mrg os p):=by
 unfold YtcblbdpdbggkbaaGreat.T.mrg
 split
 ·rename_i hc
  intro q hq;have hl:=h _ (pr_mem (ps:=os) (i:=os.length - 1) (by omega));rcases List.mem_or_eq_of_mem_set hq with h1|h1
  ·have:=h q h1;omega
  ·rw[h1];exact⟨by simp;omega,by simp;omega⟩
 ·intro q hq
  rcases List.mem_append.1 hq with h1|h1
  ·have:=h q h1;omega
  ·simp at h1;subst h1;omega
theorem BdP.mrgV {N:Int} {qs:List Pr} (h:BdP N qs) (hN:0<=N) {k:Nat} (hk:k<=qs.length):BdP (N * k) (mrgV (qs.take k)):=by
 induction k with
 |zero=>intro q hq;simp[YtcblbdpdbggkbaaGreat.T.mrgV]at hq
 |succ k ih=>
  rw[mrgV_succ qs k hk];have h3:=BdP.mrg (ih (by omega)) (Int.mul_nonneg hN (by omega)) (h.at k (by omega));have e:N * ((k+1:Nat):Int)=N * (k:Int)+N:=by rw[Int.natCast_add,Int.mul_add];simp
  rw[e];exact h3
theorem prs_set (ps:List Pr) (k:Nat) (z:Int) (h:k<ps.length):(prs ps).set (k * 2+1) (.int .i64 z)=prs (ps.set k ((pr ps k).1,z)):=by
 induction ps generalizing k with
 |nil=>cases h
 |cons p ps ih=>
  rw[prs_cons];cases k with
  |zero=>rfl
  |succ k=>
   have:=ih k (by simpa using h);rw[show (k+1) * 2+1=k * 2+1+1+1 by omega];simp only[List.set_cons_succ];rw[this]
   rfl
theorem row_last {w:World} {B j c:Nat} {x:Option Addr} {os:List Pr} (h:w.ownsRow B 213 2 (.slice x (j+1) c) (j+1) (prs os)) (hl:os.length=j+1):
  ∃g,x=some ⟨g,0,none⟩/\B<=g/\g<w.heap.size/\j+1<=c/\w.cell? ⟨g,j * 2,none⟩=some (.int .i64 (pr os j).1)/\w.cell? ⟨g,j * 2+1,none⟩=some (.int .i64 (pr os j).2)/\w.frozen? ⟨g,j * 2+1,none⟩=false:=by
 rcases h.2 with ⟨_,h0⟩|⟨g,cap,cur,e,hb,hg,hn,hc,hs,ht⟩
 ·omega
 ·obtain⟨e1,_,e3⟩:=Value.slice.inj e
  subst e1 e3;have e2:=prs_get os j (by omega);have a:=World.ownsRow.cells h (g:=g) rfl _ _ e2.1;have b:=World.ownsRow.cells h (g:=g) rfl _ _ e2.2;rw[addr_plus,Nat.zero_add]at a b;exact⟨g,rfl,hb,(Array.getElem?_eq_some_iff.1 hg).1,hn,a,b,World.ownsRow.frozenAt h _⟩
def Both (w:World) (ps qs:List Pr) (w':World) (u:Value):Prop:=∃ss:List Pr,ss.Perm (ps++qs)/\SortedL cmpT ss/\OwnP w' w.heap.size u (mrgV ss)/\Below w.heap.size w w'
theorem pairsOfBoth_at (w:World) (u v:Value) (ps qs:List Pr) (hp:Prs w u ps) (hq:Prs w v qs) (la:ps.length<=4) (lb:qs.length<=4) (ba:BdP 2000 ps) (bb:BdP 2000 qs):
  Calls Tryz.prog 251 #[u,v] w fun e w'=>∃r,e=.returned r/\Both w ps qs w' r:=by
 obtain⟨i0,hi,hz0,hz1,hz2⟩:=info_parts pair_info;obtain⟨x,ca,rfl,_,_⟩:=hp.form;obtain⟨y,cb,rfl,_,_⟩:=hq.form;obtain⟨na,hna⟩:∃na,na=ps.length:=⟨_,rfl⟩
 obtain⟨nb,hnb⟩:∃nb,nb=qs.length:=⟨_,rfl⟩
 rw[<-hna]at hp la ⊢;rw[<-hnb]at hq lb ⊢;obtain⟨W0,hW0⟩:∃W0,W0=w.alloc (.cells #[.slice x na ca,.slice y nb cb] 39):=⟨_,rfl⟩
 have B0:Hid (Below w.heap.size w W0):=by show Below _ _ _;rw[hW0];exact (Below.refl _ _).alloc lr_ _
 have KC:=hd_ (concat_at W0 w.heap.size na nb ca cb x y ps qs hna.symm hnb.symm (by omega) (by omega) (hp.below B0.out lr_) (hq.below B0.out lr_) (by rw[hW0];simp) (by rw[hW0];simp));have HW:=hd_ hW0;obtain⟨L,hL⟩:∃L,L=ps++qs:=⟨_,rfl⟩
 have HLEN:Hid (L.length<=8):=by show _<=_;rw[hL,List.length_append, <-hna, <-hnb];omega
 have HBD:Hid (BdP 2000 L):=fun p hp'=>by rw[hL]at hp';rcases List.mem_append.1 hp' with h|h;exact ba p h;exact bb p h
 have HLL:=hd_ hL;rw[<-hL]at KC;have KO:Hid (∀W r,Prs W r L->Calls Tryz.prog 289 #[r,.int .i64 0] W fun e w'=>∃u,e=.returned u/\Sorted cmpT W L w' u):=fun W r h=>inOrderT_at W r _ h HLEN.out
 clear hp hq ba bb hna hnb hW0 hL;go_enter Tryz.func251,Tryz.ntmps251
 go_wp2_with fail
 rw[<-HW.out];clear HW
 go_wp2_with fail
 refine KC.out.mono ?_;rintro e w1 ⟨r,rfl,ho1,hb1⟩;have B1:=hd_ (B0.out.trans (hb1.mono B0.out.size));have KO1:=hd_ (KO.out w1 r ho1.rd);obtain⟨xr,cr,rfl,_,_⟩:=ho1.form;generalize L.length=nl at KO1 ⊢;clear ho1 hb1 KC KO B0
 go_wp2_with fail
 refine KO1.out.mono ?_;rintro e w2 ⟨s,rfl,ss,hperm,hsort,hs,hb2⟩;have B2:=hd_ (B1.out.trans (hb2.mono B1.out.size));have PE:Hid (ss.Perm (ps++qs)):=by show List.Perm _ _;rw[<-HLL.out];exact hperm
 have SO:=hd_ hsort;obtain⟨xs,cs,rfl,_,_⟩:=hs.form;have HP:=hd_ hs.cells;obtain⟨n,hn⟩:∃n,n=ss.length:=⟨_,rfl⟩
 have n8:n<=8:=by have h1:=hperm.length_eq;have h2:=HLEN.out;omega
 have HL:=hd_ hn;have BS:Hid (BdP 2000 ss):=fun p hp'=>HBD.out p (hperm.mem_iff.1 hp')
 rw[<-hn];clear hperm hsort hs hb2 hn KO1 B1;go_wp2;go_loopw [5,15] (fun q i wr=>∃(k:Nat) (os:List Pr),k<=n/\i=.int .i64 k/\os=mrgV (ss.take k)/\OwnP wr w2.heap.size q os/\Below w2.heap.size w2 wr) (fun _ i _=>n - (intOf i).toNat)
 case atStart=>exact⟨0,[],Nat.zero_le _,rfl,by simp[mrgV],OwnP.nil _ _,Below.refl _ _⟩
 case round=>
  obtain⟨k,os,hk,rfl,hos,hown,hbl⟩:=hrel;have olen:os.length<=k:=by rw[hos];exact mrgV_len ss (by rw[<-HL.out];exact hk)
  have obd:BdP (2000 * k) os:=by rw[hos];exact BS.out.mrgV (by omega) (by rw[<-HL.out];exact hk)
  obtain⟨z,cz,hu,_,_⟩:=hown.form;obtain⟨no,hno⟩:∃no,no=os.length:=⟨_,rfl⟩
  have no8:no<=8:=by omega
  rw[<-hno]at hu;subst hu;have HOS:=hd_ hos;have HN:=hd_ hno;have HB:=hd_ hbl;have OB:=hd_ obd;have hsz:=hbl.size;have ho:wr.ownsRow w2.heap.size 213 2 (.slice z no cz) no (prs os):=by have h:=hown;unfold OwnP at h;rw[<-hno]at h;exact h
  have HO:=hd_ ho;clear hbl hown ho hos obd olen hno
  by_cases hlt:k<n
  ·obtain⟨b,o,rfl,hb,h1,h2⟩:=HP.out k (by rw[<-HL.out];exact hlt)
   replace h1:=(HB.out.cell (p:=⟨b,o+k * 2,none⟩) hb).trans h1;replace h2:=(HB.out.cell (p:=⟨b,o+k * 2+1,none⟩) hb).trans h2;have hs:=hd_ (mrgV_succ ss k (by rw[<-HL.out];exact hlt));have hm:=BS.out.at k (by rw[<-HL.out];exact hlt);generalize pr ss k=q at h1 h2 hs hm;obtain⟨t,m⟩:=q;simp only at h1 h2 hm;obtain⟨m0,m1⟩:=hm;have k0:(0:Int)<=(k:Int):=by omega
   have kn:(k:Int)<(n:Int):=by omega
   rcases Nat.eq_zero_or_pos no with h0|h0
   ·subst h0
    have hz:Hid (mrg os (t,m)=os++[(t,m)]):=mrg_new (fun h=>by have:=HN.out;omega);go_wp2
    go_quiet (fail)
    obtain⟨wq,hwq⟩:∃wq,wq=(wr.alloc (.cells #[.int .i64 t,.int .i64 m] 213)).drewN nq:=⟨_,rfl⟩
    have HOq:Hid (wq.ownsRow w2.heap.size 213 2 (.slice z 0 cz) 0 (prs os)):=by rw[hwq];exact HO.out.alloc _
    have HBq:Hid (Below w2.heap.size w2 wq):=by rw[hwq];exact below_drewN (HB.out.alloc hsz _) _
    have hszq:w2.heap.size<=wq.heap.size:=by rw[hwq];show _<=(wr.alloc (.cells #[.int .i64 t,.int .i64 m] 213)).heap.size;simp;omega
    have b0q:wq.cell? ⟨wr.heap.size,0,none⟩=some (.int .i64 t):=by rw[hwq];show (wr.alloc (.cells #[.int .i64 t,.int .i64 m] 213)).cell? _=_;simp
    have b1q:wq.cell? ⟨wr.heap.size,1,none⟩=some (.int .i64 m):=by rw[hwq];show (wr.alloc (.cells #[.int .i64 t,.int .i64 m] 213)).cell? _=_;simp
    rw[<-hwq];clear hwq
    go_wp2_with (first|(at_builtin;refine wpList_append_own _ rfl _ _ 39 rfl w2.heap.size 213 i0 (.agg #[.int .i64 0,.int .i64 0]) 2 16 Tryz.underlying39 hi hz0 hz1 hz2 rfl (by decide) _ _ _ rfl (HOq.out.alloc _) ⟨wq.heap.size,0,none⟩ 1 1 [.int .i64 t,.int .i64 m] rfl rfl (cell_two_new _ _ _ _) (by simp[Value.oneCell']) (by unfold maxLen;omega) (by omega) (by simp;omega) ?_;intro v1 w3 ho1 hg1 _;obtain⟨g_v1,c_v1,rfl,_,_⟩:=World.ownsRow.form ho1 (Nat.succ_pos _)))
    go_roundw
    case rel=>exact⟨k+1,os++[(t,m)],by omega,by go_num,by rw[hs.out, <-HOS.out,hz.out],own_snocP ho1 HN.out,below_appendP HBq.out hszq HOq.out hg1⟩
    case measure=>simp[intOf];omega
   ·obtain⟨j,rfl⟩:∃j,no=j+1:=⟨no - 1,by omega⟩
    obtain⟨gz,rfl,gz0,gz1,gzc,q1,q2,q3⟩:=row_last HO.out HN.out.symm;have hlast:=OB.out.at j (by rw[<-HN.out];omega);have hsub:os.length - 1=j:=by rw[<-HN.out];omega
    have HM1:Hid ((pr os j).1=t->mrg os (t,m)=os.set j (t,(pr os j).2+m)):=fun e=>by have:=mrg_old (os:=os) (p:=(t,m)) (by rw[<-HN.out];omega) (by rw[hsub];exact e);rw[hsub]at this;exact this
    have HM2:Hid (¬(pr os j).1=t->mrg os (t,m)=os++[(t,m)]):=fun e=>mrg_new (fun h=>e (by have:=h.2;rw[hsub]at this;exact this))
    have HST:Hid (∀W:World,W.ownsRow w2.heap.size 213 2 (.slice (some ⟨gz,0,none⟩) (j+1) cz) (j+1) (prs os)->∀x,(pr os j).1=t->OwnP (W.setCell ⟨gz,j * 2+1,none⟩ (.int .i64 x)) w2.heap.size (.slice (some ⟨gz,0,none⟩) (j+1) cz) (os.set j (t,x))/\W.grownBy (W.setCell ⟨gz,j * 2+1,none⟩ (.int .i64 x)) (some gz)):=fun W hW x e=>by
     have hst:=hW.stored (j * 2+1) (.int .i64 x);rw[prs_set os j x (by rw[<-HN.out];omega),e]at hst;refine⟨?_,hst.2⟩;unfold OwnP;rw[List.length_set, <-HN.out];exact hst.1
    clear hsub;generalize pr os j=l at q1 q2 HM1 HM2 HST hlast;obtain⟨t0,m0'⟩:=l;simp only at q1 q2 hlast;obtain⟨hl0,hl1⟩:=hlast;have hl2:m0'<=16000:=by (have:(k:Int)<=8:=by omega);omega
    have p0:(0:Int)<=((j+1:Nat):Int) - 1:=by omega
    have e1:((j+1:Nat):Int) - 1=(j:Int):=by omega
    have j0:(0:Int)<=(j:Int):=by omega
    have jn:(j:Int)<((j+1:Nat):Int):=by omega
    have a1:=(World.cell?_alloc_lt (w:=wr) (o:=(.cells #[.int .i64 t,.int .i64 m] 213)) (a:=⟨gz,j * 2,none⟩) (h:=gz1)).trans q1;have a2:=(World.cell?_alloc_lt (w:=wr) (o:=(.cells #[.int .i64 t,.int .i64 m] 213)) (a:=⟨gz,j * 2+1,none⟩) (h:=gz1)).trans q2
    by_cases ht:t0=t
    ·have hd:(t0==t)=true:=by simpa using ht
     have hd2:decide (t0=t)=true:=by simpa using ht
     have fin:=hd_ (HM1.out ht);have FST:=hd_ (fun W hW x=>HST.out W hW x ht);have ws:IntKind.i64.wrap (m0'+m)=m0'+m:=IntWalk.i64_in _ (by omega);clear ht HM1 HM2 HST hl1;go_wp2
     go_quiet (fail)
     obtain⟨wq,hwq⟩:∃wq,wq=(wr.alloc (.cells #[.int .i64 t,.int .i64 m] 213)).drewN nq:=⟨_,rfl⟩
     have HOq:Hid (wq.ownsRow w2.heap.size 213 2 (.slice (some ⟨gz,0,none⟩) (j+1) cz) (j+1) (prs os)):=by rw[hwq];exact HO.out.alloc _
     have HBq:Hid (Below w2.heap.size w2 wq):=by rw[hwq];exact below_drewN (HB.out.alloc hsz _) _
     have hszq:w2.heap.size<=wq.heap.size:=by rw[hwq];show _<=(wr.alloc (.cells #[.int .i64 t,.int .i64 m] 213)).heap.size;simp;omega
     have b0q:wq.cell? ⟨wr.heap.size,0,none⟩=some (.int .i64 t):=by rw[hwq];show (wr.alloc (.cells #[.int .i64 t,.int .i64 m] 213)).cell? _=_;simp
     have b1q:wq.cell? ⟨wr.heap.size,1,none⟩=some (.int .i64 m):=by rw[hwq];show (wr.alloc (.cells #[.int .i64 t,.int .i64 m] 213)).cell? _=_;simp
     have a2q:wq.cell? ⟨gz,j * 2+1,none⟩=some (.int .i64 m0'):=by rw[hwq];exact a2
     have fq:wq.frozen? ⟨gz,j * 2+1,none⟩=false:=World.ownsRow.frozenAt HOq.out _;rw[<-hwq];clear hwq a1 a2 q1 q2 q3
     go_wp2_with fail
     go_region
     all_goals
      have fz:=FST.out wq HOq.out (m0'+m);have FZ:=hd_ fz;clear fz;go_wp2;go_roundw
      case rel=>exact⟨k+1,os.set j (t,m0'+m),by omega,by go_num,by rw[hs.out, <-HOS.out,fin.out],World.ownsRow.drew FZ.out.1,((HBq.out.grown FZ.out.2 hszq (fun k e=>by cases e;exact gz0)).trans (Below.drew (Below.refl _ _)))⟩
      case measure=>simp[intOf];omega
    ·have hd:(t0==t)=false:=by simpa using ht
     have hd2:decide (t0=t)=false:=by simpa using ht
     have fin:=hd_ (HM2.out ht);clear ht HM1 HM2 HST hl1;go_wp2
     go_quiet (fail)
     obtain⟨wq,hwq⟩:∃wq,wq=(wr.alloc (.cells #[.int .i64 t,.int .i64 m] 213)).drewN nq:=⟨_,rfl⟩
     have HOq:Hid (wq.ownsRow w2.heap.size 213 2 (.slice (some ⟨gz,0,none⟩) (j+1) cz) (j+1) (prs os)):=by rw[hwq];exact HO.out.alloc _
     have HBq:Hid (Below w2.heap.size w2 wq):=by rw[hwq];exact below_drewN (HB.out.alloc hsz _) _
     have hszq:w2.heap.size<=wq.heap.size:=by rw[hwq];show _<=(wr.alloc (.cells #[.int .i64 t,.int .i64 m] 213)).heap.size;simp;omega
     have b0q:wq.cell? ⟨wr.heap.size,0,none⟩=some (.int .i64 t):=by rw[hwq];show (wr.alloc (.cells #[.int .i64 t,.int .i64 m] 213)).cell? _=_;simp
     have b1q:wq.cell? ⟨wr.heap.size,1,none⟩=some (.int .i64 m):=by rw[hwq];show (wr.alloc (.cells #[.int .i64 t,.int .i64 m] 213)).cell? _=_;simp
     have a2q:wq.cell? ⟨gz,j * 2+1,none⟩=some (.int .i64 m0'):=by rw[hwq];exact a2
     have fq:wq.frozen? ⟨gz,j * 2+1,none⟩=false:=World.ownsRow.frozenAt HOq.out _;rw[<-hwq];clear hwq a1 a2 q1 q2 q3
     go_wp2_with (first|(at_builtin;refine wpList_append_own _ rfl _ _ 39 rfl w2.heap.size 213 i0 (.agg #[.int .i64 0,.int .i64 0]) 2 16 Tryz.underlying39 hi hz0 hz1 hz2 rfl (by decide) _ _ _ rfl (HOq.out.alloc _) ⟨wq.heap.size,0,none⟩ 1 1 [.int .i64 t,.int .i64 m] rfl rfl (cell_two_new _ _ _ _) (by simp[Value.oneCell']) (by unfold maxLen;omega) (by omega) (by simp;omega) ?_;intro v1 w3 ho1 hg1 _;obtain⟨g_v1,c_v1,rfl,_,_⟩:=World.ownsRow.form ho1 (Nat.succ_pos _)))
     go_roundw
     case rel=>exact⟨k+1,os++[(t,m)],by omega,by go_num,by rw[hs.out, <-HOS.out,fin.out],own_snocP ho1 HN.out,below_appendP HBq.out hszq HOq.out hg1⟩
     case measure=>simp[intOf];omega
  ·obtain rfl:k=n:=by omega
   have e1:ss.take k=ss:=List.take_of_length_le (by rw[<-HL.out];exact Nat.le_refl _);have FIN:Hid (Both w ps qs wr (.slice z no cz)):=⟨ss,PE.out,SO.out,by rw[e1]at HOS;rw[<-HOS.out];have h:=HO.out;rw[HN.out]at h ⊢;exact OwnP.base (B:=w2.heap.size) h B2.out.size,B2.out.trans (HB.out.mono B2.out.size)⟩
   clear e1;go_wp2;go_ret;exact⟨_,rfl,FIN.out⟩
theorem cntGe_append (ps qs:List Pr) (v:Int):cntGe (ps++qs) v=cntGe ps v+cntGe qs v:=by simp[cntGe]
theorem cntGe_perm {ps qs:List Pr} (h:ps.Perm qs) (v:Int):cntGe ps v=cntGe qs v:=(h.filter _).length_eq
theorem cntGe_all {ps:List Pr} {v:Int} (h:∀p ∈ ps,v<=p.2):cntGe ps v=ps.length:=by
 unfold cntGe;rw[List.filter_eq_self.2 (fun p hp=>by simpa using h p hp)]
theorem cntGe_zero {ps:List Pr} {v:Int} (h:∀p ∈ ps,¬v<=p.2):cntGe ps v=0:=by
 unfold cntGe;rw[List.filter_eq_nil_iff.2 (fun p hp=>by simpa using h p hp)];rfl
theorem overK_ge {ps:List Pr} {k i:Nat} (hi:i<k) (h:4<cntGe ps (pr ps i).2):(pr ps i).2<=overK ps k:=by
 induction k with
 |zero=>omega
 |succ k ih=>
  unfold overK
  by_cases e:i=k
  ·subst e;rw[if_pos h];omega
  ·have:=ih (by omega)
   split<;>omega
theorem overK_is (ps:List Pr) {k:Nat} (hk:k<=ps.length):overK ps k=0\/∃i,i<k/\4<cntGe ps (pr ps i).2/\(pr ps i).2=overK ps k:=by
 induction k with
 |zero=>exact .inl rfl
 |succ k ih=>
  have h:=ih (by omega);unfold overK
  by_cases hc:4<cntGe ps (pr ps k).2
  ·rw[if_pos hc]
   rcases (by omega:max (overK ps k) (pr ps k).2=overK ps k\/max (overK ps k) (pr ps k).2=(pr ps k).2)with e|e
   ·rw[e]
    rcases h with h|⟨i,h1,h2,h3⟩
    ·exact .inl h
    ·exact .inr ⟨i,by omega,h2,h3⟩
   ·exact .inr ⟨k,by omega,hc,e.symm⟩
  ·rw[if_neg hc]
   rcases h with h|⟨i,h1,h2,h3⟩
   ·exact .inl h
   ·exact .inr ⟨i,by omega,h2,h3⟩
theorem overV_few {ps:List Pr} (h:ps.length<=4):overV ps=0:=by
 rcases overK_is ps lr_ with e|⟨i,_,h2,_⟩
 ·exact e
 ·have:=cntGe_le ps (pr ps i).2;omega
theorem lessV_zero {ps:List Pr} (h:∀p ∈ ps,0<p.2):lessV ps 0=ps:=by
 induction ps with
 |nil=>rfl
 |cons p ps ih=>
  unfold lessV;rw[if_pos (h p (by simp)),ih (fun q hq=>h q (by simp[hq]))];simp
theorem over_fifth {ps ss:List Pr} (hp:ss.Perm ps) (hs:SortedL cmpN ss) (hl:4<ps.length) (h0:∀p ∈ ps,0<=p.2):(pr ss 4).2=overV ps:=by
 have hlen:=hp.length_eq;have ge:∀i j,i<j->j<ss.length->(pr ss j).2<=(pr ss i).2:=fun i j hij hj=>by
  have:=(ltN_no _ _).1 (hs i j hij hj);omega
 have hsplit:∀v,cntGe ss v=cntGe (ss.take 4) v+cntGe (ss.drop 4) v:=fun v=>by rw[<-cntGe_append,List.take_append_drop]
 have mem_ps:∀i,i<ss.length->pr ss i ∈ ps:=fun i hi=>hp.mem_iff.1 (pr_mem hi)
 -- at least five have as much as the fifth
 have h5:4<cntGe ps (pr ss 4).2:=by
  rw[<-cntGe_perm hp];have e:ss=ss.take 5++ss.drop 5:=(List.take_append_drop _ _).symm;rw[show cntGe ss (pr ss 4).2=cntGe (ss.take 5) (pr ss 4).2+cntGe (ss.drop 5) (pr ss 4).2 by rw[<-cntGe_append,List.take_append_drop]];rw[cntGe_all (ps:=ss.take 5) (fun p hp'=>by
      obtain⟨i,hi,rfl⟩:=pr_at hp'
      simp at hi
      rw[pr_take (by omega)]
      by_cases e:i=4
      · rw[e];exact Int.le_refl _
      · exact ge i 4 (by omega) (by omega))]
  simp;omega
 apply Int.le_antisymm
 ·obtain⟨i,hi,e⟩:=pr_at (mem_ps 4 (by omega))
  have:=overK_ge (ps:=ps) (k:=ps.length) hi (by rw[e];exact h5);rw[e]at this;exact this
 ·rcases overK_is ps lr_ with e|⟨i,hi,h2,h3⟩
  ·have:=h0 _ (mem_ps 4 (by omega))
   have e':overV ps=0:=e;omega
  ·have e':overV ps=(pr ps i).2:=h3.symm
   rw[e'];apply Classical.byContradiction;intro hlt;rw[<-cntGe_perm hp,hsplit,cntGe_zero (ps:=ss.drop 4) (fun p hp'=>by
        obtain⟨j,hj,rfl⟩:=pr_at hp'
        have e2:pr (ss.drop 4) j=pr ss (4+j):=by simp[pr]
        rw[e2]
        simp at hj
        by_cases ej:j=0
        · subst ej;exact fun h=>hlt h
        · have:=ge 4 (4+j) (by omega) (by omega);omega)]at h2
   have:=cntGe_le (ss.take 4) (pr ps i).2;simp at this;omega
def Cut (w:World) (B:Nat) (ps:List Pr) (w':World) (u:Value) (n:Int):Prop:=OwnP w' B u (cutP ps)/\n=overV ps/\Below w.heap.size w w'
theorem cutPairs_few (w:World) (B:Nat) (u:Value) (ps:List Pr) (ho:OwnP w B u ps) (hl:ps.length<=4) (h1:∀p ∈ ps,0<p.2):
  Calls Tryz.prog 250 #[u] w fun e w'=>∃r n,e=.returned (.tuple #[r,.int .i64 n])/\Cut w B ps w' r n:=by
 have HC:Hid (Cut w B ps w u 0):=⟨by unfold cutP;rw[overV_few hl,lessV_zero h1];exact ho,(overV_few hl).symm,Below.refl _ _⟩
 obtain⟨x,c,rfl,_,_⟩:=ho.form;obtain⟨n,hn⟩:∃n,n=ps.length:=⟨_,rfl⟩
 rw[<-hn]at HC hl ⊢;have hl':(n:Int)<=4:=by omega
 clear ho h1 hn;go_enter Tryz.func250,Tryz.ntmps250;go_wp2
 go_ret2
 exact⟨_,_,rfl,HC.out⟩
theorem cutPairs_many (w:World) (B:Nat) (u:Value) (ps:List Pr) (hB:B<=w.heap.size) (ho:OwnP w B u ps) (hl:4<ps.length) (hl8:ps.length<=8) (h1:BdP 16000 ps):
  Calls Tryz.prog 250 #[u] w fun e w'=>∃r n,e=.returned (.tuple #[r,.int .i64 n])/\Cut w B ps w' r n:=by
 obtain⟨i0,hi,hz0,hz1,hz2⟩:=info_parts pair_info;have hp:=ho.rd;have K:=hd_ (inOrderN_at w u ps hp hl8);have H0:Hid (∀p ∈ ps,0<=p.2):=fun p hp=>(h1 p hp).1
 have HBD:=hd_ h1;have ob:=overV_bd (M:=16000) (by omega) h1.at;obtain⟨x,c,rfl,_,_⟩:=ho.form;have HPC:=hd_ hp.cells;obtain⟨n,hn⟩:∃n,n=ps.length:=⟨_,rfl⟩
 have HL:=hd_ hn;rw[<-hn]at K hl hl8 ⊢;obtain⟨ov,hov⟩:∃ov,ov=overV ps:=⟨_,rfl⟩
 rw[<-hov]at ob;have HOV:=hd_ hov;have hl4:¬(n:Int)<=4:=by omega
 clear ho hp h1 hn hov;go_enter Tryz.func250,Tryz.ntmps250
 go_wp2_with fail
 refine K.out.mono ?_;rintro e w1 ⟨s,rfl,ss,hperm,hsort,hs,hb1⟩;have hov5:(pr ss 4).2=ov:=by rw[HOV.out];exact over_fifth hperm hsort (by rw[<-HL.out];exact hl) H0.out
 have hsl:ss.length=n:=by rw[hperm.length_eq];exact HL.out.symm
 obtain⟨xs,cs,rfl,_,_⟩:=hs.form;obtain⟨b,o,rfl,hb,s1,s2⟩:=hs.cells 4 (by omega);rw[hov5]at s2;rw[hsl];have n4:(4:Int)<(n:Int):=by omega
 have B1:=hd_ hb1;clear hperm hsort hs hb1 hov5 hsl s1 K;have s2':w1.cell? ⟨b,o+9,none⟩=some (.int .i64 ov):=s2;have s2'':w1.cell? ⟨b,o+8+1,none⟩=some (.int .i64 ov):=s2;go_wp2;go_loopw [5,19] (fun q i wr=>∃(k:Nat) (os:List Pr),k<=n/\i=.int .i64 k/\os=lessV (ps.take k) ov/\OwnP wr w1.heap.size q os/\Below w1.heap.size w1 wr) (fun _ i _=>n - (intOf i).toNat)
 case atStart=>exact⟨0,[],Nat.zero_le _,rfl,by simp[lessV],OwnP.nil _ _,Below.refl _ _⟩
 case round=>
  clear s2 s2' s2'';obtain⟨k,os,hk,rfl,hos,hown,hbl⟩:=hrel;obtain⟨z,cz,hu,_,_⟩:=hown.form;obtain⟨no,hno⟩:∃no,no=os.length:=⟨_,rfl⟩
  have no8:no<=8:=by have:=lessV_len (ps.take k) ov;have h2:=HL.out;rw[hno,hos];simp at this;omega
  rw[<-hno]at hu;subst hu;have HOS:=hd_ hos;have HN:=hd_ hno;have HB:=hd_ hbl;have hsz:=hbl.size;have ho:wr.ownsRow w1.heap.size 213 2 (.slice z no cz) no (prs os):=by have h:=hown;unfold OwnP at h;rw[<-hno]at h;exact h
  have HO:=hd_ ho;clear hbl hown ho hos hno
  by_cases hlt:k<n
  ·obtain⟨b',o',rfl,hb',h1,h2⟩:=HPC.out k (by rw[<-HL.out];exact hlt)
   have tr:∀j v,w.cell? ⟨b',j,none⟩=some v->wr.cell? ⟨b',j,none⟩=some v:=fun j v h=>
    (HB.out.cell (p:=⟨b',j,none⟩) (Nat.lt_of_lt_of_le hb' B1.out.size)).trans ((B1.out.cell (p:=⟨b',j,none⟩) hb').trans h)
   replace h1:=tr _ _ h1;replace h2:=tr _ _ h2;have hs:=hd_ (lessV_succ ps k ov (by rw[<-HL.out];exact hlt));have hm:=HBD.out.at k (by rw[<-HL.out];exact hlt);generalize pr ps k=q at h1 h2 hs hm;obtain⟨t,m⟩:=q;simp only at h1 h2 hm;obtain⟨m0,m1⟩:=hm;have k0:(0:Int)<=(k:Int):=by omega
   have kn:(k:Int)<(n:Int):=by omega
   clear tr
   by_cases hlm:ov<m
   ·rw[if_pos (by exact hlm)]at hs
    go_wp2_with (first|(at_builtin;refine wpList_append_own _ rfl _ _ 39 rfl w1.heap.size 213 i0 (.agg #[.int .i64 0,.int .i64 0]) 2 16 Tryz.underlying39 hi hz0 hz1 hz2 rfl (by decide) _ _ _ rfl ((HO.out.alloc _).alloc _) ⟨wr.heap.size+1,0,none⟩ 1 1 [.int .i64 t,.int .i64 (m - ov)] rfl rfl (by have:=cell_two_new (wr.alloc (.cells #[.int .i64 t,.int .i64 m] 213)) (.int .i64 t) (.int .i64 (m - ov)) 213;simpa using this) (by simp[Value.oneCell']) (by unfold maxLen;omega) (by omega) (by simp;omega) ?_;intro v1 w3 ho1 hg1 _;obtain⟨g_v1,c_v1,rfl,_,_⟩:=World.ownsRow.form ho1 (Nat.succ_pos _)))
    go_roundw
    case rel=>exact⟨k+1,os++[(t,m - ov)],by omega,by go_num,by rw[hs.out,HOS.out],own_snocP ho1 HN.out,below_appendP (HB.out.alloc hsz _) (by simp;omega) (HO.out.alloc _) hg1⟩
    case measure=>simp[intOf];omega
   ·rw[if_neg (by exact hlm)]at hs
    go_wp2;go_roundw
    case rel=>exact⟨k+1,os,by omega,by go_num,by rw[hs.out,HOS.out,List.append_nil],by have h:=HO.out.alloc (.cells #[.int .i64 t,.int .i64 m] 213);rw[HN.out]at h ⊢;exact h,HB.out.alloc hsz _⟩
    case measure=>simp[intOf];omega
  ·obtain rfl:k=n:=by omega
   have e1:ps.take k=ps:=List.take_of_length_le (by rw[<-HL.out];exact Nat.le_refl _);have FIN:Hid (Cut w B ps wr (.slice z no cz) ov):=⟨by unfold cutP;rw[e1]at HOS;rw[<-HOV.out, <-HOS.out];have h:=HO.out;rw[HN.out]at h ⊢;exact OwnP.base (B:=w1.heap.size) h (Nat.le_trans hB B1.out.size),HOV.out,B1.out.trans (HB.out.mono B1.out.size)⟩
   clear e1;go_wp2
   go_ret2
   exact⟨_,_,rfl,FIN.out⟩
theorem cutPairs_at (w:World) (B:Nat) (u:Value) (ps:List Pr) (hB:B<=w.heap.size) (ho:OwnP w B u ps) (hl8:ps.length<=8) (h1:BdP 16000 ps) (h2:∀p ∈ ps,0<p.2):
  Calls Tryz.prog 250 #[u] w fun e w'=>∃r n,e=.returned (.tuple #[r,.int .i64 n])/\Cut w B ps w' r n:=by
 by_cases hl:ps.length<=4
 ·exact cutPairs_few w B u ps ho hl h2
 ·exact cutPairs_many w B u ps hB ho (by omega) hl8 h1
def Up (ps:List Pr):Prop:=ps.Pairwise (fun p q=>p.1<q.1)
def Pos (ps:List Pr):Prop:=∀p ∈ ps,0<p.2
theorem Asc.up {ps:List Pr} (h:Asc ps):Up ps:=by
 unfold Up;rw[List.pairwise_iff_getElem];intro i j hi hj hij;have:=h.lt hij hj;simpa[pr,hi,hj]using this
theorem Up.asc {ps:List Pr} (h:Up ps):Asc ps:=fun i h0 hi=>by
 unfold Up at h;rw[List.pairwise_iff_getElem]at h;have:=h (i - 1) i (by omega) hi (by omega);have h1:i - 1<ps.length:=by omega
 simpa[pr,h1,hi]using this
theorem TopP.pos {ps:List Pr} {lost all:Int} (h:TopP ps lost all):Pos ps:=fun p hp=>by
 obtain⟨i,hi,rfl⟩:=pr_at hp;have:=(h.2.1 i hi).1.2;omega
theorem up_ext:∀{L M:List Pr},Up L->Up M->Pos L->Pos M->(∀t,tot L t=tot M t)->L=M
 | [],[],_,_,_,_,_=>rfl
 | [],m::M,_,hM,_,pM,h=>by
  have h1:=h m.1;have h2:tot M m.1=0:=tot_none fun q hq=>by have:=(List.pairwise_cons.1 hM).1 q hq;omega
  have h3:=pM m (by simp);simp[tot,h2]at h1;omega
 |l::L,[],hL,_,pL,_,h=>by
  have h1:=h l.1;have h2:tot L l.1=0:=tot_none fun q hq=>by have:=(List.pairwise_cons.1 hL).1 q hq;omega
  have h3:=pL l (by simp);simp[tot,h2]at h1;omega
 |l::L,m::M,hL,hM,pL,pM,h=>by
  have hL':=List.pairwise_cons.1 hL;have hM':=List.pairwise_cons.1 hM;have p1:=pL l (by simp);have p2:=pM m (by simp);have a1:tot L l.1=0:=tot_none fun q hq=>by have:=hL'.1 q hq;omega
  have a2:tot M m.1=0:=tot_none fun q hq=>by have:=hM'.1 q hq;omega
  have e1:l.1=m.1:=by
   rcases (by omega:l.1<m.1\/l.1=m.1\/m.1<l.1)with hlt|he|hlt
   ·have h1:=h l.1
    have a3:tot M l.1=0:=tot_none fun q hq=>by have:=hM'.1 q hq;omega
    have:¬m.1=l.1:=by omega
    simp[tot,a1,a3,this]at h1;omega
   ·exact he
   ·have h1:=h m.1
    have a3:tot L m.1=0:=tot_none fun q hq=>by have:=hL'.1 q hq;omega
    have:¬l.1=m.1:=by omega
    simp[tot,a2,a3,this]at h1;omega
  have e2:l.2=m.2:=by
   have h1:=h l.1;rw[e1]at a1;simp[tot,e1,a1,a2]at h1;exact h1
  have e:l=m:=Prod.ext e1 e2;subst e
  congr 1
  refine up_ext hL'.2 hM'.2 (fun q hq=>pL q (by simp[hq])) (fun q hq=>pM q (by simp[hq])) fun t=>?_
  have h1:=h t;simp only[tot]at h1;omega
theorem tot_perm {ps qs:List Pr} (h:ps.Perm qs) (t:Int):tot ps t=tot qs t:=by
 induction h with
 |nil=>rfl
 |cons x _ ih=>simp only[tot,ih]
 |swap x y l=>simp only[tot];omega
 |trans _ _ ih1 ih2=>rw[ih1,ih2]
theorem tot_put (ps:List Pr) (x:Pr) (t:Int):tot (putP ps x) t=tot ps t+if x.1=t then x.2 else 0:=by
 induction ps with
 |nil=>simp[putP,tot]
 |cons p ps ih=>
  unfold putP
  split
  ·simp only[tot,ih];omega
  ·split
   ·rename_i h1 h2
    simp only[tot,h2]
    split<;>omega
   ·simp only[tot];omega
theorem put_mem {ps:List Pr} {x q:Pr} (h:q ∈ putP ps x):q.1=x.1\/q ∈ ps:=by
 induction ps with
 |nil=>simp[putP]at h;exact .inl (by rw[h])
 |cons p ps ih=>
  unfold putP at h
  split at h
  ·rcases List.mem_cons.1 h with rfl|h
   ·exact .inr (by simp)
   ·rcases ih h with h|h
    ·exact .inl h
    ·exact .inr (by simp[h])
  ·split at h
   ·rcases List.mem_cons.1 h with rfl|h
    ·exact .inl rfl
    ·exact .inr (by simp[h])
   ·rcases List.mem_cons.1 h with rfl|h
    ·exact .inl rfl
    ·exact .inr h
theorem Up.put {ps:List Pr} {x:Pr} (h:Up ps):Up (putP ps x):=by
 induction ps with
 |nil=>simp[putP,Up]
 |cons p ps ih=>
  have h':=List.pairwise_cons.1 h;unfold putP
  split
  ·rename_i hlt
   refine List.pairwise_cons.2 ⟨fun q hq=>?_,ih h'.2⟩;rcases put_mem hq with e|hq
   ·rw[e];exact hlt
   ·exact h'.1 q hq
  ·split
   ·rename_i h1 h2
    exact List.pairwise_cons.2 ⟨fun q hq=>by have:=h'.1 q hq;show x.1<q.1;omega,h'.2⟩
   ·rename_i h1 h2
    refine List.pairwise_cons.2 ⟨fun q hq=>?_,h⟩;rcases List.mem_cons.1 hq with rfl|hq
    ·omega
    ·have:=h'.1 q hq;omega
theorem Pos.put {ps:List Pr} {x:Pr} (h:Pos ps) (hx:0<x.2):Pos (putP ps x):=by
 induction ps with
 |nil=>intro q hq;simp[putP]at hq;rw[hq];exact hx
 |cons p ps ih=>
  have h1:=h p (by simp);have h2:Pos ps:=fun q hq=>h q (by simp[hq])
  intro q hq;unfold putP at hq
  split at hq
  ·rcases List.mem_cons.1 hq with rfl|hq
   ·exact h1
   ·exact ih h2 q hq
  ·split at hq
   ·rcases List.mem_cons.1 hq with rfl|hq
    ·show 0<x.2+p.2;omega
    ·exact h2 q hq
   ·rcases List.mem_cons.1 hq with rfl|hq
    ·exact hx
    ·exact h q hq
def bothP (ps qs:List Pr):List Pr:=qs.foldl putP ps
theorem bothP_all (ps qs:List Pr) (hu:Up ps) (hp:Pos ps) (hq:Pos qs):Up (bothP ps qs)/\Pos (bothP ps qs)/\(bothP ps qs).length<=ps.length+qs.length/\∀t,tot (bothP ps qs) t=tot ps t+tot qs t:=by
 induction qs generalizing ps with
 |nil=>exact⟨hu,hp,by simp[bothP],fun t=>by simp[bothP,tot]⟩
 |cons q qs ih=>
  have h1:=ih (putP ps q) hu.put (hp.put (hq q (by simp))) (fun p hp=>hq p (by simp[hp]));refine⟨h1.1,h1.2.1,?_,fun t=>?_⟩
  ·have:=h1.2.2.1
   have:=putP_len ps q;show (bothP (putP ps q) qs).length<=_
   simp;omega
  ·show tot (bothP (putP ps q) qs) t=_
   rw[h1.2.2.2 t,tot_put];simp only[tot];omega
theorem set_last {os:List Pr} {j:Nat} (h:os.length=j+1) (x:Pr):os=os.take j++[pr os j]/\os.set j x=os.take j++[x]:=by
 have e:=take_succ_pr os j (by omega);rw[<-h,List.take_length]at e;refine⟨e,?_⟩;have hl:(os.take j).length=j:=by simp;omega
 conv=>lhs;rw[e]
 rw[List.set_append_right _ _ (by rw[hl];exact Nat.le_refl _),hl,Nat.sub_self]
 rfl
theorem tot_mrg (os:List Pr) (p:Pr) (t:Int):tot (mrg os p) t=tot os t+if p.1=t then p.2 else 0:=by
 by_cases h:0<os.length/\(pr os (os.length - 1)).1=p.1
 ·rw[mrg_old h.1 h.2]
  obtain⟨j,hj⟩:∃j,os.length=j+1:=⟨os.length - 1,by omega⟩
  have e0:os.length - 1=j:=by omega
  rw[e0]at h ⊢;have e:=set_last hj (p.1,(pr os j).2+p.2);have e1:tot os t=tot (os.take j) t+tot [pr os j] t:=by rw[<-tot_append, <-e.1]
  rw[e.2,tot_append,e1];simp only[tot,h.2]
  split<;>omega
 ·rw[mrg_new h,tot_append]
  simp[tot]
theorem tot_mrgV (ss:List Pr) (t:Int):∀{k:Nat},k<=ss.length->tot (mrgV (ss.take k)) t=tot (ss.take k) t:=by
 intro k
 induction k with
 |zero=>intro _;simp[mrgV,tot]
 |succ k ih=>intro hk;rw[mrgV_succ ss k hk,tot_mrg,ih (by omega),tot_succ ss k t hk]
theorem mrgV_up {ss:List Pr} (hs:SortedL cmpT ss):∀{k:Nat},k<=ss.length->Up (mrgV (ss.take k))/\∀q ∈ mrgV (ss.take k),∃i,i<k/\q.1=(pr ss i).1:=by
 intro k
 induction k with
 |zero=>intro _;exact⟨by simp[mrgV,Up],fun q hq=>by simp[mrgV]at hq⟩
 |succ k ih=>
  intro hk;have h:=ih (by omega);rw[mrgV_succ ss k hk];generalize mrgV (ss.take k)=os at h ⊢;have le:∀q ∈ os,q.1<=(pr ss k).1:=fun q hq=>by
   obtain⟨i,hi,e⟩:=h.2 q hq;have:=(ltT_no _ _).1 (hs i k hi hk);omega
  by_cases hc:0<os.length/\(pr os (os.length - 1)).1=(pr ss k).1
  ·rw[mrg_old hc.1 hc.2]
   obtain⟨j,hj⟩:∃j,os.length=j+1:=⟨os.length - 1,by omega⟩
   have e0:os.length - 1=j:=by omega
   rw[e0]at hc ⊢;have e:=set_last hj ((pr ss k).1,(pr os j).2+(pr ss k).2);rw[e.2];have hu:=h.1;rw[e.1]at hu;refine⟨?_,fun q hq=>?_⟩
   ·have hu':=List.pairwise_append.1 hu
    refine List.pairwise_append.2 ⟨hu'.1,by simp,fun a ha b hb=>?_⟩;simp at hb;subst hb;have:=hu'.2.2 a ha (pr os j) (by simp);show a.1<(pr ss k).1
    rw[<-hc.2];exact this
   ·rcases List.mem_append.1 hq with hq|hq
    ·obtain⟨i,hi,e3⟩:=h.2 q (List.mem_of_mem_take hq)
     exact⟨i,by omega,e3⟩
    ·simp at hq
     subst hq;exact⟨k,by omega,rfl⟩
  ·rw[mrg_new hc]
   refine⟨List.pairwise_append.2 ⟨h.1,by simp,fun a ha b hb=>?_⟩,fun q hq=>?_⟩
   ·simp at hb
    subst hb;have h0:0<os.length:=List.length_pos_of_mem ha;have hl:(pr os (os.length - 1)).1<(pr ss k).1:=by
     have h1:=le _ (pr_mem (ps:=os) (i:=os.length - 1) (by omega));have h2:¬(pr os (os.length - 1)).1=(pr ss k).1:=fun e=>hc ⟨h0,e⟩
     omega
    obtain⟨i,hi,rfl⟩:=pr_at ha
    by_cases e:i=os.length - 1
    ·rw[e];exact hl
    ·have:=(h.1.asc).lt (i:=i) (j:=os.length - 1) (by omega) (by omega);omega
   ·rcases List.mem_append.1 hq with hq|hq
    ·obtain⟨i,hi,e3⟩:=h.2 q hq
     exact⟨i,by omega,e3⟩
    ·simp at hq
     subst hq;exact⟨k,by omega,rfl⟩
theorem Pos.mrg {os:List Pr} {p:Pr} (h:Pos os) (hp:0<p.2):Pos (mrg os p):=by
 unfold YtcblbdpdbggkbaaGreat.T.mrg
 split
 ·rename_i hc
  intro q hq;have hl:=h _ (pr_mem (ps:=os) (i:=os.length - 1) (by omega));rcases List.mem_or_eq_of_mem_set hq with h1|h1
  ·exact h q h1
  ·rw[h1];show 0<_+_;omega
 ·intro q hq
  rcases List.mem_append.1 hq with h1|h1
  ·exact h q h1
  ·simp at h1;subst h1;exact hp
theorem Pos.mrgV {ss:List Pr} (h:Pos ss):∀{k:Nat},k<=ss.length->Pos (mrgV (ss.take k)):=by
 intro k
 induction k with
 |zero=>intro _ q hq;simp[YtcblbdpdbggkbaaGreat.T.mrgV]at hq
 |succ k ih=>intro hk;rw[mrgV_succ ss k hk];exact (ih (by omega)).mrg (h _ (pr_mem hk))
theorem mrgV_both {ps qs ss:List Pr} (hu:Up ps) (hp:Pos ps) (hq:Pos qs) (hperm:ss.Perm (ps++qs)) (hs:SortedL cmpT ss):mrgV ss=bothP ps qs:=by
 have hb:=bothP_all ps qs hu hp hq;have hpos:Pos ss:=fun p hp'=>by
  rcases List.mem_append.1 (hperm.mem_iff.1 hp')with h|h
  ·exact hp p h
  ·exact hq p h
 have e:ss.take ss.length=ss:=List.take_length;have h1:=(mrgV_up hs lr_).1;have h2:=hpos.mrgV lr_;have h3:=fun t=>tot_mrgV ss t lr_
 rw[e]at h1 h2 h3;exact up_ext h1 hb.1 h2 hb.2.1 fun t=>by rw[h3 t,tot_perm hperm,tot_append,hb.2.2.2 t]
def joinOk (ps:List Pr) (la aa:Int) (qs:List Pr) (lb ab:Int):Bool:=topB ps la aa&&(topB qs lb ab&&decide (aa+ab<=2000))
def joinT (ps:List Pr) (la aa:Int) (qs:List Pr) (lb ab:Int):Tp:=if joinOk ps la aa qs lb ab then (cutP (bothP ps qs),la+lb+overV (bothP ps qs),aa+ab)else noneT
theorem joinT_no {ps qs:List Pr} {la aa lb ab:Int} (h:joinOk ps la aa qs lb ab=false):joinT ps la aa qs lb ab=noneT:=by simp[joinT,h]
theorem joinT_yes {ps qs:List Pr} {la aa lb ab:Int} (h:joinOk ps la aa qs lb ab=true):joinT ps la aa qs lb ab=(cutP (bothP ps qs),la+lb+overV (bothP ps qs),aa+ab):=by simp[joinT,h]
theorem joinOk_cases (ps:List Pr) (la aa:Int) (qs:List Pr) (lb ab:Int):(topB ps la aa=false/\joinOk ps la aa qs lb ab=false)\/(topB ps la aa=true/\topB qs lb ab=false/\joinOk ps la aa qs lb ab=false)\/(topB ps la aa=true/\topB qs lb ab=true/\2000<aa+ab/\joinOk ps la aa qs lb ab=false)\/(topB ps la aa=true/\topB qs lb ab=true/\aa+ab<=2000/\joinOk ps la aa qs lb ab=true):=by
 unfold joinOk;cases h:topB ps la aa
 ·exact .inl ⟨rfl,rfl⟩
 ·cases h':topB qs lb ab
  ·exact .inr (.inl ⟨rfl,rfl,rfl⟩)
  ·by_cases ha:aa+ab<=2000
   ·exact .inr (.inr (.inr ⟨rfl,rfl,ha,by simp[ha]⟩))
   ·exact .inr (.inr (.inl ⟨rfl,rfl,by omega,by simp[ha]⟩))
theorem three_boxes (w:World) (x0 x1 x2 y0 y1 y2:Value):
  Box3 (((w.alloc (.cells #[x0,x1,x2] 41)).alloc (.cells #[y0,y1,y2] 41)).alloc (.cells #[.slice none 0 0,.int .i64 0,.int .i64 0] 41)) w.heap.size 41 x0 x1 x2/\
  Box3 (((w.alloc (.cells #[x0,x1,x2] 41)).alloc (.cells #[y0,y1,y2] 41)).alloc (.cells #[.slice none 0 0,.int .i64 0,.int .i64 0] 41)) (w.heap.size+1) 41 y0 y1 y2/\
  Box3 (((w.alloc (.cells #[x0,x1,x2] 41)).alloc (.cells #[y0,y1,y2] 41)).alloc (.cells #[.slice none 0 0,.int .i64 0,.int .i64 0] 41)) (w.heap.size+1+1) 41 (.slice none 0 0) (.int .i64 0) (.int .i64 0)/\
  Below w.heap.size w (((w.alloc (.cells #[x0,x1,x2] 41)).alloc (.cells #[y0,y1,y2] 41)).alloc (.cells #[.slice none 0 0,.int .i64 0,.int .i64 0] 41)):=by
 refine⟨((Box3.new _ _ _ _ _).alloc _).alloc _,?_,?_,(((Below.refl _ _).alloc lr_ _).alloc (by simp) _).alloc (by simp;omega) _⟩
 ·have h:=Box3.new (w.alloc (.cells #[x0,x1,x2] 41)) 41 y0 y1 y2
  have e:(w.alloc (.cells #[x0,x1,x2] 41)).heap.size=w.heap.size+1:=by simp
  rw[e]at h;exact h.alloc _
 ·have h:=Box3.new ((w.alloc (.cells #[x0,x1,x2] 41)).alloc (.cells #[y0,y1,y2] 41)) 41 (.slice none 0 0) (.int .i64 0) (.int .i64 0)
  have e:((w.alloc (.cells #[x0,x1,x2] 41)).alloc (.cells #[y0,y1,y2] 41)).heap.size=w.heap.size+1+1:=by simp
  rw[e]at h;exact h
theorem BdP.tot {M:Int} {ps:List Pr} (h:BdP M ps) (hM:0<=M) (t:Int):0<=tot ps t/\tot ps t<=M * ps.length:=by
 induction ps with
 |nil=>simp[YtcblbdpdbggkbaaGreat.T.tot]
 |cons p ps ih=>
  have h1:=ih (fun q hq=>h q (by simp[hq]));have h2:=h p (by simp);have e:M * ((p::ps).length:Int)=M * (ps.length:Int)+M:=by simp[Int.mul_add]
  rw[e];simp only[YtcblbdpdbggkbaaGreat.T.tot]
  split<;>omega
theorem bothP_bd {ps qs:List Pr} (ua:Up ps) (ba:BdP 2000 ps) (bb:BdP 2000 qs) (pa:Pos ps) (pb:Pos qs) (lb:qs.length<=4):BdP 16000 (bothP ps qs):=fun p hp=>by
 have hb:=bothP_all ps qs ua pa pb;have h0:=hb.2.1 p hp;obtain⟨i,hi,rfl⟩:=pr_at hp;have e:=hb.1.asc.at hi;rw[hb.2.2.2]at e;have h2:=bb.tot (by omega) (pr (bothP ps qs) i).1;have h1:tot ps (pr (bothP ps qs) i).1<=2000:=by
  by_cases hx:∃j,j<ps.length/\(pr ps j).1=(pr (bothP ps qs) i).1
  ·obtain⟨j,hj,ej⟩:=hx
   rw[<-ej,ua.asc.at hj];exact (ba.at j hj).2
  ·rw[tot_none fun q hq ej=>by obtain⟨j,hj,rfl⟩:=pr_at hq;exact hx ⟨j,hj,ej⟩]
   omega
 omega
theorem imTopJoin_no (w:World) (u v:Value) (ps qs:List Pr) (la aa lb ab:Int) (hp:Prs w u ps) (hq:Prs w v qs) (hno:joinOk ps la aa qs lb ab=false):
  Calls Tryz.prog 197 #[.agg #[u,.int .i64 la,.int .i64 aa],.agg #[v,.int .i64 lb,.int .i64 ab]] w fun e w'=>e=.returned (.tuple #[.agg #[.slice none 0 0,.int .i64 0,.int .i64 0],.bool false])/\Below w.heap.size w w':=by
 obtain⟨x,ca,rfl,_,_⟩:=hp.form;obtain⟨y,cb,rfl,_,_⟩:=hq.form;obtain⟨na,hna⟩:∃na,na=ps.length:=⟨_,rfl⟩
 obtain⟨nb,hnb⟩:∃nb,nb=qs.length:=⟨_,rfl⟩
 rw[<-hna]at hp ⊢;rw[<-hnb]at hq ⊢;obtain⟨X0,Y0,R0,hA⟩:=three_boxes w (.slice x na ca) (.int .i64 la) (.int .i64 aa) (.slice y nb cb) (.int .i64 lb) (.int .i64 ab);obtain⟨W0,hW0⟩:∃W0,W0=(((w.alloc (.cells #[.slice x na ca,.int .i64 la,.int .i64 aa] 41)).alloc (.cells #[.slice y nb cb,.int .i64 lb,.int .i64 ab] 41)).alloc (.cells #[.slice none 0 0,.int .i64 0,.int .i64 0] 41)):=⟨_,rfl⟩
 rw[<-hW0]at X0 Y0 R0 hA;have HW0:=hd_ hW0;have HA:=hd_ hA;have PA:=hd_ (hp.below hA lr_);have PB:=hd_ (hq.below hA lr_);have KA:=hd_ (imTopOk_at W0 _ ps la aa PA.out)
 have KB:Hid (∀W,Below W0.heap.size W0 W->Calls Tryz.prog 177 #[.agg #[.slice y nb cb,.int .i64 lb,.int .i64 ab]] W fun e w'=>e=.returned (.bool (topB qs lb ab))/\Below W.heap.size W w'):=fun W h=>imTopOk_at W _ qs lb ab (PB.out.below h lr_)
 have x0:=X0.cell0;have x1:=X0.cell1;have x2:=X0.cell2;have y0:=Y0.cell0;have y1:=Y0.cell1;have y2:=Y0.cell2;have HC:=hd_ (joinOk_cases ps la aa qs lb ab);have HNO:=hd_ hno;clear hp hq hna hnb hW0 hA hno;rcases HC.out with ⟨ha,_⟩|⟨ha,hb',_⟩|⟨ha,hb',hs,_⟩|⟨_,_,_,h⟩
 ·rw[ha]at KA
  clear ha KB HC;go_enter Tryz.func197,Tryz.ntmps197
  go_wp2_with fail
  rw[<-HW0.out];clear HW0
  go_wp2_with fail
  refine KA.out.mono ?_;rintro e w1 ⟨rfl,hb⟩;have R1:=R0.later hb;have B1:=HA.out.trans (hb.mono HA.out.size);clear x0 x1 x2 y0 y1 y2 X0 Y0 R0 hb;have z0:=R1.cell0;have z1:=R1.cell1;have z2:=R1.cell2;have f2:=R1.free;have RZ:=R1.set (.slice none 0 0) (.int .i64 0) (.int .i64 0);have hr0:=RZ.cell0;have hr1:=RZ.cell1;have hr2:=RZ.cell2
  have BZ:=hd_ (below_set3 (b:=w.heap.size+1+1) B1 (by omega) (.slice none 0 0) (.int .i64 0) (.int .i64 0));clear RZ;go_wp2;exact bodyPost_ret (v:=.tuple #[.agg #[.slice none 0 0,.int .i64 0,.int .i64 0],.bool false]) (by simp[results,Tryz.results197,go_sem,hr0,hr1,hr2]) rfl ⟨rfl,BZ.out⟩
 ·rw[ha]at KA
  rw[hb']at KB;clear ha hb' HC;go_enter Tryz.func197,Tryz.ntmps197
  go_wp2_with fail
  rw[<-HW0.out];clear HW0
  go_wp2_with fail
  refine KA.out.mono ?_;rintro e w1 ⟨rfl,hb⟩;have R1:=R0.later hb;have Y1:=Y0.later hb;have B1:=hd_ (HA.out.trans (hb.mono HA.out.size));have KB1:=hd_ (KB.out w1 hb);clear x0 x1 x2 y0 y1 y2 X0 Y0 R0 hb KB;have y0:=Y1.cell0;have y1:=Y1.cell1;have y2:=Y1.cell2
  go_wp2_with fail
  refine KB1.out.mono ?_;rintro e w2 ⟨rfl,hb⟩;have R2:=R1.later hb;have B2:=B1.out.trans (hb.mono B1.out.size);clear y0 y1 y2 Y1 R1 hb;have z0:=R2.cell0;have z1:=R2.cell1;have z2:=R2.cell2;have f2:=R2.free;have RZ:=R2.set (.slice none 0 0) (.int .i64 0) (.int .i64 0);have hr0:=RZ.cell0;have hr1:=RZ.cell1;have hr2:=RZ.cell2
  have BZ:=hd_ (below_set3 (b:=w.heap.size+1+1) B2 (by omega) (.slice none 0 0) (.int .i64 0) (.int .i64 0));clear RZ;go_wp2;exact bodyPost_ret (v:=.tuple #[.agg #[.slice none 0 0,.int .i64 0,.int .i64 0],.bool false]) (by simp[results,Tryz.results197,go_sem,hr0,hr1,hr2]) rfl ⟨rfl,BZ.out⟩
 ·rw[ha]at KA
  rw[hb']at KB;have hPa:=(topB_iff _ _ _).1 ha;have hPb:=(topB_iff _ _ _).1 hb';have a1:=hPa.1.2.2;have a2:=hPb.1.2.2;clear ha hb' HC hPa hPb;go_enter Tryz.func197,Tryz.ntmps197
  go_wp2_with fail
  rw[<-HW0.out];clear HW0
  go_wp2_with fail
  refine KA.out.mono ?_;rintro e w1 ⟨rfl,hb⟩;have X1:=X0.later hb;have R1:=R0.later hb;have Y1:=Y0.later hb;have B1:=hd_ (HA.out.trans (hb.mono HA.out.size));have KB1:=hd_ (KB.out w1 hb);clear x0 x1 x2 y0 y1 y2 X0 Y0 R0 hb KB;have y0:=Y1.cell0;have y1:=Y1.cell1;have y2:=Y1.cell2
  go_wp2_with fail
  refine KB1.out.mono ?_;rintro e w2 ⟨rfl,hb⟩;have X2:=X1.later hb;have Y2:=Y1.later hb;have R2:=R1.later hb;have B2:=B1.out.trans (hb.mono B1.out.size);clear y0 y1 y2 Y1 R1 X1 hb;have x2:=X2.cell2;have y2:=Y2.cell2;have z0:=R2.cell0;have z1:=R2.cell1;have z2:=R2.cell2;have f2:=R2.free;have RZ:=R2.set (.slice none 0 0) (.int .i64 0) (.int .i64 0);have hr0:=RZ.cell0;have hr1:=RZ.cell1
  have hr2:=RZ.cell2;have BZ:=hd_ (below_set3 (b:=w.heap.size+1+1) B2 (by omega) (.slice none 0 0) (.int .i64 0) (.int .i64 0));clear RZ;go_wp2;exact bodyPost_ret (v:=.tuple #[.agg #[.slice none 0 0,.int .i64 0,.int .i64 0],.bool false]) (by simp[results,Tryz.results197,go_sem,hr0,hr1,hr2]) rfl ⟨rfl,BZ.out⟩
 ·rw[HNO.out]at h;cases h
def Joined (w:World) (ps qs:List Pr) (w':World) (r:Value):Prop:=OwnP w' w.heap.size r (cutP (bothP ps qs))/\Below w.heap.size w w'
theorem imTopJoin_yes (w:World) (u v:Value) (ps qs:List Pr) (la aa lb ab:Int) (hp:Prs w u ps) (hq:Prs w v qs) (ha:topB ps la aa=true) (hb':topB qs lb ab=true) (hs:aa+ab<=2000):
  Calls Tryz.prog 197 #[.agg #[u,.int .i64 la,.int .i64 aa],.agg #[v,.int .i64 lb,.int .i64 ab]] w fun e w'=>∃r,e=.returned (.tuple #[.agg #[r,.int .i64 (la+lb+overV (bothP ps qs)),.int .i64 (aa+ab)],.bool true])/\Joined w ps qs w' r:=by
 obtain⟨x,ca,rfl,_,_⟩:=hp.form;obtain⟨y,cb,rfl,_,_⟩:=hq.form;obtain⟨na,hna⟩:∃na,na=ps.length:=⟨_,rfl⟩
 obtain⟨nb,hnb⟩:∃nb,nb=qs.length:=⟨_,rfl⟩
 rw[<-hna]at hp ⊢;rw[<-hnb]at hq ⊢;obtain⟨X0,Y0,R0,hA⟩:=three_boxes w (.slice x na ca) (.int .i64 la) (.int .i64 aa) (.slice y nb cb) (.int .i64 lb) (.int .i64 ab);obtain⟨W0,hW0⟩:∃W0,W0=(((w.alloc (.cells #[.slice x na ca,.int .i64 la,.int .i64 aa] 41)).alloc (.cells #[.slice y nb cb,.int .i64 lb,.int .i64 ab] 41)).alloc (.cells #[.slice none 0 0,.int .i64 0,.int .i64 0] 41)):=⟨_,rfl⟩
 rw[<-hW0]at X0 Y0 R0 hA;have HW0:=hd_ hW0;have HA:=hd_ hA;have PA:=hd_ (hp.below hA lr_);have PB:=hd_ (hq.below hA lr_);have KA:=hd_ (imTopOk_at W0 _ ps la aa PA.out)
 have KB:Hid (∀W,Below W0.heap.size W0 W->Calls Tryz.prog 177 #[.agg #[.slice y nb cb,.int .i64 lb,.int .i64 ab]] W fun e w'=>e=.returned (.bool (topB qs lb ab))/\Below W.heap.size W w'):=fun W h=>imTopOk_at W _ qs lb ab (PB.out.below h lr_)
 have x0:=X0.cell0;have x1:=X0.cell1;have x2:=X0.cell2;have y0:=Y0.cell0;have y1:=Y0.cell1;have y2:=Y0.cell2;have hPa:=(topB_iff _ _ _).1 ha;have hPb:=(topB_iff _ _ _).1 hb';have la4:=hPa.1.1;have lb4:=hPb.1.1;have la2:=hPa.1.2.1;have lb2:=hPb.1.2.1;have a1:=hPa.1.2.2;have a2:=hPb.1.2.2;have ba:=hPa.bd;have bb:=hPb.bd;have pa:=hPa.pos;have pb:=hPb.pos;have ua:=hPa.asc.up;rw[ha]at KA;rw[hb']at KB
 have KP:Hid (∀W,Prs W (.slice x na ca) ps->Prs W (.slice y nb cb) qs->Calls Tryz.prog 251 #[.slice x na ca,.slice y nb cb] W fun e w'=>∃r,e=.returned r/\OwnP w' W.heap.size r (bothP ps qs)/\Below W.heap.size W w'):=fun W h1 h2=>
  (pairsOfBoth_at W _ _ ps qs h1 h2 la4 lb4 ba bb).mono fun e w' ⟨r,he,ss,q1,q2,q3,q4⟩=>⟨r,he,by rw[<-mrgV_both ua pa pb q1 q2];exact q3,q4⟩
 have hbp:=bothP_all ps qs ua pa pb;have LB:Hid ((bothP ps qs).length<=8):=by show _<=_;have:=hbp.2.2.1;omega
 have PB':=hd_ hbp.2.1;have BD:Hid (BdP 16000 (bothP ps qs)):=bothP_bd ua ba bb pa pb lb4;have ob:=overV_bd (M:=16000) (by omega) BD.out.at;obtain⟨bs,hbs⟩:∃bs,bs=bothP ps qs:=⟨_,rfl⟩
 rw[<-hbs]at KP LB PB' BD ob ⊢;obtain⟨ov,hov⟩:∃ov,ov=overV bs:=⟨_,rfl⟩
 rw[<-hov]at ob ⊢;have HBS:=hd_ hbs;have HOV:=hd_ hov;have KCU:Hid (∀W r,OwnP W W.heap.size r bs->True):=fun _ _ _=>trivial
 clear hp hq hna hnb hW0 hA ha hb' hPa hPb ba bb pa pb ua hbp hbs hov KCU;go_enter Tryz.func197,Tryz.ntmps197
 go_wp2_with fail
 rw[<-HW0.out];clear HW0
 go_wp2_with fail
 refine KA.out.mono ?_;rintro e w1 ⟨rfl,hb⟩;have X1:=X0.later hb;have R1:=R0.later hb;have Y1:=Y0.later hb;have B1:=hd_ (HA.out.trans (hb.mono HA.out.size));have PA1:=hd_ (PA.out.below hb lr_);have PB1:=hd_ (PB.out.below hb lr_);have KB1:=hd_ (KB.out w1 hb);clear x0 x1 x2 y0 y1 y2 X0 Y0 R0 hb KB KA PA PB;have y0:=Y1.cell0;have y1:=Y1.cell1;have y2:=Y1.cell2
 go_wp2_with fail
 refine KB1.out.mono ?_;rintro e w2 ⟨rfl,hb⟩;have X2:=X1.later hb;have Y2:=Y1.later hb;have R2:=R1.later hb;have B2:=hd_ (B1.out.trans (hb.mono B1.out.size));have PA2:=hd_ (PA1.out.below hb lr_);have PB2:=hd_ (PB1.out.below hb lr_);clear y0 y1 y2 Y1 R1 X1 hb KB1 PA1 PB1 B1;have x0:=X2.cell0;have x1:=X2.cell1;have x2:=X2.cell2;have y0:=Y2.cell0;have y1:=Y2.cell1;have y2:=Y2.cell2
 go_wp2_with fail
 refine (KP.out w2 PA2.out PB2.out).mono ?_;rintro e w3 ⟨r,rfl,ho3,hb⟩;obtain⟨xr,cr,rfl,_,_⟩:=ho3.form;have X3:=X2.later hb;have Y3:=Y2.later hb;have R3:=R2.later hb;have B3:=hd_ (B2.out.trans (hb.mono B2.out.size));have s23:=hb.size;have KC:=hd_ (cutPairs_at w3 w2.heap.size _ bs hb.size ho3 LB.out BD.out PB'.out);have OB3:=hd_ (fun k e=>(World.ownsRow.lt ho3 k e).1)
 generalize bs.length=nbs at KC ⊢;clear x0 x1 x2 y0 y1 y2 X2 Y2 R2 hb ho3 KP PA2 PB2
 go_wp2_with fail
 refine KC.out.mono ?_;rintro e w4 ⟨r,n,rfl,ho4,hn,hb⟩;have X4:=X3.later hb;have Y4:=Y3.later hb;have R4:=R3.later hb;have B4:=hd_ (B3.out.trans (hb.mono B3.out.size));rw[<-HOV.out]at hn;subst hn;obtain⟨xz,cz,rfl,_,_⟩:=ho4.form;obtain⟨cs,hcs⟩:∃cs,cs=cutP bs:=⟨_,rfl⟩
 rw[<-hcs]at ho4 ⊢;have HCS:=hd_ hcs;have x1:=X4.cell1;have x2:=X4.cell2;have y1:=Y4.cell1;have y2:=Y4.cell2;have z0:=R4.cell0;have z1:=R4.cell1;have z2:=R4.cell2;have f2:=R4.free;have RZ:=R4.set (.slice xz cs.length cz) (.int .i64 (la+lb+n)) (.int .i64 (aa+ab));have hr0:=RZ.cell0;have hr1:=RZ.cell1;have hr2:=RZ.cell2
 have OZ:=hd_ ((ho4.set3 (b:=w.heap.size+1+1) (R4.not_row (by decide) ho4) (.slice xz cs.length cz) (.int .i64 (la+lb+n)) (.int .i64 (aa+ab))).base (B':=w.heap.size) (B2.out.size));have BZ:=hd_ (below_set3 (b:=w.heap.size+1+1) B4.out (by omega) (.slice xz cs.length cz) (.int .i64 (la+lb+n)) (.int .i64 (aa+ab)))
 have FIN:Hid (Joined w ps qs (((w4.setCell ⟨w.heap.size+1+1,0,none⟩ (.slice xz cs.length cz)).setCell ⟨w.heap.size+1+1,1,none⟩ (.int .i64 (la+lb+n))).setCell ⟨w.heap.size+1+1,2,none⟩ (.int .i64 (aa+ab))) (.slice xz cs.length cz)):=by
  refine⟨?_,BZ.out⟩;rw[<-HBS.out, <-HCS.out];exact OZ.out
 clear RZ X3 Y3 R3 X4 Y4 R4 ho4 hb hcs OZ BZ;go_wp2;exact bodyPost_ret (v:=.tuple #[.agg #[.slice xz cs.length cz,.int .i64 (la+lb+n),.int .i64 (aa+ab)],.bool true]) (by simp[results,Tryz.results197,go_sem,hr0,hr1,hr2]) rfl ⟨_,rfl,FIN.out⟩
theorem imTopJoin_at (w:World) (u v:Value) (ps qs:List Pr) (la aa lb ab:Int) (hp:Prs w u ps) (hq:Prs w v qs):
  Calls Tryz.prog 197 #[.agg #[u,.int .i64 la,.int .i64 aa],.agg #[v,.int .i64 lb,.int .i64 ab]] w fun e w'=>∃r,e=.returned (.tuple #[.agg #[r,.int .i64 (joinT ps la aa qs lb ab).2.1,.int .i64 (joinT ps la aa qs lb ab).2.2],.bool (joinOk ps la aa qs lb ab)])/\OwnP w' w.heap.size r (joinT ps la aa qs lb ab).1/\Below w.heap.size w w':=by
 rcases joinOk_cases ps la aa qs lb ab with ⟨_,h⟩|⟨_,_,h⟩|⟨_,_,_,h⟩|⟨ha,hb,hs,h⟩
 ·rw[joinT_no h,h]
  exact (imTopJoin_no w u v ps qs la aa lb ab hp hq h).mono fun e w' ⟨he,hb⟩=>⟨_,he,OwnP.nil _ _,hb⟩
 ·rw[joinT_no h,h]
  exact (imTopJoin_no w u v ps qs la aa lb ab hp hq h).mono fun e w' ⟨he,hb⟩=>⟨_,he,OwnP.nil _ _,hb⟩
 ·rw[joinT_no h,h]
  exact (imTopJoin_no w u v ps qs la aa lb ab hp hq h).mono fun e w' ⟨he,hb⟩=>⟨_,he,OwnP.nil _ _,hb⟩
 ·rw[joinT_yes h,h]
  exact (imTopJoin_yes w u v ps qs la aa lb ab hp hq ha hb hs).mono fun e w' ⟨r,he,ho,hb⟩=>⟨r,he,ho,hb⟩
theorem topB_one (t:Int):topB [(t,1)] 0 1=isT t:=by
 have h:TopP [(t,1)] 0 1↔(0<=t/\t<64):=by
  unfold TopP
  constructor
  ·intro h
   have:=(h.2.1 0 (by simp)).1.1;simp[pr]at this;omega
  ·intro h
   refine⟨⟨by simp,by omega,by omega⟩,fun i hi=>?_,by simp[sumP]⟩;simp at hi;subst hi;refine⟨⟨?_,?_⟩,fun h=>absurd h (Nat.lt_irrefl _)⟩
   ·simp[pr];omega
   ·simp[pr]
 simp[topB,isT,h]
theorem joinOk_one (ps:List Pr) (lost all t:Int):joinOk ps lost all [(t,1)] 0 1=addOk ps lost all t:=by
 unfold joinOk addOk;rw[topB_one]
 congr 2
theorem joinT_one (ps:List Pr) (lost all t:Int):joinT ps lost all [(t,1)] 0 1=addT ps lost all t:=by
 unfold joinT addT;rw[joinOk_one];simp[bothP]
theorem imTopAdd_at (w:World) (u:Value) (ps:List Pr) (lost all t:Int) (hp:Prs w u ps):
  Calls Tryz.prog 233 #[.agg #[u,.int .i64 lost,.int .i64 all],.int .i64 t] w fun e w'=>∃r,e=.returned (.tuple #[.agg #[r,.int .i64 (addT ps lost all t).2.1,.int .i64 (addT ps lost all t).2.2],.bool (addOk ps lost all t)])/\OwnP w' w.heap.size r (addT ps lost all t).1/\Below w.heap.size w w':=by
 obtain⟨x,c,rfl,_,_⟩:=hp.form;obtain⟨n,hn⟩:∃n,n=ps.length:=⟨_,rfl⟩
 rw[<-hn]at hp ⊢;obtain⟨W0,hW0⟩:∃W0,W0=(w.alloc (.cells #[.slice x n c,.int .i64 lost,.int .i64 all] 41)).alloc (.cells #[.slice none 0 0,.int .i64 0,.int .i64 0] 41):=⟨_,rfl⟩
 have X0:Box3 W0 w.heap.size 41 (.slice x n c) (.int .i64 lost) (.int .i64 all):=by rw[hW0];exact (Box3.new _ _ _ _ _).alloc _
 have R0:Box3 W0 (w.heap.size+1) 41 (.slice none 0 0) (.int .i64 0) (.int .i64 0):=by
  have h:=Box3.new (w.alloc (.cells #[.slice x n c,.int .i64 lost,.int .i64 all] 41)) 41 (.slice none 0 0) (.int .i64 0) (.int .i64 0);rw[hW0];simpa using h
 have B0:Hid (Below w.heap.size w W0):=by show Below _ _ _;rw[hW0];exact ((Below.refl _ _).alloc lr_ _).alloc (by simp) _
 have s0:W0.heap.size=w.heap.size+2:=by rw[hW0];simp
 obtain⟨W1,hW1⟩:∃W1,W1=W0.alloc (.cells #[.int .i64 t,.int .i64 1] 213):=⟨_,rfl⟩
 have B1:Hid (Below w.heap.size w W1):=by show Below _ _ _;rw[hW1];exact B0.out.alloc B0.out.size _
 have R1:Box3 W1 (w.heap.size+1) 41 (.slice none 0 0) (.int .i64 0) (.int .i64 0):=by rw[hW1];exact R0.alloc _
 have Q1:Hid (Prs W1 (.slice (some ⟨w.heap.size+2,0,none⟩) 1 1) [(t,1)]):=by
  refine .inr ⟨w.heap.size+2,0,1,rfl,Nat.le_refl _,by simp[maxLen],by rw[hW1, <-s0];simp,fun i hi=>?_⟩;simp at hi;subst hi;rw[hW1, <-s0]
  constructor
  ·show (W0.alloc _).cell? ⟨W0.heap.size,0,none⟩=_;simp[pr]
  ·show (W0.alloc _).cell? ⟨W0.heap.size,1,none⟩=_;simp[pr]
 have K:=hd_ (imTopJoin_at W1 (.slice x n c) (.slice (some ⟨w.heap.size+2,0,none⟩) 1 1) ps [(t,1)] lost all 0 1 (hp.below B1.out lr_) Q1.out);rw[joinT_one,joinOk_one]at K;obtain⟨T,hT⟩:∃T,T=addT ps lost all t:=⟨_,rfl⟩
 obtain⟨ok,hok⟩:∃ok,ok=addOk ps lost all t:=⟨_,rfl⟩
 rw[<-hT, <-hok]at K ⊢;have HW0:=hd_ hW0;have HW1:=hd_ hW1;obtain⟨zs,lo,al⟩:=T;simp only at K ⊢;have x0:=X0.cell0;have x1:=X0.cell1;have x2:=X0.cell2;have S0:=hd_ s0;have e2:w.heap.size+2=w.heap.size+1+1:=rfl;clear hp hn hW0 hW1 hT hok s0 e2;go_enter Tryz.func233,Tryz.ntmps233
 go_wp2_with fail
 rw[<-HW0.out];clear HW0
 go_wp2_with fail
 rw[<-HW1.out];clear HW1;refine K.out.mono ?_;rintro e w3 ⟨r,rfl,ho3,hb⟩;have R3:=R1.later hb;obtain⟨xz,cz,rfl,_,_⟩:=ho3.form;have z0:=R3.cell0;have z1:=R3.cell1;have z2:=R3.cell2;have f2:=R3.free;have RZ:=R3.set (.slice xz zs.length cz) (.int .i64 lo) (.int .i64 al);have hr0:=RZ.cell0;have hr1:=RZ.cell1;have hr2:=RZ.cell2;have B3:=B1.out.trans (hb.mono B1.out.size)
 have OZ:=hd_ ((ho3.set3 (b:=w.heap.size+1) (R3.not_row (by decide) ho3) (.slice xz zs.length cz) (.int .i64 lo) (.int .i64 al)).base (B':=w.heap.size) (B1.out.size));have BZ:=hd_ (below_set3 (b:=w.heap.size+1) B3 (Nat.le_succ _) (.slice xz zs.length cz) (.int .i64 lo) (.int .i64 al));clear RZ R3 R1 R0 X0 ho3 hb B3 x0 x1 x2;go_wp2
 exact bodyPost_ret (v:=.tuple #[.agg #[.slice xz zs.length cz,.int .i64 lo,.int .i64 al],.bool ok]) (by simp[results,Tryz.results233,go_sem,hr0,hr1,hr2]) rfl ⟨_,rfl,OZ.out,BZ.out⟩
def sumL:List Pr->Int
 | []=>0
 |p::ps=>p.2+sumL ps
theorem sumL_nonneg {ps:List Pr} (h:∀p ∈ ps,0<=p.2):0<=sumL ps:=by
 induction ps with
 |nil=>simp[sumL]
 |cons p ps ih=>
  have:=h p (by simp);have:=ih (fun q hq=>h q (by simp[hq]));simp only[sumL];omega
theorem sumL_mem {ps:List Pr} (h:∀p ∈ ps,0<=p.2) {p:Pr} (hp:p ∈ ps):p.2<=sumL ps:=by
 induction ps with
 |nil=>cases hp
 |cons q ps ih=>
  have h0:=h q (by simp);have h1:=sumL_nonneg (fun q hq=>h q (by simp[hq]):∀q ∈ ps,0<=q.2);simp only[sumL];rcases List.mem_cons.1 hp with rfl|hp
  ·omega
  ·have:=ih (fun q hq=>h q (by simp[hq])) hp
   omega
theorem sumL_put (ps:List Pr) (x:Pr):sumL (putP ps x)=sumL ps+x.2:=by
 induction ps with
 |nil=>simp[putP,sumL]
 |cons q ps ih=>
  unfold putP
  split
  ·simp only[sumL,ih];omega
  ·split
   ·simp only[sumL];omega
   ·simp only[sumL];omega
theorem sumL_both (ps qs:List Pr):sumL (bothP ps qs)=sumL ps+sumL qs:=by
 unfold bothP
 induction qs generalizing ps with
 |nil=>simp[sumL]
 |cons q qs ih=>
  simp only[List.foldl_cons,sumL,ih,sumL_put];omega
theorem cntGe_cons (p:Pr) (ps:List Pr) (n:Int):cntGe (p::ps) n=cntGe ps n+if n<=p.2 then 1 else 0:=by
 unfold cntGe
 by_cases h:n<=p.2<;>simp[h]
theorem sumL_less {ps:List Pr} {n:Int} (hn:0<=n) (h:∀p ∈ ps,0<=p.2):sumL (lessV ps n)+n * (cntGe ps n:Int)<=sumL ps:=by
 induction ps with
 |nil=>simp[lessV,sumL,cntGe]
 |cons p ps ih=>
  have h0:=h p (by simp);have:=ih (fun q hq=>h q (by simp[hq]));rw[cntGe_cons];unfold lessV
  by_cases h1:n<p.2
  ·rw[if_pos h1,if_pos (by omega)]
   simp only[sumL];rw[show ((cntGe ps n+1:Nat):Int)=(cntGe ps n:Int)+1 by omega,Int.mul_add];omega
  ·rw[if_neg h1]
   simp only[sumL]
   by_cases h2:n<=p.2
   ·rw[if_pos h2,show ((cntGe ps n+1:Nat):Int)=(cntGe ps n:Int)+1 by omega,Int.mul_add]
    omega
   ·rw[if_neg h2,Nat.add_zero];omega
theorem less_mem {ps:List Pr} {n:Int} {p:Pr} (h:p ∈ lessV ps n):∃q ∈ ps,q.1=p.1/\n<q.2/\p.2=q.2 - n:=by
 induction ps with
 |nil=>cases h
 |cons q ps ih=>
  unfold lessV at h
  split at h
  ·rcases List.mem_cons.1 h with rfl|h
   ·exact⟨q,by simp,rfl,by assumption,rfl⟩
   ·obtain⟨q',hq,r⟩:=ih h
    exact⟨q',by simp[hq],r⟩
  ·obtain⟨q',hq,r⟩:=ih h
   exact⟨q',by simp[hq],r⟩
theorem Up.less {ps:List Pr} (h:Up ps) (n:Int):Up (lessV ps n):=by
 unfold Up at h ⊢
 induction ps with
 |nil=>simp[lessV]
 |cons p ps ih=>
  rw[List.pairwise_cons]at h;unfold lessV
  split
  ·rw[List.pairwise_cons]
   refine⟨fun q hq=>?_,ih h.2⟩;obtain⟨q',hq',e,_⟩:=less_mem hq;have:=h.1 q' hq';simp only;omega
  ·exact ih h.2
theorem less_len (ps:List Pr) (n:Int):(lessV ps n).length<=cntGe ps (n+1):=by
 induction ps with
 |nil=>simp[lessV]
 |cons p ps ih=>
  rw[cntGe_cons];unfold lessV
  split
  ·rw[if_pos (by omega)];simp;omega
  ·omega
theorem cntGe_mono (ps:List Pr) {m n:Int} (h:m<=n):cntGe ps n<=cntGe ps m:=by
 induction ps with
 |nil=>simp[cntGe]
 |cons p ps ih=>
  rw[cntGe_cons,cntGe_cons]
  split<;>split<;>omega
theorem cntGe_least {ps:List Pr} {n:Int} (h:0<cntGe ps n):∃i,i<ps.length/\n<=(pr ps i).2/\cntGe ps (pr ps i).2=cntGe ps n:=by
 -- the least number of those that have at least n
 have h':∃l:List Pr,l=ps.filter fun p=>decide (n<=p.2):=⟨_,rfl⟩
 obtain⟨l,hl⟩:=h';have key:∀l:List Pr,l≠[]->∃p ∈ l,∀q ∈ l,p.2<=q.2:=by
  intro l
  induction l with
  |nil=>intro h;exact absurd rfl h
  |cons x l ih=>
   intro _
   by_cases e:l=[]
   ·subst e;exact⟨x,by simp,by simp⟩
   ·obtain⟨p,hp,hq⟩:=ih e
    by_cases hx:x.2<=p.2
    ·refine⟨x,by simp,fun q hq'=>?_⟩
     rcases List.mem_cons.1 hq' with rfl|hq'
     ·omega
     ·have:=hq q hq';omega
    ·refine⟨p,by simp[hp],fun q hq'=>?_⟩
     rcases List.mem_cons.1 hq' with rfl|hq'
     ·omega
     ·exact hq q hq'
 have hne:l≠[]:=by
  intro e;unfold cntGe at h;rw[<-hl,e]at h;simp at h
 obtain⟨p,hp,hq⟩:=key l hne;rw[hl]at hp;have hp2:=List.mem_filter.1 hp;obtain⟨i,hi,rfl⟩:=pr_at hp2.1;have hn:n<=(pr ps i).2:=by simpa using hp2.2
 refine⟨i,hi,hn,Nat.le_antisymm (cntGe_mono ps hn) ?_⟩;unfold cntGe;have:∀ms:List Pr,(∀q ∈ ms,n<=q.2->(pr ps i).2<=q.2)->(ms.filter fun p=>decide (n<=p.2)).length<=(ms.filter fun p=>decide ((pr ps i).2<=p.2)).length:=by
  intro ms
  induction ms with
  |nil=>intro _;simp
  |cons x ms ih=>
   intro hm;have:=ih (fun q hq=>hm q (by simp[hq]));have hx:=hm x (by simp)
   by_cases h1:n<=x.2
   ·have:=hx h1
    simp[h1,this];omega
   ·by_cases h2:(pr ps i).2<=x.2
    ·simp[h1,h2];omega
    ·simp[h1,h2];omega
 exact this ps (fun q hqm hqn=>hq q (by rw[hl];exact List.mem_filter.2 ⟨hqm,by simpa using hqn⟩))
theorem cut_four {ps:List Pr} (h:∀p ∈ ps,0<=p.2):(cutP ps).length<=4:=by
 refine Decidable.byContradiction fun hc=>?_
 have h1:=less_len ps (overV ps);unfold cutP at hc;have h2:4<cntGe ps (overV ps+1):=by omega
 obtain⟨i,hi,hn,he⟩:=cntGe_least (ps:=ps) (n:=overV ps+1) (by omega);have:=overK_ge (ps:=ps) (k:=ps.length) (i:=i) hi (by omega);have e:overV ps=overK ps ps.length:=rfl;omega
theorem cut_five {ps:List Pr} (h:∀p ∈ ps,0<=p.2):sumL (cutP ps)+overV ps * 5<=sumL ps/\0<=overV ps:=by
 have ov:0<=overV ps/\(0<overV ps->5<=cntGe ps (overV ps)):=by
  rcases overK_is ps (k:=ps.length) lr_ with e|⟨i,hi,hc,e⟩
  ·have e':overV ps=0:=e
   omega
  ·have e':(pr ps i).2=overV ps:=e
   have:=h _ (pr_mem hi);rw[e']at hc this;omega
 refine⟨?_,ov.1⟩;have hs:=sumL_less ov.1 h
 by_cases h0:0<overV ps
 ·have h5:=ov.2 h0
  have:overV ps * 5<=overV ps * (cntGe ps (overV ps):Int):=Int.mul_le_mul_of_nonneg_left (by omega) ov.1;unfold cutP;omega
 ·have e0:overV ps=0:=by omega
  unfold cutP;rw[e0]at hs ⊢;omega
theorem sumP_sumL (ps:List Pr):sumP ps=sumL ps:=by
 induction ps with
 |nil=>rfl
 |cons p ps ih=>simp[sumP,sumL]at ih ⊢;omega
theorem both_thing {ps qs:List Pr} {la aa lb ab:Int} (A:TopP ps la aa) (B:TopP qs lb ab) {q:Pr} (h:q ∈ bothP ps qs):0<=q.1/\q.1<=63:=by
 have key:∀(qs ps:List Pr),(∀p ∈ ps,0<=p.1/\p.1<=63)->(∀p ∈ qs,0<=p.1/\p.1<=63)->∀q ∈ bothP ps qs,0<=q.1/\q.1<=63:=by
  intro qs
  induction qs with
  |nil=>intro ps h1 _ q hq;exact h1 q hq
  |cons x qs ih=>
   intro ps h1 h2 q hq;refine ih (putP ps x) (fun p hp=>?_) (fun p hp=>h2 p (by simp[hp])) q hq;rcases put_mem hp with e|hp
   ·rw[e];exact h2 x (by simp)
   ·exact h1 p hp
 refine key qs ps (fun p hp=>?_) (fun p hp=>?_) q h
 ·obtain⟨i,hi,rfl⟩:=pr_at hp
  exact (A.2.1 i hi).1.1
 ·obtain⟨i,hi,rfl⟩:=pr_at hp
  exact (B.2.1 i hi).1.1
theorem join_top {ps qs:List Pr} {la aa lb ab:Int} (h:joinOk ps la aa qs lb ab=true):topB (joinT ps la aa qs lb ab).1 (joinT ps la aa qs lb ab).2.1 (joinT ps la aa qs lb ab).2.2=true:=by
 rcases joinOk_cases ps la aa qs lb ab with ⟨_,h'⟩|⟨_,_,h'⟩|⟨_,_,_,h'⟩|⟨ha,hb,hs,_⟩
 ·rw[h]at h';cases h'
 ·rw[h]at h';cases h'
 ·rw[h]at h';cases h'
 rw[joinT_yes h];have A:=(topB_iff _ _ _).1 ha;have B:=(topB_iff _ _ _).1 hb;obtain⟨bu,bp,_,bt⟩:=bothP_all ps qs A.asc.up A.pos B.pos;have nn:∀p ∈ bothP ps qs,0<=p.2:=fun p hp=>by have:=bp p hp;omega
 have c4:=cut_four nn;obtain⟨c5,o0⟩:=cut_five nn;have sb:=sumL_both ps qs;have fa:=A.2.2;have fb:=B.2.2;have a1:=A.1.2;have b1:=B.1.2;rw[sumP_sumL]at fa fb;have cn:∀p ∈ cutP (bothP ps qs),0<p.2:=fun p hp=>by
  obtain⟨q,_,_,h1,h2⟩:=less_mem hp;omega
 have cu:Up (cutP (bothP ps qs)):=bu.less _;have cs:=sumL_nonneg (fun p hp=>by have:=cn p hp;omega:∀p ∈ cutP (bothP ps qs),0<=p.2);show topB (cutP (bothP ps qs)) (la+lb+overV (bothP ps qs)) (aa+ab)=true
 refine (topB_iff _ _ _).2 ⟨⟨c4,⟨by omega,by omega⟩,by omega,by omega⟩,fun i hi=>⟨⟨?_,?_⟩,fun h0=>cu.asc i h0 hi⟩,by rw[sumP_sumL];omega⟩
 ·obtain⟨q,hq,e,_⟩:=less_mem (pr_mem hi)
  have:=both_thing A B hq;rw[e]at this;exact this
 ·have m1:=cn _ (pr_mem hi)
  have m2:=sumL_mem (fun p hp=>by have:=cn p hp;omega:∀p ∈ cutP (bothP ps qs),0<=p.2) (pr_mem hi);omega
theorem putP_two (ps:List Pr) (t n:Int) (hn:2<=n):cntGe (putP ps (t,1)) n<=ps.length:=by
 induction ps with
 |nil=>simp[putP,cntGe,List.filter_cons];omega
 |cons q ps ih=>
  have:=cntGe_le ps n;unfold putP
  split
  ·rw[cntGe_cons];split<;>simp<;>omega
  ·split
   ·rw[cntGe_cons];split<;>simp<;>omega
   ·rw[cntGe_cons,cntGe_cons];split<;>split<;>simp_all<;>omega
theorem tot_less {ps:List Pr} (h:Up ps) {n:Int} (hn:0<=n) (hp:∀p ∈ ps,0<=p.2) (t:Int):tot (lessV ps n) t<=tot ps t/\tot ps t<=tot (lessV ps n) t+n:=by
 unfold Up at h
 induction ps with
 |nil=>simp[lessV,tot];omega
 |cons p ps ih=>
  rw[List.pairwise_cons]at h;have i:=ih h.2 (fun q hq=>hp q (by simp[hq]));have p0:=hp p (by simp)
  by_cases e:p.1=t
  ·have z:tot ps t=0:=tot_none fun q hq=>by have:=h.1 q hq;omega
   have z':tot (lessV ps n) t=0:=tot_none fun q hq=>by
    obtain⟨q',hq',e',_⟩:=less_mem hq;have:=h.1 q' hq';omega
   unfold lessV
   split<;>simp only[tot,e,if_true,z,z']<;>omega
  ·unfold lessV
   split<;>simp only[tot,if_neg e]<;>omega
theorem add_more {ps:List Pr} {lost all t:Int} (h:addOk ps lost all t=true):topB (addT ps lost all t).1 (addT ps lost all t).2.1 (addT ps lost all t).2.2=true/\(addT ps lost all t).2.2=all+1/\(0<=(addT ps lost all t).2.1 - lost/\(addT ps lost all t).2.1 - lost<=1)/\tot (addT ps lost all t).1 t<=tot ps t+1/\tot ps t+lost<=tot (addT ps lost all t).1 t+(addT ps lost all t).2.1:=by
 refine⟨?_,?_⟩
 ·have:=join_top (ps:=ps) (la:=lost) (aa:=all) (qs:=[(t,1)]) (lb:=0) (ab:=1) (by rw[joinOk_one];exact h)
  rwa[joinT_one]at this
 rcases addOk_cases ps lost all t with ⟨_,h'⟩|⟨_,_,h'⟩|⟨_,_,_,h'⟩|⟨ha,ht,hs,_⟩
 ·rw[h]at h';cases h'
 ·rw[h]at h';cases h'
 ·rw[h]at h';cases h'
 rw[addT_yes h];have A:=(topB_iff _ _ _).1 ha;have up:Up (putP ps (t,1)):=A.asc.up.put;have pp:Pos (putP ps (t,1)):=A.pos.put (by simp);have nn:∀p ∈ putP ps (t,1),0<=p.2:=fun p hp=>by have:=pp p hp;omega
 have o0:=(cut_five nn).2;have o1:overV (putP ps (t,1))<=1:=by
  refine Decidable.byContradiction fun hc=>?_
  rcases overK_is (putP ps (t,1)) (k:=(putP ps (t,1)).length) lr_ with e|⟨i,hi,hk,e⟩
  ·have e':overV (putP ps (t,1))=0:=e
   omega
  ·have e':(pr (putP ps (t,1)) i).2=overV (putP ps (t,1)):=e
   have:=putP_two ps t (pr (putP ps (t,1)) i).2 (by omega);have:=A.1.1;omega
 obtain⟨t1,t2⟩:=tot_less up o0 nn t;have tp:=tot_put ps (t,1) t;simp only[if_true]at tp;refine⟨rfl,⟨by simp only;omega,by simp only;omega⟩,?_,?_⟩
 ·show tot (lessV (putP ps (t,1)) (overV (putP ps (t,1)))) t<=_
  omega
 ·show _<=tot (lessV (putP ps (t,1)) (overV (putP ps (t,1)))) t+(lost+overV (putP ps (t,1)))
  omega
structure AddMore (ps:List Pr) (lost all t:Int) (ns:List Pr) (nl na:Int):Prop where
 was:topB ps lost all=true
 top:topB ns nl na=true
 thing:0<=t/\t<64
 all':0<=all/\all<2000
 na':na=all+1
 nl':0<=nl - lost/\nl - lost<=1
 ge:tot ns t<=tot ps t+1
 le:tot ps t+lost<=tot ns t+nl
 old:0<=tot ps t/\tot ps t<=2000
 new:0<=tot ns t/\tot ns t<=2000
 lost':0<=lost/\lost<=2000
theorem addMore {ps:List Pr} {lost all t:Int} (h:addOk ps lost all t=true):AddMore ps lost all t (addT ps lost all t).1 (addT ps lost all t).2.1 (addT ps lost all t).2.2:=by
 obtain⟨a,b,c,d,e⟩:=add_more h;rcases addOk_cases ps lost all t with ⟨_,h'⟩|⟨_,_,h'⟩|⟨_,_,_,h'⟩|⟨ha,ht,hs,_⟩
 ·rw[h]at h';cases h'
 ·rw[h]at h';cases h'
 ·rw[h]at h';cases h'
 have A:=(topB_iff _ _ _).1 ha;have B:=(topB_iff _ _ _).1 a;exact⟨ha,a,by omega,⟨A.1.2.2.1,hs⟩,b,c,d,e,tot_bd A.2.1 A.asc,tot_bd B.2.1 B.asc,A.1.2.1⟩
end Go.Proofs.YtcblbdpdbggkbaaGreat.T
set_option linter.unusedVariables false
namespace Go.Proofs.YtcblbdpdbggkbaaGreat.K
open Go.RowKit Go.Sort
abbrev Pr:=Int × Int
def pr (ps:List Pr) (i:Nat):Pr:=ps.getD i (0,0)
def prs (ps:List Pr):List Value:=ps.flatMap fun p=>[.int .i64 p.1,.int .i64 p.2]
theorem prs_cons (p:Pr) (ps:List Pr):prs (p::ps)=.int .i64 p.1::.int .i64 p.2::prs ps:=rfl
theorem prs_append (ps qs:List Pr):prs (ps++qs)=prs ps++prs qs:=by simp[prs]
theorem prs_snoc (ps:List Pr) (p:Pr):prs (ps++[p])=prs ps++[.int .i64 p.1,.int .i64 p.2]:=by simp[prs]
theorem prs_len (ps:List Pr):(prs ps).length=ps.length * 2:=by
 induction ps with
 |nil=>rfl
 |cons p ps ih=>rw[prs_cons];simp[ih];omega
theorem prs_get (ps:List Pr) (i:Nat) (h:i<ps.length):(prs ps)[i * 2]? =some (.int .i64 (pr ps i).1)/\(prs ps)[i * 2+1]? =some (.int .i64 (pr ps i).2):=by
 induction ps generalizing i with
 |nil=>cases h
 |cons p ps ih=>
  rw[prs_cons];cases i with
  |zero=>exact⟨rfl,rfl⟩
  |succ i=>
   have:=ih i (by simpa using h);rw[show (i+1) * 2=i * 2+1+1 by omega];simp only[List.getElem?_cons_succ];exact this
theorem pr_mem {ps:List Pr} {i:Nat} (h:i<ps.length):pr ps i ∈ ps:=getD_mem ps i (0,0) h
theorem pr_at {ps:List Pr} {p:Pr} (h:p ∈ ps):∃i,i<ps.length/\pr ps i=p:=by
 obtain⟨i,hi,rfl⟩:=List.getElem_of_mem h;exact⟨i,hi,by simp[pr,hi]⟩
def Prs (w:World) (v:Value) (ps:List Pr):Prop:=
 (v=.slice none 0 0/\ps=[])\/
 ∃b o cap,v=.slice (some ⟨b,o,none⟩) ps.length cap/\ps.length<=cap/\cap<=maxLen/\b<w.heap.size/\
  ∀i,i<ps.length->w.cell? ⟨b,o+i * 2,none⟩=some (.int .i64 (pr ps i).1)/\w.cell? ⟨b,o+i * 2+1,none⟩=some (.int .i64 (pr ps i).2)
theorem Prs.below {w w':World} {v:Value} {ps:List Pr} (h:Prs w v ps) {B:Nat} (hb:Below B w w') (hB:w.heap.size<=B):Prs w' v ps:=by
 rcases h with h|⟨b,o,cap,rfl,h1,h2,h3,h4⟩
 ·exact .inl h
 ·exact .inr ⟨b,o,cap,rfl,h1,h2,Nat.lt_of_lt_of_le h3 hb.size,fun i hi=>by
      rw[hb.cell (by show b<B;omega),hb.cell (by show b<B;omega)];exact h4 i hi⟩
theorem Prs.form {w:World} {v:Value} {ps:List Pr} (h:Prs w v ps):∃x c,v=.slice x ps.length c/\ps.length<=c/\c<=maxLen:=by
 rcases h with ⟨rfl,rfl⟩|⟨b,o,cap,rfl,h1,h2,_⟩
 ·exact⟨none,0,rfl,Nat.le_refl _,Nat.zero_le _⟩
 ·exact⟨_,_,rfl,h1,h2⟩
theorem Prs.cells {w:World} {x:Option Addr} {n c:Nat} {ps:List Pr} (h:Prs w (.slice x n c) ps):∀i,i<ps.length->∃b o,x=some ⟨b,o,none⟩/\b<w.heap.size/\w.cell? ⟨b,o+i * 2,none⟩=some (.int .i64 (pr ps i).1)/\w.cell? ⟨b,o+i * 2+1,none⟩=some (.int .i64 (pr ps i).2):=fun i hi=>by
 rcases h with ⟨_,rfl⟩|⟨b,o,cap,e,h1,h2,h3,h4⟩
 ·cases hi
 ·exact⟨b,o,(Value.slice.inj e).1,h3,h4 i hi⟩
def OwnP (w:World) (B:Nat) (v:Value) (ps:List Pr):Prop:=w.ownsRow B 152 2 v ps.length (prs ps)
theorem addr_plus (b o i:Nat):(⟨b,o,none⟩:Addr).add i=⟨b,o+i,none⟩:=by unfold Addr.add;split<;>simp_all
theorem OwnP.rd {w:World} {B:Nat} {v:Value} {ps:List Pr} (h:OwnP w B v ps):Prs w v ps:=by
 rcases h.2 with ⟨rfl,h0⟩|⟨g,cap,cur,rfl,hb,hg,hn,hc,hs,ht⟩
 ·exact .inl ⟨rfl,List.eq_nil_of_length_eq_zero h0⟩
 ·refine .inr ⟨g,0,cap,rfl,hn,hc,(Array.getElem?_eq_some_iff.1 hg).1,fun i hi=>?_⟩
  have e:=prs_get ps i hi;have a:=World.ownsRow.cells h (g:=g) rfl _ _ e.1;have b:=World.ownsRow.cells h (g:=g) rfl _ _ e.2;rw[addr_plus]at a b;exact⟨a,by rw[Nat.add_assoc];exact b⟩
theorem OwnP.base {w:World} {B B':Nat} {v:Value} {ps:List Pr} (h:OwnP w B v ps) (hB:B'<=B):OwnP w B' v ps:=ownsRow_base h hB
theorem OwnP.kept {w w':World} {B:Nat} {v:Value} {ps:List Pr} {row:Option Nat} (h:OwnP w B v ps) (hg:w.grownBy w' row) (hr:∀k,row=some k->k<B):OwnP w' B v ps:=by
 refine World.ownsRow.kept h hg ?_;cases hv:v.ownBlock with
 |none=>exact .inl rfl
 |some k=>exact .inr (fun e=>by have:=(World.ownsRow.lt h k hv).1;have:=hr k e.symm;omega)
theorem OwnP.keep {w w':World} {B:Nat} {v:Value} {ps:List Pr} {row:Option Nat} (h:OwnP w B v ps) (hg:w.grownBy w' row) (hr:v.ownBlock≠row):OwnP w' B v ps:=World.ownsRow.kept h hg (.inr hr)
theorem OwnP.alloc {w:World} {B:Nat} {v:Value} {ps:List Pr} (h:OwnP w B v ps) (o:Obj):OwnP (w.alloc o) B v ps:=World.ownsRow.alloc h o
theorem OwnP.below {w w':World} {B:Nat} {v:Value} {ps:List Pr} (h:OwnP w B v ps) (hb:Below w.heap.size w w'):OwnP w' B v ps:=h.kept (row:=none) (grownBy_below hb) (fun _ e=>by cases e)
theorem OwnP.nil (w:World) (B:Nat):OwnP w B (.slice none 0 0) []:=World.ownsRow_nil w B _ 2
theorem OwnP.form {w:World} {B:Nat} {v:Value} {ps:List Pr} (h:OwnP w B v ps):∃x c,v=.slice x ps.length c/\ps.length<=c/\c<=maxLen:=h.rd.form
theorem pair_info:(Tryz.prog.info? 152).map (fun i=>(i.zero,i.size,i.bytes))=some (some (.agg #[.int .i64 0,.int .i64 0]),2,16):=by kernel_rfl
theorem pair_empty (w:World) (B:Nat) (hB:B<=w.heap.size):OwnP (w.alloc (.cells #[] 152)) B (.slice (some ⟨w.heap.size,0,none⟩) 0 0) []:=
 World.ownsRow_lit (base:=B) (e:=152) (size:=2) w #[] 0 hB (by simp[maxLen]) (by simp)
def Box2 (W:World) (b:Nat) (t:TypeId) (x y:Value):Prop:=W.heap[b]? =some (.cells #[x,y] t (0,0))
section
variable {W W':World} {b:Nat} {t:TypeId} {x y:Value}
theorem Box2.lt (h:Box2 W b t x y):b<W.heap.size:=(Array.getElem?_eq_some_iff.1 h).1
theorem Box2.new (W:World) (t:TypeId) (x y:Value):Box2 (W.alloc (.cells #[x,y] t)) W.heap.size t x y:=heap_alloc_new W _
theorem Box2.below (h:Box2 W b t x y) {B:Nat} (hb:Below B W W') (hB:b<B):Box2 W' b t x y:=(hb.block b hB).trans h
theorem Box2.later (h:Box2 W b t x y) (hb:Below W.heap.size W W'):Box2 W' b t x y:=h.below hb h.lt
theorem Box2.drew (h:Box2 W b t x y):Box2 W.drew b t x y:=h
theorem Box2.alloc (h:Box2 W b t x y) (o:Obj):Box2 (W.alloc o) b t x y:=h.later ((Below.refl _ _).alloc lr_ o)
theorem Box2.kept {row:Option Nat} (h:Box2 W b t x y) (hg:W.grownBy W' row) (hr:row≠some b):Box2 W' b t x y:=(hg.block b h.lt (fun e=>hr e.symm)).trans h
theorem Box2.cell0 (h:Box2 W b t x y):W.cell? ⟨b,0,none⟩=some x:=by unfold Box2 at h;simp[World.cell?,h]
theorem Box2.cell1 (h:Box2 W b t x y):W.cell? ⟨b,1,none⟩=some y:=by unfold Box2 at h;simp[World.cell?,h]
theorem Box2.free (h:Box2 W b t x y) (i:Nat):W.frozen? ⟨b,i,none⟩=false:=by unfold Box2 at h;simp[World.frozen?,h]
theorem Box2.set0 (h:Box2 W b t x y) (u:Value):Box2 (W.setCell ⟨b,0,none⟩ u) b t u y:=by unfold Box2 at h ⊢;rw[heap_setCell_same W b 0 _ _ _ h];rfl
theorem Box2.set1 (h:Box2 W b t x y) (u:Value):Box2 (W.setCell ⟨b,1,none⟩ u) b t x u:=by unfold Box2 at h ⊢;rw[heap_setCell_same W b 1 _ _ _ h];rfl
theorem Box2.set (h:Box2 W b t x y) (x' y':Value):Box2 ((W.setCell ⟨b,0,none⟩ x').setCell ⟨b,1,none⟩ y') b t x' y':=(h.set0 x').set1 y'
theorem Box2.not_row {B:Nat} {e:TypeId} {size n:Nat} {v:Value} {xs:List Value} (h:Box2 W b t x y) (ht:t≠e) (ho:W.ownsRow B e size v n xs):v.ownBlock≠some b:=fun hb=>by
 rcases ho.2 with ⟨rfl,_⟩|⟨g,cap,cur,rfl,_,hg,_⟩
 ·cases hb
 ·obtain rfl:g=b:=by simpa[Value.ownBlock]using hb
  unfold Box2 at h;rw[hg]at h;cases h;exact ht rfl
end
theorem below_set2 {B b:Nat} {w W:World} (h:Below B w W) (hb:B<=b) (x y:Value):Below B w ((W.setCell ⟨b,0,none⟩ x).setCell ⟨b,1,none⟩ y):=(h.setCell hb _).setCell hb _
theorem OwnP.set2 {W:World} {B b:Nat} {v:Value} {ps:List Pr} (h:OwnP W B v ps) (hv:v.ownBlock≠some b) (x y:Value):OwnP ((W.setCell ⟨b,0,none⟩ x).setCell ⟨b,1,none⟩ y) B v ps:=
 (h.keep (grownBy_setCell W ⟨b,0,none⟩ x) hv).keep (grownBy_setCell _ ⟨b,1,none⟩ y) hv
theorem int_info:(Tryz.prog.info? 3).map (fun i=>(i.zero,i.size,i.bytes))=some (some (.int .i64 0),1,8):=by kernel_rfl
def OwnI (w:World) (B:Nat) (v:Value) (zs:List Int):Prop:=w.ownsRow B 3 1 v zs.length (ints zs)
theorem OwnI.kept {w w':World} {B:Nat} {v:Value} {zs:List Int} {row:Option Nat} (h:OwnI w B v zs) (hg:w.grownBy w' row) (hr:∀k,row=some k->k<B):OwnI w' B v zs:=by
 refine World.ownsRow.kept h hg ?_;cases hv:v.ownBlock with
 |none=>exact .inl rfl
 |some k=>exact .inr (fun e=>by have:=(World.ownsRow.lt h k hv).1;have:=hr k e.symm;omega)
theorem OwnI.below {w w':World} {B:Nat} {v:Value} {zs:List Int} (h:OwnI w B v zs) (hb:Below w.heap.size w w'):OwnI w' B v zs:=h.kept (row:=Option.none) (grownBy_below hb) (fun _ e=>by cases e)
theorem ints_set (zs:List Int) (k:Nat) (x:Int):(ints zs).set k (.int .i64 x)=ints (zs.set k x):=by simp[ints,List.map_set]
def RowI (w:World) (B g n c:Nat) (zs:List Int):Prop:=zs.length=n/\w.ownsRow B 3 1 (.slice (some ⟨g,0,none⟩) n c) n (ints zs)
section
variable {w w':World} {B g n c:Nat} {zs:List Int}
theorem RowI.own (h:RowI w B g n c zs):OwnI w B (.slice (some ⟨g,0,none⟩) n c) zs:=by unfold OwnI;rw[h.1];exact h.2
theorem RowI.cell (h:RowI w B g n c zs) {i:Nat} (hi:i<n):w.cell? ⟨g,i,none⟩=some (.int .i64 (zs.getD i 0)):=by
 rw[h.2.cellAt i (by omega)];exact ints_get _ _ (by rw[h.1];exact hi)
theorem RowI.free (h:RowI w B g n c zs) (i:Nat):w.frozen? ⟨g,i,none⟩=false:=h.2.frozenAt i
theorem RowI.set (h:RowI w B g n c zs) (i:Nat) (x:Int):RowI (w.setCell ⟨g,i,none⟩ (.int .i64 x)) B g n c (zs.set i x):=by
 have hs:=(h.2.stored i (.int .i64 x)).1;rw[ints_set]at hs;exact⟨by simpa using h.1,hs⟩
theorem RowI.grown (h:RowI w B g n c zs) (i:Nat) (x:Int):w.grownBy (w.setCell ⟨g,i,none⟩ (.int .i64 x)) (some g):=(h.2.stored i (.int .i64 x)).2
theorem RowI.below (h:RowI w B g n c zs) (hb:Below w.heap.size w w'):RowI w' B g n c zs:=by
 have h2:=h.own.below hb;unfold OwnI at h2;rw[h.1]at h2;exact⟨h.1,h2⟩
theorem RowI.drewN (h:RowI w B g n c zs) (k:Nat):RowI (w.drewN k) B g n c zs:=h
theorem RowI.lt (h:RowI w B g n c zs):B<=g/\g<w.heap.size:=World.ownsRow.lt h.2 g rfl
end
theorem made_ints (w:World) (n:Nat) (hn:n<=1048576):RowI (w.alloc (.cells (madeCells #[.int .i64 0] n) 3)) w.heap.size w.heap.size n n (List.replicate n 0):=by
 have:=World.ownsRow_lit (base:=w.heap.size) (e:=3) (size:=1) w (madeCells #[.int .i64 0] n) n lr_ (by unfold maxLen;omega) (by rw[size_madeCells];omega);rw[toList_madeCells_one]at this;exact⟨by simp,by simpa[ints]using this⟩
def dblL:Nat->Int->Int
 | 0,x=>x
 |f+1,x=>if x<64 then dblL f (2 * x)else x
def dblH:Nat->Int->Int->Int
 | 0,_,h=>h
 |f+1,x,h=>if x<64 then dblH f (2 * x) (2 * h+1)else h
def lowT (a:Int):Int:=dblL 7 a - 64
def highT (a:Int):Int:=dblH 7 a a - 64
theorem span_all:∀n:Nat,n<127->(0<=lowT ((n:Int)+1)/\lowT ((n:Int)+1)<=highT ((n:Int)+1)/\highT ((n:Int)+1)<=63)/\(63<=n->lowT ((n:Int)+1)=(n:Int)+1 - 64/\highT ((n:Int)+1)=(n:Int)+1 - 64)/\
  (n<63->lowT (2 * ((n:Int)+1))=lowT ((n:Int)+1)/\highT (2 * ((n:Int)+1))+1=lowT (2 * ((n:Int)+1)+1)/\highT (2 * ((n:Int)+1)+1)=highT ((n:Int)+1)/\highT (2 * ((n:Int)+1)) - lowT (2 * ((n:Int)+1))=highT ((n:Int)+1) - highT (2 * ((n:Int)+1)) - 1):=by decide+kernel
def sumP (ps:List Pr):Int:=(ps.map (·.2)).sum
theorem sumP_append (ps qs:List Pr):sumP (ps++qs)=sumP ps+sumP qs:=by simp[sumP]
theorem take_succ_pr (ps:List Pr) (k:Nat) (h:k<ps.length):ps.take (k+1)=ps.take k++[pr ps k]:=by
 rw[List.take_succ_eq_append_getElem h];simp[pr,h]
theorem sumP_succ (ps:List Pr) (k:Nat) (h:k<ps.length):sumP (ps.take (k+1))=sumP (ps.take k)+(pr ps k).2:=by
 rw[take_succ_pr ps k h,sumP_append];simp[sumP]
def KnG (ps:List Pr) (all:Int) (i:Nat):Prop:=((1<=(pr ps i).1/\(pr ps i).1<=127)/\1<=(pr ps i).2/\(pr ps i).2<=2000)/\(0<i->(pr ps (i - 1)).1<(pr ps i).1)/\((pr ps i).1<64->(pr ps i).2<=all / 8)
instance (ps:List Pr) (all:Int) (i:Nat):Decidable (KnG ps all i):=by unfold KnG;infer_instance
def RankP (ps:List Pr) (all:Int):Prop:=(0<=all/\all<=2000)/\(∀i,i<ps.length->KnG ps all i)/\sumP ps=all
instance (ps:List Pr) (all:Int):Decidable (RankP ps all):=by unfold RankP;infer_instance
def rankB (ps:List Pr) (all:Int):Bool:=decide (RankP ps all)
theorem rankB_iff (ps:List Pr) (all:Int):rankB ps all=true↔RankP ps all:=by simp[rankB]
theorem rankB_no {ps:List Pr} {all:Int} (h:¬RankP ps all):rankB ps all=false:=by simpa[rankB]using h
theorem knG_at {ps:List Pr} {all:Int} {k:Nat} (h:∀i,i<k->KnG ps all i):∀i,i<k->(i:Int)+1<=(pr ps i).1:=fun i hi=>by
 induction i with
 |zero=>have:=(h 0 hi).1.1.1;omega
 |succ i ih=>
  have:=ih (by omega);have:=(h (i+1) hi).2.1 (by omega);simp only[Nat.add_sub_cancel]at this;omega
theorem knG_few {ps:List Pr} {all:Int} {k:Nat} (h:∀i,i<k->KnG ps all i):k<=127:=by
 cases k with
 |zero=>omega
 |succ k=>
  have:=knG_at h k (by omega);have:=(h k (by omega)).1.1.2;omega
theorem sumK_bd {ps:List Pr} {all:Int} {k:Nat} (hk:k<=ps.length) (h:∀i,i<k->KnG ps all i):0<=sumP (ps.take k)/\sumP (ps.take k)<=2000 * k:=by
 induction k with
 |zero=>simp[sumP]
 |succ k ih=>
  have:=ih (by omega) (fun i hi=>h i (by omega));have g:=(h k (by omega)).1.2;rw[sumP_succ ps k (by omega)];omega
theorem spRankOk_in (w:World) (x:Option Addr) (n c:Nat) (ps:List Pr) (all:Int) (hl:ps.length=n) (hp:Prs w (.slice x n c) ps) (hn:n<=maxLen):
  Calls Tryz.prog 222 #[.agg #[.slice x n c,.int .i64 all]] w fun e w'=>e=.returned (.bool (rankB ps all))/\Below w.heap.size w w':=by
 unfold maxLen at hn;have HPR:=hd_ hp;have HP:=hd_ hp.cells;have HL:=hd_ hl;obtain⟨W,hW⟩:∃W,W=w.alloc (.cells #[.slice x n c,.int .i64 all] 44):=⟨_,rfl⟩
 have hA:Below w.heap.size w W:=by rw[hW];exact (Below.refl w.heap.size w).alloc lr_ _
 have sW:W.heap.size=w.heap.size+1:=by rw[hW];simp
 have X:Box2 W w.heap.size 44 (.slice x n c) (.int .i64 all):=by rw[hW];exact Box2.new _ _ _ _
 have HA:=hd_ hA;have HS:=hd_ sW;have HX:=hd_ X;have x0:=X.cell0;have x1:=X.cell1;clear hl hp hA sW X
 by_cases ha:all<0\/2000<all
 ·have bd:Hid (rankB ps all=false):=rankB_no (fun q=>by have:=q.1;omega)
  go_enter Tryz.func222,Tryz.ntmps222
  go_wp2_with fail
  rw[<-hW];clear hW;refine (l6In_no _ _ _ _ ha).mono ?_;rintro e w' ⟨rfl,rfl⟩;go_wp2;go_ret;exact⟨ret_bool bd.out.symm,HA.out⟩
 have ha0:0<=all:=by omega
 have ha1:all<=2000:=by omega
 have hD:all.tdiv 8=all / 8:=Int.tdiv_eq_ediv_of_nonneg ha0;obtain⟨D,hDD⟩:∃D,D=all / 8:=⟨_,rfl⟩
 rw[<-hDD]at hD;have HDD:=hd_ hDD;have d0:0<=D:=by omega
 have d1:D<=250:=by omega
 clear hDD;go_enter Tryz.func222,Tryz.ntmps222
 go_wp2_with fail
 rw[<-hW];clear hW;refine (l6In_yes _ _ _ _ ha0 ha1).mono ?_;rintro e w' ⟨rfl,rfl⟩;go_wp2;go_loopw [3,4] (fun q i wr=>∃k:Nat,k<=n/\i=.int .i64 k/\q=.int .i64 (sumP (ps.take k))/\(∀i,i<k->KnG ps all i)/\Below (w.heap.size+1) W wr) (fun _ i _=>n - (intOf i).toNat)
 case atStart=>exact⟨0,Nat.zero_le _,rfl,rfl,fun _ h=>absurd h (Nat.not_lt_zero _),Below.refl _ _⟩
 case round=>
  obtain⟨k,hk,rfl,rfl,hg,hbl⟩:=hrel;have G:=hd_ hg;have HB:=hd_ hbl;have kf:=knG_few hg;have hsb:=sumK_bd (by rw[HL.out];exact hk) hg;have hX1:=HX.out.below HB.out (Nat.lt_succ_self _);have cw0:=hX1.cell0;have cw1:=hX1.cell1;have FIN:=hd_ (HA.out.trans (HB.out.mono (Nat.le_succ _)));have sw:w.heap.size+1<=wr.heap.size:=by have:=HB.out.size;have:=HS.out;omega
  by_cases hlt:k<n
  ·obtain⟨b,o,rfl,hb,h1,h2⟩:=HP.out k (by rw[HL.out];exact hlt)
   have tr:∀j v,w.cell? ⟨b,j,none⟩=some v->wr.cell? ⟨b,j,none⟩=some v:=fun j v h=>by
    rw[HB.out.cell (p:=⟨b,j,none⟩) (by show b<_;omega),HA.out.cell (p:=⟨b,j,none⟩) hb];exact h
   have TR:=hd_ tr;replace h1:=tr _ _ h1;replace h2:=tr _ _ h2;have lb:b<wr.heap.size:=by omega
   have HQ:Hid (KnG ps all k↔(((1<=(pr ps k).1/\(pr ps k).1<=127)/\1<=(pr ps k).2/\(pr ps k).2<=2000)/\(0<k->(pr ps (k - 1)).1<(pr ps k).1)/\((pr ps k).1<64->(pr ps k).2<=all / 8))):=Iff.rfl;rw[<-HDD.out]at HQ;have bad:Hid (¬KnG ps all k->rankB ps all=false):=fun h=>rankB_no (fun q=>h (q.2.1 k (by rw[HL.out];exact hlt)))
   have hs:=hd_ (sumP_succ ps k (by rw[HL.out];exact hlt));generalize pr ps k=q at h1 h2 HQ hs;obtain⟨t,m⟩:=q;have k0:(0:Int)<=(k:Int):=by omega
   have kn:(k:Int)<(n:Int):=by omega
   -- the world with this round's box
   obtain⟨wk,hwk⟩:∃wk,wk=wr.alloc (.cells #[.int .i64 t,.int .i64 m] 152):=⟨_,rfl⟩
   have hK:Below wr.heap.size wr wk:=by rw[hwk];exact (Below.refl _ _).alloc lr_ _
   have bK:Box2 wk wr.heap.size 152 (.int .i64 t) (.int .i64 m):=by rw[hwk];exact Box2.new _ _ _ _
   have y0:=bK.cell0;have y1:=bK.cell1;have yX:=hX1.later hK;have xk0:=yX.cell0;have xk1:=yX.cell1;have HB2:=hd_ (HB.out.trans (hK.mono sw));have FIN2:=hd_ (FIN.out.trans (hK.mono FIN.out.size));have HK:=hd_ hK;generalize hSS:sumP (ps.take k)=S at *;clear hg hbl tr hX1 bK yX hSS hK
   go_wp2_with fail
   rw[<-hwk];clear hwk
   by_cases ht:t<1\/127<t
   ·skip
    have bd:=hd_ (bad.out (fun q=>by have:=(HQ.out.1 q).1.1;(try simp at this);omega));clear HQ bad
    go_quiet (first|(with_reducible exact quiet_same' (l6In_no _ _ _ _ ht)))
    go_wp2;go_ret;exact⟨ret_bool bd.out.symm,below_drewN FIN2.out _⟩
   have ht0:1<=t:=by omega
   have ht1:t<=127:=by omega
   by_cases hm:m<1\/2000<m
   ·skip
    have bd:=hd_ (bad.out (fun q=>by have:=(HQ.out.1 q).1.2;(try simp at this);omega));clear HQ bad
    go_quiet (first|(with_reducible exact quiet_same' (l6In_yes _ _ _ _ ht0 ht1))|(with_reducible exact quiet_same' (l6In_no _ _ _ _ hm)))
    go_wp2;go_ret;exact⟨ret_bool bd.out.symm,below_drewN FIN2.out _⟩
   have hm0:1<=m:=by omega
   have hm1:m<=2000:=by omega
   rcases Nat.eq_zero_or_pos k with h0|h0
   ·subst h0
    by_cases h64:t<64
    ·have e64:decide (t<64)=true:=decide_eq_true h64
     by_cases hD8:D<m
     ·have eD:decide (D<m)=true:=decide_eq_true hD8
      have bd:=hd_ (bad.out (fun q=>by have:=(HQ.out.1 q).2.2 h64;(try simp at this);omega));clear HQ bad
      go_quiet (first|(with_reducible exact quiet_same' (l6In_yes _ _ _ _ ht0 ht1))|(with_reducible exact quiet_same' (l6In_yes _ _ _ _ hm0 hm1)))
      go_wp2;go_ret;exact⟨ret_bool bd.out.symm,below_drewN FIN2.out _⟩
     ·have eD:decide (D<m)=false:=decide_eq_false hD8
      have good:=hd_ (HQ.out.2 ⟨⟨⟨ht0,ht1⟩,hm0,hm1⟩,fun h=>absurd h (Nat.lt_irrefl _),fun _=>by (try simp);omega⟩);clear HQ bad
      go_quiet (first|(with_reducible exact quiet_same' (l6In_yes _ _ _ _ ht0 ht1))|(with_reducible exact quiet_same' (l6In_yes _ _ _ _ hm0 hm1)))
      go_wp2;go_roundw
      case rel=>exact⟨0+1,by omega,by go_num,by rw[hs.out],fun i hi=>by
              by_cases h:i<0
              · exact G.out i h
              · obtain rfl:i=0:=by omega
                exact good.out,below_drewN HB2.out _⟩
      case measure=>simp[intOf];omega
    ·have e64:decide (t<64)=false:=decide_eq_false h64
     have good:=hd_ (HQ.out.2 ⟨⟨⟨ht0,ht1⟩,hm0,hm1⟩,fun h=>absurd h (Nat.lt_irrefl _),fun h=>absurd h h64⟩);clear HQ bad
     go_quiet (first|(with_reducible exact quiet_same' (l6In_yes _ _ _ _ ht0 ht1))|(with_reducible exact quiet_same' (l6In_yes _ _ _ _ hm0 hm1)))
     go_wp2;go_roundw
     case rel=>exact⟨0+1,by omega,by go_num,by rw[hs.out],fun i hi=>by
            by_cases h:i<0
            · exact G.out i h
            · obtain rfl:i=0:=by omega
              exact good.out,below_drewN HB2.out _⟩
     case measure=>simp[intOf];omega
   ·obtain⟨j,rfl⟩:∃j,k=j+1:=⟨k - 1,by omega⟩
    obtain⟨b',o',e',hb',h3,_⟩:=HP.out j (by rw[HL.out];omega);cases e';replace h3:=(HK.out.cell (p:=⟨b,o+j * 2,none⟩) lb).trans (TR.out _ _ h3);rw[Nat.add_sub_cancel]at HQ;generalize pr ps j=q' at h3 HQ;obtain⟨t',m'⟩:=q';have p0:(0:Int)<((j+1:Nat):Int):=by omega
    have e1:((j+1:Nat):Int) - 1=(j:Int):=by omega
    have j0:(0:Int)<=(j:Int):=by omega
    have jn:(j:Int)<(n:Int):=by omega
    by_cases hyx:t<=t'
    ·have hd:decide (t<=t')=true:=decide_eq_true hyx
     have bd:=hd_ (bad.out (fun q=>by have:=(HQ.out.1 q).2.1 h0;(try simp at this);omega));clear HQ bad
     go_quiet (first|(with_reducible exact quiet_same' (l6In_yes _ _ _ _ ht0 ht1))|(with_reducible exact quiet_same' (l6In_yes _ _ _ _ hm0 hm1)))
     go_wp2;go_ret;exact⟨ret_bool bd.out.symm,below_drewN FIN2.out _⟩
    have hd:decide (t<=t')=false:=decide_eq_false hyx
    by_cases h64:t<64
    ·have e64:decide (t<64)=true:=decide_eq_true h64
     by_cases hD8:D<m
     ·have eD:decide (D<m)=true:=decide_eq_true hD8
      have bd:=hd_ (bad.out (fun q=>by have:=(HQ.out.1 q).2.2 h64;(try simp at this);omega));clear HQ bad
      go_quiet (first|(with_reducible exact quiet_same' (l6In_yes _ _ _ _ ht0 ht1))|(with_reducible exact quiet_same' (l6In_yes _ _ _ _ hm0 hm1)))
      go_wp2;go_ret;exact⟨ret_bool bd.out.symm,below_drewN FIN2.out _⟩
     ·have eD:decide (D<m)=false:=decide_eq_false hD8
      have good:=hd_ (HQ.out.2 ⟨⟨⟨ht0,ht1⟩,hm0,hm1⟩,fun _=>by (try simp);omega,fun _=>by (try simp);omega⟩);clear HQ bad
      go_quiet (first|(with_reducible exact quiet_same' (l6In_yes _ _ _ _ ht0 ht1))|(with_reducible exact quiet_same' (l6In_yes _ _ _ _ hm0 hm1)))
      go_wp2;go_roundw
      case rel=>exact⟨(j+1)+1,by omega,by go_num,by rw[hs.out],fun i hi=>by
              by_cases h:i<(j+1)
              · exact G.out i h
              · obtain rfl:i=(j+1):=by omega
                exact good.out,below_drewN HB2.out _⟩
      case measure=>simp[intOf];omega
    ·have e64:decide (t<64)=false:=decide_eq_false h64
     have good:=hd_ (HQ.out.2 ⟨⟨⟨ht0,ht1⟩,hm0,hm1⟩,fun _=>by (try simp);omega,fun h=>absurd h h64⟩);clear HQ bad
     go_quiet (first|(with_reducible exact quiet_same' (l6In_yes _ _ _ _ ht0 ht1))|(with_reducible exact quiet_same' (l6In_yes _ _ _ _ hm0 hm1)))
     go_wp2;go_roundw
     case rel=>exact⟨(j+1)+1,by omega,by go_num,by rw[hs.out],fun i hi=>by
            by_cases h:i<(j+1)
            · exact G.out i h
            · obtain rfl:i=(j+1):=by omega
              exact good.out,below_drewN HB2.out _⟩
     case measure=>simp[intOf];omega
  ·obtain rfl:k=n:=by omega
   have e1:ps.take k=ps:=List.take_of_length_le (by rw[HL.out];exact Nat.le_refl _);rw[e1]at hsb ⊢;have HF:Hid (sumP ps=all->rankB ps all=true):=fun h=>(rankB_iff _ _).2 ⟨⟨ha0,ha1⟩,fun i hi=>G.out i (by rw[HL.out]at hi;exact hi),h⟩
   have HN:Hid (¬sumP ps=all->rankB ps all=false):=fun h=>rankB_no (fun q=>h q.2.2)
   generalize sumP ps=S at *;clear hg hbl hX1 e1
   by_cases he:S=all
   ·have fv:=hd_ (HF.out he)
    have e2:(S==all)=true:=by simpa using he
    go_wp2;go_ret;exact⟨ret_bool (by first|(rw[fv.out];done)|(rw[fv.out];simp[he])),FIN.out⟩
   ·have fv:=hd_ (HN.out he)
    have e2:(S==all)=false:=by simpa using he
    go_wp2;go_ret;exact⟨ret_bool (by first|(rw[fv.out];done)|(rw[fv.out];simp[he])),FIN.out⟩
theorem spRankOk_at (w:World) (u:Value) (ps:List Pr) (all:Int) (hp:Prs w u ps):
  Calls Tryz.prog 222 #[.agg #[u,.int .i64 all]] w fun e w'=>e=.returned (.bool (rankB ps all))/\Below w.heap.size w w':=by
 obtain⟨x,c,rfl,hc0,hc⟩:=hp.form;exact spRankOk_in w x _ c ps all rfl hp (by omega)
def addN (a:List Int) (p:Pr):List Int:=a.set p.1.toNat (a.getD p.1.toNat 0+p.2)
def numsV (ps:List Pr):List Int:=ps.foldl addN (List.replicate 128 0)
theorem numsV_len (ps:List Pr):(numsV ps).length=128:=by
 unfold numsV;have:∀(ps:List Pr) (a:List Int),a.length=128->(ps.foldl addN a).length=128:=by
  intro ps
  induction ps with
  |nil=>intro a h;exact h
  |cons p ps ih=>intro a h;exact ih _ (by simpa[addN]using h)
 exact this ps _ (by simp)
theorem numsV_succ (ps:List Pr) (k:Nat) (h:k<ps.length):numsV (ps.take (k+1))=addN (numsV (ps.take k)) (pr ps k):=by
 rw[take_succ_pr ps k h];simp[numsV]
def KnB (ps:List Pr):Prop:=∀i,i<ps.length->(0<=(pr ps i).1/\(pr ps i).1<=127)/\0<=(pr ps i).2/\(pr ps i).2<=2000
theorem numsV_bd {ps:List Pr} (h:KnB ps):∀k,k<=ps.length->∀i,0<=(numsV (ps.take k)).getD i 0/\(numsV (ps.take k)).getD i 0<=2000 * (k:Int):=by
 intro k
 induction k with
 |zero=>
  intro _ i;have e0:∀n,(List.replicate n (0:Int)).getD i 0=0:=fun n=>by
   by_cases hi:i<n<;>simp[hi]
  have e:=e0 128;show 0<=(List.replicate 128 (0:Int)).getD i 0/\(List.replicate 128 (0:Int)).getD i 0<=_
  rw[e];omega
 |succ k ih=>
  intro hk i;have h1:=ih (by omega) i;have h2:=ih (by omega) (pr ps k).1.toNat;have h3:=(h k (by omega)).2;rw[numsV_succ ps k (by omega)];unfold addN
  by_cases e:(pr ps k).1.toNat=i
  ·subst e
   by_cases hl:(pr ps k).1.toNat<(numsV (ps.take k)).length
   ·rw[List.getD_eq_getElem?_getD,List.getElem?_set_self hl]
    simp only[Option.getD_some];omega
   ·rw[List.set_eq_of_length_le (by omega)];omega
  ·have e1:((numsV (ps.take k)).set (pr ps k).1.toNat ((numsV (ps.take k)).getD (pr ps k).1.toNat 0+(pr ps k).2)).getD i 0=(numsV (ps.take k)).getD i 0:=by simp[e]
   rw[e1];omega
theorem l4Nums_in (w:World) (x:Option Addr) (n c:Nat) (ps:List Pr) (hl:ps.length=n) (hp:Prs w (.slice x n c) ps) (hn:n<=300) (hk:KnB ps):
  Calls Tryz.prog 228 #[.slice x n c] w fun e w'=>e=.returned (.slice (some ⟨w.heap.size,0,none⟩) 128 128)/\RowI w' w.heap.size w.heap.size 128 128 (numsV ps)/\Below w.heap.size w w':=by
 have hmk:∀w,(Instr.makeSlice 23 (.int .i64 128) (.int .i64 128)).run Tryz.prog w=.ok (.slice (some ⟨w.heap.size,0,none⟩) 128 128) (w.alloc (.cells (madeCells #[.int .i64 0] 128) 3)):=fun w=>
  run_make_row' (P:=Tryz.prog) 23 3 (.int .i64 0) 8 Tryz.underlying23 int_info rfl .i64 .i64 128 (by omega) (by omega) w
 have R0:=hd_ (made_ints w 128 (by omega));have HP:=hd_ hp.cells;have HL:=hd_ hl;have KB:=hd_ hk;clear hl hp hk;go_enter Tryz.func228,Tryz.ntmps228;go_wp2;go_loopw [4] (fun i wr=>∃k:Nat,k<=n/\i=.int .i64 k/\RowI wr w.heap.size w.heap.size 128 128 (numsV (ps.take k))/\Below w.heap.size w wr) (fun i _=>n - (intOf i).toNat)
 case atStart=>exact⟨0,Nat.zero_le _,rfl,R0.out,(Below.refl _ _).alloc lr_ _⟩
 case round=>
  obtain⟨k,hk,rfl,hrow,hbl⟩:=hrel;have HR:=hd_ hrow;have HB:=hd_ hbl
  by_cases hlt:k<n
  ·obtain⟨b,o,rfl,hb,h1,h2⟩:=HP.out k (by rw[HL.out];exact hlt)
   rw[<-HB.out.cell (p:=⟨b,o+k * 2,none⟩) hb]at h1;rw[<-HB.out.cell (p:=⟨b,o+k * 2+1,none⟩) hb]at h2;have g:=KB.out k (by rw[HL.out];exact hlt);have bd:=numsV_bd KB.out k (by rw[HL.out];omega);have hs:=hd_ (numsV_succ ps k (by rw[HL.out];exact hlt));generalize pr ps k=q at h1 h2 hs g;obtain⟨t,m⟩:=q;simp only at h1 h2 g;obtain⟨⟨t0,t1⟩,m0,m1⟩:=g;obtain⟨T,rfl⟩:∃T:Nat,t=(T:Int):=⟨t.toNat,by omega⟩
   have T1:(T:Int)<128:=by omega
   have bT:=bd T;have c0:=hrow.cell (i:=T) (by omega);have f0:=hrow.free T;unfold addN at hs;simp only[Int.toNat_natCast]at hs;generalize numsV (ps.take k)=N at *;obtain⟨V,hV⟩:∃V,V=N.getD T 0:=⟨_,rfl⟩
   rw[<-hV]at c0 bT hs;have k0:(0:Int)<=(k:Int):=by omega
   have kn:(k:Int)<(n:Int):=by omega
   have ws:IntKind.i64.wrap (V+m)=V+m:=IntWalk.i64_in _ (by omega);have r0:=cell_regrown c0;have r1:=cell_regrown h1;have r2:=cell_regrown h2;have gl:=hrow.lt.2;clear hrow hbl bd hV;go_wp2
   refine wp_region_last (C:=fun w'=>∃p:Regrown,w'=grow (redrawn wr p.d) p.os) 21 _ rfl rfl rfl (by kernel_rfl) (by kernel_rfl) (by kernel_rfl) (by kernel_rfl) (by kernel_rfl) ⟨⟨wr.drawn+1,#[]⟩,by rw[grow_empty];rfl⟩ ?_;simp only[List.take_succ_cons,List.take_zero]
   repeat (refine boxed_step (fun K hK=>?_);go_simp;first|(refine hK _ ?_;clear hK K)|(apply Exists.intro;refine⟨fun _=>?_,hK _ ?_⟩;(fail);clear hK K))
   refine boxed_nil ?_;intro _ hw';obtain⟨⟨dq,oq⟩,hw''⟩:=hw';subst hw'';have hb_w4:=below_regrown wr dq oq;obtain⟨w4,hq_w4⟩:∃x,x=grow (redrawn wr dq) oq:=⟨_,rfl⟩
   rw[<-hq_w4]at hb_w4 ⊢;clear hq_w4;have R4:=HR.out.below hb_w4;have d0:=R4.cell (i:=T) (by omega);have d1:=R4.free T;have RS:=hd_ (R4.set T (V+m));have B4:=hd_ (HB.out.trans (hb_w4.mono HB.out.size));clear R4 hb_w4 r0 r1 r2 c0 f0 h1 h2 ws;go_wp2;go_roundw
   case rel=>exact⟨k+1,by omega,by go_num,by rw[hs.out];exact RS.out,B4.out.setCell lr_ _⟩
   case measure=>simp[intOf];omega
  ·obtain rfl:k=n:=by omega
   have e1:ps.take k=ps:=List.take_of_length_le (by rw[HL.out];exact Nat.le_refl _);rw[e1]at HR;clear hrow hbl;go_wp2;go_ret;exact⟨rfl,HR.out,HB.out⟩
def sq1 (N:List Int) (D:Int) (j:Nat):List Int:=
 if 0<N.getD (2 * j) 0+N.getD (2 * j+1) 0/\N.getD (2 * j) 0+N.getD (2 * j+1) 0+N.getD j 0<=D then ((N.set j (N.getD j 0+(N.getD (2 * j) 0+N.getD (2 * j+1) 0))).set (2 * j) 0).set (2 * j+1) 0 else N
def sqz (N:List Int) (D:Int):Nat->List Int
 | 0=>N
 |s+1=>sq1 (sqz N D s) D (63 - s)
theorem sq1_len (N:List Int) (D:Int) (j:Nat):(sq1 N D j).length=N.length:=by unfold sq1;split<;>simp
theorem sqz_len (N:List Int) (D:Int) (s:Nat):(sqz N D s).length=N.length:=by
 induction s with
 |zero=>rfl
 |succ s ih=>rw[sqz,sq1_len,ih]
def BdN (N:List Int) (M:Int):Prop:=∀i,0<=N.getD i 0/\N.getD i 0<=M
theorem BdN.set {N:List Int} {M:Int} (h:BdN N M) (i:Nat) {x:Int} (h0:0<=x) (h1:x<=M):BdN (N.set i x) M:=fun j=>by
 have:=h j
 by_cases e:i=j
 ·subst e
  by_cases hl:i<N.length
  ·rw[List.getD_eq_getElem?_getD,List.getElem?_set_self hl];exact⟨h0,h1⟩
  ·rw[List.set_eq_of_length_le (by omega)];exact this
 ·have e1:(N.set i x).getD j 0=N.getD j 0:=by simp[e]
  rw[e1];exact this
theorem sq1_bd {N:List Int} {M D:Int} (h:BdN N M) (hD:D<=M) (hM:0<=M) (j:Nat):BdN (sq1 N D j) M:=by
 unfold sq1
 split
 ·rename_i hc
  have a:=h j;have b:=h (2 * j);have c:=h (2 * j+1);exact ((h.set j (by omega) (by omega)).set _ (Int.le_refl _) hM).set _ (Int.le_refl _) hM
 ·exact h
theorem sqz_bd {N:List Int} {M D:Int} (h:BdN N M) (hD:D<=M) (hM:0<=M) (s:Nat):BdN (sqz N D s) M:=by
 induction s with
 |zero=>exact h
 |succ s ih=>exact sq1_bd ih hD hM _
theorem l4Squeeze_at (w:World) (B g c:Nat) (N:List Int) (all M:Int) (h:RowI w B g 128 c N) (hb:BdN N M) (a0:0<=all) (hD:all / 8<=M) (hM:M<=10000000):
  Calls Tryz.prog 230 #[.slice (some ⟨g,0,none⟩) 128 c,.int .i64 all] w fun e w'=>e=.returned (.slice (some ⟨g,0,none⟩) 128 c)/\RowI w' B g 128 c (sqz N (all / 8) 63)/\w.grownBy w' (some g):=by
 have ht:all.tdiv 8=all / 8:=Int.tdiv_eq_ediv_of_nonneg a0;obtain⟨D,hDD⟩:∃D,D=all / 8:=⟨_,rfl⟩
 rw[<-hDD]at ht hD ⊢;have d0:0<=D:=by omega
 have HR0:=hd_ h;have HB0:=hd_ hb;clear h hb hDD;go_enter Tryz.func230,Tryz.ntmps230;go_wp2;go_loopw [5] (fun i wr=>∃(j I:Nat),j<=63/\I=2 * j/\i=.int .i64 I/\RowI wr B g 128 c (sqz N D (63 - j))/\w.grownBy wr (some g)) (fun i _=>(intOf i).toNat)
 case atStart=>exact⟨63,126,Nat.le_refl _,rfl,by first|rfl|go_num,HR0.out,grownBy_refl _ _⟩
 case round=>
  obtain⟨j,I,hj,hI,rfl,hrow,hgr⟩:=hrel;have HG:=hd_ hgr;clear hgr
  by_cases h1:1<=j
  ·have bd:=sqz_bd HB0.out hD (by omega) (63 - j)
   have hs:=hd_ (show sqz N D (63 - (j - 1))=sq1 (sqz N D (63 - j)) D j by rw[show 63 - (j - 1)=(63 - j)+1 by omega,sqz,show 63 - (63 - j)=j by omega]);generalize sqz N D (63 - j)=Z at *;obtain⟨I1,hI1⟩:∃I1:Nat,(I:Int)+1=(I1:Int):=⟨I+1,by omega⟩
   have hI2:I1=2 * j+1:=by omega
   have cI:=hrow.cell (i:=I) (by omega);have cI1:=hrow.cell (i:=I1) (by omega);have cJ:=hrow.cell (i:=j) (by omega);have fI:=hrow.free I;have fI1:=hrow.free I1;have fJ:=hrow.free j;have bI:=bd I;have bI1:=bd I1;have bJ:=bd j
   have HSQ:Hid (∀V0 V1 VJ:Int,V0=Z.getD I 0->V1=Z.getD I1 0->VJ=Z.getD j 0->sq1 Z D j=if 0<V0+V1/\V0+V1+VJ<=D then ((Z.set j (VJ+(V0+V1))).set I 0).set I1 0 else Z):=fun V0 V1 VJ e0 e1 e2=>by
    subst e0 e1 e2 hI2 hI;rfl
   obtain⟨V0,hV0⟩:∃V,V=Z.getD I 0:=⟨_,rfl⟩
   obtain⟨V1,hV1⟩:∃V,V=Z.getD I1 0:=⟨_,rfl⟩
   obtain⟨VJ,hVJ⟩:∃V,V=Z.getD j 0:=⟨_,rfl⟩
   have SQ:=hd_ (HSQ.out V0 V1 VJ hV0 hV1 hVJ);rw[<-hV0]at cI bI;rw[<-hV1]at cI1 bI1;rw[<-hVJ]at cJ bJ;have HR:=hd_ hrow;have q2:(I:Int).tdiv 2=(j:Int):=by rw[Int.tdiv_eq_ediv_of_nonneg (by omega)];omega
   have i0:(0:Int)<=(I:Int):=by omega
   have i1:(I:Int)<128:=by omega
   have i2:(2:Int)<=(I:Int):=by omega
   have i3:(I1:Int)<128:=by omega
   have j0:(j:Int)<128:=by omega
   have w1:IntKind.i64.wrap (V0+V1)=V0+V1:=IntWalk.i64_in _ (by omega);have w2:IntKind.i64.wrap (V0+V1+VJ)=V0+V1+VJ:=IntWalk.i64_in _ (by omega);have w3:IntKind.i64.wrap (VJ+(V0+V1))=VJ+(V0+V1):=IntWalk.i64_in _ (by omega);have HI:=hd_ hI;have HI2:=hd_ hI2;clear hV0 hV1 hVJ HSQ bd hrow hI hI2
   by_cases c1:0<V0+V1
   ·by_cases c2:V0+V1+VJ<=D
    ·have e:=hd_ (SQ.out.trans (if_pos ⟨c1,c2⟩))
     have ne1:I≠j:=by have:=HI.out;omega
     have ne2:I1≠j:=by have:=HI2.out;omega
     have ne3:I1≠I:=by have:=HI2.out;have:=HI.out;omega
     have RA:=fun q=>(HR.out.drewN q).set j (VJ+(V0+V1))
     have RB:=fun q=>(RA q).set I 0
     have RC:=hd_ (fun q=>(RB q).set I1 0);have GC:=hd_ (fun q=>grownBy_trans (grownBy_drewN HG.out q) (grownBy_trans ((HR.out.drewN q).grown j (VJ+(V0+V1))) (grownBy_trans ((RA q).grown I 0) ((RB q).grown I1 0))));clear RA RB;go_wp2
     go_quiet (fail)
     go_wp2;go_roundw
     case rel=>exact⟨j - 1,I - 2,by omega,by have:=HI.out;omega,by congr 1;omega,by rw[hs.out,e.out];exact RC.out _,GC.out _⟩
     case measure=>simp[intOf];omega
    ·have e:=hd_ (SQ.out.trans (if_neg (fun h=>c2 h.2)))
     go_wp2
     go_quiet (fail)
     go_wp2;go_roundw
     case rel=>exact⟨j - 1,I - 2,by omega,by have:=HI.out;omega,by congr 1;omega,by rw[hs.out,e.out];exact HR.out.drewN _,grownBy_drewN HG.out _⟩
     case measure=>simp[intOf];omega
   ·have e:=hd_ (SQ.out.trans (if_neg (fun h=>c1 h.1)))
    go_wp2
    go_quiet (fail)
    go_wp2;go_roundw
    case rel=>exact⟨j - 1,I - 2,by omega,by have:=HI.out;omega,by congr 1;omega,by rw[hs.out,e.out];exact HR.out.drewN _,grownBy_drewN HG.out _⟩
    case measure=>simp[intOf];omega
  ·obtain rfl:j=0:=by omega
   obtain rfl:I=0:=by omega
   have HR:=hd_ hrow;clear hrow hI h1 hj;go_wp2;go_ret;exact⟨rfl,HR.out,HG.out⟩
theorem cell_two_new (w:World) (x y:Value) (t:TypeId):∀j u,[x,y][j]? =some u->(w.alloc (.cells #[x,y] t)).cell? ((⟨w.heap.size,0,none⟩:Addr).add j)=some u:=by
 intro j u hj
 match j,hj with
 | 0,hj=>simp at hj;subst hj;simp[Addr.add]
 | 1,hj=>simp at hj;subst hj;simp[Addr.add]
theorem own_snocP {w:World} {B no:Nat} {v:Value} {os:List Pr} {t m:Int} (h:w.ownsRow B 152 2 v (no+1) (prs os++[.int .i64 t,.int .i64 m])) (hn:no=os.length):OwnP w B v (os++[(t,m)]):=by
 unfold OwnP;rw[prs_snoc,List.length_append, <-hn];exact h
theorem below_appendP {B:Nat} {w wr w':World} {o:Obj} {e:TypeId} {size:Nat} {v:Value} {n:Nat} {xs:List Value} (hb:Below B w wr) (hB:B<=wr.heap.size) (ho:wr.ownsRow B e size v n xs) (hg:(wr.alloc o).grownBy w' v.ownBlock):Below B w w':=
 (hb.alloc hB o).grown hg (Nat.le_trans hB (by simp)) (fun k e=>(ho.lt k e).1)
def listK (N:List Int):Nat->List Pr
 | 0=>[]
 |k+1=>listK N k++if 0<N.getD (k+1) 0 then [(((k+1:Nat):Int),N.getD (k+1) 0)]else []
def listV (N:List Int):List Pr:=listK N 127
theorem listK_len (N:List Int) (k:Nat):(listK N k).length<=k:=by
 induction k with
 |zero=>exact Nat.le_refl _
 |succ k ih=>unfold listK;split<;>simp<;>omega
theorem l4List_at (w:World) (B g c:Nat) (N:List Int) (h:RowI w B g 128 c N):
  Calls Tryz.prog 229 #[.slice (some ⟨g,0,none⟩) 128 c] w fun e w'=>∃v,e=.returned v/\OwnP w' w.heap.size v (listV N)/\Below w.heap.size w w':=by
 obtain⟨i0,hi,hz0,hz1,hz2⟩:=info_parts pair_info;have HR:=hd_ h;have HG:=hd_ h.lt.2;have HE:=hd_ (pair_empty w w.heap.size lr_);clear h;go_enter Tryz.func229,Tryz.ntmps229;go_wp2
 go_loopw [3,4] (fun o i wr=>∃(k no:Nat) (x:Option Addr) (co:Nat),k<=127/\i=.int .i64 ((k+1:Nat):Int)/\o=.slice x no co/\no=(listK N k).length/\OwnP wr w.heap.size (.slice x no co) (listK N k)/\Below w.heap.size w wr) (fun _ i _=>128 - (intOf i).toNat)
 case atStart=>exact⟨0,0,_,_,Nat.zero_le _,by first|rfl|go_num,rfl,rfl,HE.out,(Below.refl _ _).alloc lr_ _⟩
 case round=>
  obtain⟨k,no,x,co,hk,rfl,rfl,hno,hown,hbl⟩:=hrel;have HB:=hd_ hbl;have szr:=hbl.size;have ho:wr.ownsRow w.heap.size 152 2 (.slice x no co) no (prs (listK N k)):=by have h:=hown;unfold OwnP at h;rw[<-hno]at h;exact h
  have HO:=hd_ ho;have HN:=hd_ hno;have ln:=listK_len N k;have nb:no<=127:=by omega
  have hs:=hd_ (show listK N (k+1)=listK N k++if 0<N.getD (k+1) 0 then [(((k+1:Nat):Int),N.getD (k+1) 0)]else []from rfl);have hfin:Hid (k=127->listK N k=listV N):=fun e=>by rw[e];rfl
  generalize listK N k=os at *;obtain⟨K,hK⟩:∃K,K=k+1:=⟨_,rfl⟩
  rw[<-hK]at hs ⊢;have HKK:=hd_ hK;clear hbl ho hno hown ln
  by_cases hlt:k<127
  ·have cN:=(HR.out.below (by have:=HB.out;exact this.mono lr_)).cell (i:=K) (by omega)
   obtain⟨V,hV⟩:∃V,V=N.getD K 0:=⟨_,rfl⟩
   rw[<-hV]at hs cN;have k0:(0:Int)<=(K:Int):=by omega
   have kn:(K:Int)<128:=by omega
   clear hV hK
   by_cases hp:0<V
   ·have e:=hd_ (hs.out.trans (by rw[if_pos hp]))
    go_wp2_with (first|(at_builtin;refine wpList_append_own _ rfl _ _ 42 rfl w.heap.size 152 i0 (.agg #[.int .i64 0,.int .i64 0]) 2 16 Tryz.underlying42 hi hz0 hz1 hz2 rfl (by decide) _ _ _ rfl (HO.out.alloc _) ⟨wr.heap.size,0,none⟩ 1 1 [.int .i64 K,.int .i64 V] rfl rfl (cell_two_new _ _ _ _) (by simp[Value.oneCell']) (by unfold maxLen;omega) (by omega) (by simp;omega) ?_;intro v1 w3 ho1 hg1 _;obtain⟨g_v1,c_v1,rfl,_,_⟩:=World.ownsRow.form ho1 (Nat.succ_pos _)))
    go_roundw
    case rel=>exact⟨K,no+1,_,_,by omega,by go_num,rfl,by rw[HKK.out, <-HKK.out,e.out];simp[HN.out],by rw[e.out];exact own_snocP ho1 HN.out,below_appendP HB.out szr HO.out hg1⟩
    case measure=>simp[intOf];omega
   ·have e:=hd_ (hs.out.trans (by rw[if_neg hp,List.append_nil]))
    have OW:Hid (OwnP wr w.heap.size (.slice x no co) os):=by show OwnP _ _ _ _;unfold OwnP;rw[<-HN.out];exact HO.out
    go_wp2;go_roundw
    case rel=>exact⟨K,no,_,_,by omega,by go_num,rfl,by rw[e.out];exact HN.out,by rw[e.out];exact OW.out,HB.out⟩
    case measure=>simp[intOf];omega
  ·have ef:=hd_ (hfin.out (by omega))
   clear hfin;obtain rfl:k=127:=by omega
   obtain rfl:K=128:=by omega
   have OW:Hid (OwnP wr w.heap.size (.slice x no co) os):=by show OwnP _ _ _ _;unfold OwnP;rw[<-HN.out];exact HO.out
   clear hK hlt hk;go_wp2;go_ret;exact⟨_,rfl,ef.out ▸ OW.out,HB.out⟩
def leastP:List Pr->Int->Int
 | [],_=>0
 |p::ps,t=>(if highT p.1<=t then p.2 else 0)+leastP ps t
def mostP:List Pr->Int->Int
 | [],_=>0
 |p::ps,t=>(if lowT p.1<=t then p.2 else 0)+mostP ps t
end Go.Proofs.YtcblbdpdbggkbaaGreat.K
set_option linter.unusedVariables false
namespace Go.Proofs.YtcblbdpdbggkbaaGreat.K
open Go.RowKit Go.Sort
theorem RankP.knB {ps:List Pr} {all:Int} (h:RankP ps all):KnB ps:=fun i hi=>by
 have:=(h.2.1 i hi).1;omega
theorem numsV_all {ps:List Pr} (h:KnB ps) (hl:ps.length<=300):BdN (numsV ps) 600000:=fun i=>by
 have:=numsV_bd h ps.length lr_ i;rw[List.take_of_length_le lr_]at this;omega
def doneK (N:List Int) (all:Int):List Pr:=listV (sqz N (all / 8) 63)
def addOkK (ps:List Pr) (all t:Int):Bool:=rankB ps all&&(decide (0<=t/\t<=63)&&decide (all<2000))
def addK (ps:List Pr) (all t:Int):List Pr × Int:=if addOkK ps all t then (doneK (addN (numsV ps) (64+t,1)) (all+1),all+1)else ([],0)
theorem addK_no {ps:List Pr} {all t:Int} (h:addOkK ps all t=false):addK ps all t=([],0):=by simp[addK,h]
theorem addK_yes {ps:List Pr} {all t:Int} (h:addOkK ps all t=true):addK ps all t=(doneK (addN (numsV ps) (64+t,1)) (all+1),all+1):=by simp[addK,h]
theorem addOkK_yes {ps:List Pr} {all t:Int} (h:addOkK ps all t=true):rankB ps all=true/\(0<=t/\t<=63)/\all<2000:=by
 unfold addOkK at h;simpa using h
theorem spRankAdd_yes (w:World) (u:Value) (ps:List Pr) (all t:Int) (hp:Prs w u ps) (hok:rankB ps all=true) (ht:0<=t/\t<=63) (ha:all<2000):
  Calls Tryz.prog 313 #[.agg #[u,.int .i64 all],.int .i64 t] w fun e w'=>∃v,e=.returned (.tuple #[.agg #[v,.int .i64 (all+1)],.bool true])/\OwnP w' w.heap.size v (doneK (addN (numsV ps) (64+t,1)) (all+1))/\Below w.heap.size w w':=by
 have RK:=(rankB_iff _ _).1 hok;have kf:=knG_few (k:=ps.length) RK.2.1;have kb:=RK.knB;have nb:=numsV_all kb (by omega);have ha0:=RK.1.1;obtain⟨W0,hW0⟩:∃W0,W0=(w.alloc (.cells #[u,.int .i64 all] 44)).alloc (.cells #[.slice none 0 0,.int .i64 0] 44):=⟨_,rfl⟩
 have hA:Below w.heap.size w W0:=by rw[hW0];exact ((Below.refl w.heap.size w).alloc lr_ _).alloc (by simp) _
 have X0:Box2 W0 w.heap.size 44 u (.int .i64 all):=by rw[hW0];exact (Box2.new _ _ _ _).alloc _
 have R0:Box2 W0 (w.heap.size+1) 44 (.slice none 0 0) (.int .i64 0):=by
  have h:=Box2.new (w.alloc (.cells #[u,.int .i64 all] 44)) 44 (.slice none 0 0) (.int .i64 0);rw[hW0];simpa using h
 have sW:W0.heap.size=w.heap.size+2:=by rw[hW0];simp
 have I0:=hd_ (hp.below hA lr_);have K:=hd_ (spRankOk_at W0 u ps all I0.out);rw[hok]at K;obtain⟨x,c,hu,_,_⟩:=hp.form;obtain⟨n,hn⟩:∃n,n=ps.length:=⟨_,rfl⟩
 rw[<-hn]at hu kf;have KN:Hid (∀W,Prs W (.slice x n c) ps->Calls Tryz.prog 228 #[.slice x n c] W fun e w'=>e=.returned (.slice (some ⟨W.heap.size,0,none⟩) 128 128)/\RowI w' W.heap.size W.heap.size 128 128 (numsV ps)/\Below W.heap.size W w'):=fun W h=>l4Nums_in W x n c ps hn.symm h (by omega) kb
 subst hu;obtain⟨T,hT⟩:∃T:Nat,(64:Int)+t=(T:Int):=⟨(64+t).toNat,by omega⟩
 have T1:(T:Int)<128:=by omega
 have T2:(64:Int)<=(T:Int):=by omega
 obtain⟨N,hN⟩:∃N,N=numsV ps:=⟨_,rfl⟩
 rw[<-hN]at KN nb;obtain⟨V,hV⟩:∃V,V=N.getD T 0:=⟨_,rfl⟩
 have bV:=nb T;rw[<-hV]at bV;have eN:addN (numsV ps) (64+t,1)=N.set T (V+1):=by
  unfold addN;simp only[hT,Int.toNat_natCast, <-hN, <-hV]
 rw[eN];have KQ:Hid (∀W B g c,RowI W B g 128 c (N.set T (V+1))->Calls Tryz.prog 230 #[.slice (some ⟨g,0,none⟩) 128 c,.int .i64 (all+1)] W fun e w'=>e=.returned (.slice (some ⟨g,0,none⟩) 128 c)/\RowI w' B g 128 c (sqz (N.set T (V+1)) ((all+1) / 8) 63)/\W.grownBy w' (some g)):=fun W B g c h=>
  l4Squeeze_at W B g c _ (all+1) 600001 h (BdN.set (fun i=>by have:=nb i;omega) T (by omega) (by omega)) (by omega) (by omega) (by omega)
 have HVV:=hd_ hV;have EL:Hid (listV (sqz (N.set T (V+1)) ((all+1) / 8) 63)=doneK (N.set T (V+1)) (all+1)):=by show _=_;unfold doneK;rfl
 obtain⟨Q,hQ⟩:∃Q,Q=sqz (N.set T (V+1)) ((all+1) / 8) 63:=⟨_,rfl⟩
 rw[<-hQ]at KQ EL;generalize doneK (N.set T (V+1)) (all+1)=ds at *;have HW0:=hd_ hW0;have HA:=hd_ hA;have HS:=hd_ sW;have x0:=X0.cell0;have x1:=X0.cell1;have KT:Hid (∀W,Calls Tryz.prog 66 #[.int .i64 t,.int .i64 0,.int .i64 63] W fun e w'=>e=.returned (.bool true)/\W=w'):=fun W=>l6In_yes t 0 63 W ht.1 ht.2
 clear hA hW0 hn hp hok RK kb nb eN hN hV hQ sW kf;go_enter Tryz.func313,Tryz.ntmps313
 go_wp2_with fail
 rw[<-HW0.out]
 go_wp2_with fail
 refine K.out.mono ?_;rintro e w1 ⟨rfl,hb1⟩;have X1:=X0.later hb1;have R1:=R0.later hb1;have B1:=hd_ (HA.out.trans (hb1.mono HA.out.size));have I1:=hd_ (I0.out.below hb1 lr_);have S1:w.heap.size+2<=w1.heap.size:=by have:=hb1.size;have:=HS.out;omega
 clear hb1 X0 R0 x0 x1 K HA I0;have x0:=X1.cell0;have x1:=X1.cell1
 go_wp2_with fail
 refine (KT.out _).mono ?_;rintro e w' ⟨rfl,rfl⟩;have hge:decide ((2000:Int)<=all)=false:=decide_eq_false (by omega);have HT:=hd_ (And.intro hT (And.intro T1 (And.intro T2 (And.intro bV (And.intro S1 (And.intro ha0 ht))))));clear hT T1 T2 bV S1 ha0 ht
 go_wp2_with fail
 obtain⟨hT,T1,T2,bV,S1,ha0,ht⟩:=HT.out;refine (KN.out w1 I1.out).mono ?_;rintro e w2 ⟨rfl,hr,hb2⟩;have X2:=X1.later hb2;have R2:=R1.later hb2;have B2:=hd_ (B1.out.trans (hb2.mono B1.out.size));have c0:=hr.cell (i:=T) (by omega);rw[<-HVV.out]at c0;have f0:=hr.free T;have RS:=hd_ (hr.set T (V+1));have gS:=grownBy_setCell w2 ⟨w1.heap.size,T,none⟩ (.int .i64 (V+1));have X3:=X2.kept gS (by simp;omega)
 have R3:=R2.kept gS (by simp;omega);have B3:Hid (Below w.heap.size w (w2.setCell ⟨w1.heap.size,T,none⟩ (.int .i64 (V+1)))):=hd_ (B2.out.setCell (by show w.heap.size<=w1.heap.size;omega) _);have ws0:IntKind.i64.wrap (V+1)=V+1:=IntWalk.i64_in _ (by omega);obtain⟨w3,hw3⟩:∃w3,w3=w2.setCell ⟨w1.heap.size,T,none⟩ (.int .i64 (V+1)):=⟨_,rfl⟩
 have l2:w1.heap.size<w2.heap.size:=hr.lt.2;have z3:w3.heap.size=w2.heap.size:=by rw[hw3];simp
 rw[<-hw3]at RS X3 R3 B3;clear hb2 hr x0 x1 X1 R1 X2 R2 gS
 go_wp2_with fail
 rw[<-hw3];clear hw3 c0 f0;have x0:=X3.cell0;have x1:=X3.cell1;have ws:IntKind.i64.wrap (all+1)=all+1:=IntWalk.i64_in _ (by omega);have KD:=hd_ (KQ.out w3.drew w1.heap.size w1.heap.size 128 (RS.out.drewN 1))
 go_region_with (first|(go_at_call 230;refine KD.out.mono ?_;rintro e w4 ⟨rfl,hr4,hg4⟩;have X4:=X3.drew.kept hg4 (by simp;omega);have y0:=X4.cell0;have y1:=X4.cell1;have R4:=R3.drew.kept hg4 (by simp;omega);have KE:=hd_ (l4List_at w4 w1.heap.size w1.heap.size 128 Q hr4))|(go_at_call 229;refine KE.out.mono ?_;rintro e w5 ⟨v,rfl,ho5,hb5⟩;rw[EL.out]at ho5;obtain⟨xz,cz,rfl,_,_⟩:=ho5.form;have R5:=R4.later hb5;have f2:=R5.free;have z0:=R5.cell0;have z1:=R5.cell1;have X5:=X4.later hb5;have q0:=X5.cell0;have q1:=X5.cell1))
 all_goals
  have RZ:=R5.set (.slice xz ds.length cz) (.int .i64 (all+1));have hr0:=RZ.cell0;have hr1:=RZ.cell1;have s4:w3.heap.size<=w4.heap.size:=hg4.size;have B4:=hd_ ((B3.out.trans (Below.drew (Below.refl _ _))).trans (below_grown hg4 (by show w.heap.size<=w1.heap.size;omega) (by show w.heap.size<=w3.heap.size;omega)))
  have OZ:=hd_ ((ho5.set2 (R5.not_row (by decide) ho5) (.slice xz ds.length cz) (.int .i64 (all+1))).base (B':=w.heap.size) (by omega));have BZ:=hd_ (below_set2 (b:=w.heap.size+1) (B4.out.trans (hb5.mono (by omega))) (Nat.le_succ _) (.slice xz ds.length cz) (.int .i64 (all+1)));clear ho5 hb5 hr4 hg4 X4 R4 X5 R5 RZ y0 y1 f2 z0 z1 q0 q1 s4 B4;go_wp2
  exact bodyPost_ret (v:=.tuple #[.agg #[.slice xz ds.length cz,.int .i64 (all+1)],.bool true]) (by simp[results,Tryz.results313,go_sem,hr0,hr1]) rfl ⟨_,rfl,OZ.out,BZ.out⟩
theorem spRankAdd_no (w:World) (u:Value) (ps:List Pr) (all t:Int) (hp:Prs w u ps) (hno:addOkK ps all t=false):
  Calls Tryz.prog 313 #[.agg #[u,.int .i64 all],.int .i64 t] w fun e w'=>e=.returned (.tuple #[.agg #[.slice none 0 0,.int .i64 0],.bool false])/\Below w.heap.size w w':=by
 obtain⟨W0,hW0⟩:∃W0,W0=(w.alloc (.cells #[u,.int .i64 all] 44)).alloc (.cells #[.slice none 0 0,.int .i64 0] 44):=⟨_,rfl⟩
 have hA:Below w.heap.size w W0:=by rw[hW0];exact ((Below.refl w.heap.size w).alloc lr_ _).alloc (by simp) _
 have X0:Box2 W0 w.heap.size 44 u (.int .i64 all):=by rw[hW0];exact (Box2.new _ _ _ _).alloc _
 have R0:Box2 W0 (w.heap.size+1) 44 (.slice none 0 0) (.int .i64 0):=by
  have h:=Box2.new (w.alloc (.cells #[u,.int .i64 all] 44)) 44 (.slice none 0 0) (.int .i64 0);rw[hW0];simpa using h
 have K:=hd_ (spRankOk_at W0 u ps all (hp.below hA lr_));obtain⟨x,c,hu,_,_⟩:=hp.form;obtain⟨n,hn⟩:∃n,n=ps.length:=⟨_,rfl⟩
 rw[<-hn]at hu;subst hu;have HW0:=hd_ hW0;have HA:=hd_ hA;have x0:=X0.cell0;have x1:=X0.cell1;have HY:Hid (rankB ps all=true->(t<0\/63<t)\/((0<=t/\t<=63)/\2000<=all)):=fun h=>by
  unfold addOkK at hno;rw[h]at hno;simp at hno;omega
 have END:Hid (∀w1,Below W0.heap.size W0 w1->Box2 w1 (w.heap.size+1) 44 (.slice none 0 0) (.int .i64 0)/\Below w.heap.size w ((w1.setCell ⟨w.heap.size+1,0,none⟩ (.slice none 0 0)).setCell ⟨w.heap.size+1,1,none⟩ (.int .i64 0))):=fun w1 h=>
  ⟨R0.later h,below_set2 (b:=w.heap.size+1) (hA.trans (h.mono hA.size)) (Nat.le_succ _) (.slice none 0 0) (.int .i64 0)⟩
 generalize rankB ps all=ok at K HY;clear hA hW0 hn hp hno;cases ok with
 |false=>
  clear HY;go_enter Tryz.func313,Tryz.ntmps313
  go_wp2_with fail
  rw[<-HW0.out]
  go_wp2_with fail
  refine K.out.mono ?_;rintro e w1 ⟨rfl,hb1⟩;obtain⟨R1,hl⟩:=END.out w1 hb1;have BZ:=hd_ hl;have z0:=R1.cell0;have z1:=R1.cell1;have f2:=R1.free;have RZ:=R1.set (.slice none 0 0) (.int .i64 0);have hr0:=RZ.cell0;have hr1:=RZ.cell1;clear R1 RZ x0 x1 X0 R0 hb1 hl;go_wp2
  exact bodyPost_ret (v:=.tuple #[.agg #[.slice none 0 0,.int .i64 0],.bool false]) (by simp[results,Tryz.results313,go_sem,hr0,hr1]) rfl ⟨rfl,BZ.out⟩
 |true=>
  rcases HY.out rfl with ht|⟨ht,ha⟩
  ·clear HY
   go_enter Tryz.func313,Tryz.ntmps313
   go_wp2_with fail
   rw[<-HW0.out]
   go_wp2_with fail
   refine K.out.mono ?_;rintro e w1 ⟨rfl,hb1⟩;obtain⟨R1,hl⟩:=END.out w1 hb1;have BZ:=hd_ hl;have z0:=R1.cell0;have z1:=R1.cell1;have f2:=R1.free;have RZ:=R1.set (.slice none 0 0) (.int .i64 0);have hr0:=RZ.cell0;have hr1:=RZ.cell1;clear R1 RZ x0 x1 X0 R0 hb1 hl
   go_wp2_with fail
   refine (l6In_no t 0 63 _ ht).mono ?_;rintro e w' ⟨rfl,rfl⟩;go_wp2;exact bodyPost_ret (v:=.tuple #[.agg #[.slice none 0 0,.int .i64 0],.bool false]) (by simp[results,Tryz.results313,go_sem,hr0,hr1]) rfl ⟨rfl,BZ.out⟩
  ·have hge:decide ((2000:Int)<=all)=true:=decide_eq_true ha
   clear HY;go_enter Tryz.func313,Tryz.ntmps313
   go_wp2_with fail
   rw[<-HW0.out]
   go_wp2_with fail
   refine K.out.mono ?_;rintro e w1 ⟨rfl,hb1⟩;obtain⟨R1,hl⟩:=END.out w1 hb1;have BZ:=hd_ hl;have X1:=X0.later hb1;have z0:=R1.cell0;have z1:=R1.cell1;have f2:=R1.free;have RZ:=R1.set (.slice none 0 0) (.int .i64 0);have hr0:=RZ.cell0;have hr1:=RZ.cell1;clear R1 RZ x0 x1 X0 R0 hb1 hl;have x0:=X1.cell0;have x1:=X1.cell1
   go_wp2_with fail
   refine (l6In_yes t 0 63 _ ht.1 ht.2).mono ?_;rintro e w' ⟨rfl,rfl⟩;clear ha ht;go_wp2;exact bodyPost_ret (v:=.tuple #[.agg #[.slice none 0 0,.int .i64 0],.bool false]) (by simp[results,Tryz.results313,go_sem,hr0,hr1]) rfl ⟨rfl,BZ.out⟩
theorem spRankAdd_at (w:World) (u:Value) (ps:List Pr) (all t:Int) (hp:Prs w u ps):
  Calls Tryz.prog 313 #[.agg #[u,.int .i64 all],.int .i64 t] w fun e w'=>∃v,e=.returned (.tuple #[.agg #[v,.int .i64 (addK ps all t).2],.bool (addOkK ps all t)])/\OwnP w' w.heap.size v (addK ps all t).1/\Below w.heap.size w w':=by
 cases h:addOkK ps all t with
 |false=>
  rw[addK_no h];exact (spRankAdd_no w u ps all t hp h).mono fun e w' ⟨he,hb⟩=>⟨_,he,OwnP.nil _ _,hb⟩
 |true=>
  rw[addK_yes h];obtain⟨a,b,c⟩:=addOkK_yes h;exact spRankAdd_yes w u ps all t hp a b c
end Go.Proofs.YtcblbdpdbggkbaaGreat.K
namespace Go.Proofs.YtcblbdpdbggkbaaGreat.K
def wN (g:Int->Bool) (N:List Int):Nat->Int
 | 0=>0
 |k+1=>wN g N k+if g ((k+1:Nat):Int)then N.getD (k+1) 0 else 0
def wP (g:Int->Bool):List Pr->Int
 | []=>0
 |p::ps=>(if g p.1 then p.2 else 0)+wP g ps
theorem wP_append (g:Int->Bool) (ps qs:List Pr):wP g (ps++qs)=wP g ps+wP g qs:=by
 induction ps with
 |nil=>simp[wP]
 |cons p ps ih=>simp only[List.cons_append,wP,ih];omega
theorem leastP_wP (ps:List Pr) (t:Int):leastP ps t=wP (fun a=>decide (highT a<=t)) ps:=by
 induction ps with
 |nil=>rfl
 |cons p ps ih=>simp[leastP,wP,ih]
theorem mostP_wP (ps:List Pr) (t:Int):mostP ps t=wP (fun a=>decide (lowT a<=t)) ps:=by
 induction ps with
 |nil=>rfl
 |cons p ps ih=>simp[mostP,wP,ih]
theorem sumP_wP (ps:List Pr):sumP ps=wP (fun _=>true) ps:=by
 induction ps with
 |nil=>rfl
 |cons p ps ih=>rw[wP, <-ih];simp[sumP]
theorem getD_set_same (N:List Int) (i:Nat) (x:Int) (h:i<N.length):(N.set i x).getD i 0=x:=by
 rw[List.getD_eq_getElem?_getD,List.getElem?_set_self h];rfl
theorem getD_set_other (N:List Int) (i j:Nat) (x:Int) (h:i≠j):(N.set i x).getD j 0=N.getD j 0:=by simp[h]
theorem getD_rep (n i:Nat):(List.replicate n (0:Int)).getD i 0=0:=by
 by_cases hi:i<n<;>simp[hi]
theorem wN_set (g:Int->Bool) (N:List Int) (i:Nat) (x:Int) (h0:1<=i) (h1:i<N.length):∀k,wN g (N.set i x) k=wN g N k+if i<=k then (if g (i:Int)then x - N.getD i 0 else 0)else 0:=by
 intro k
 induction k with
 |zero=>simp[wN,show ¬i<=0 by omega]
 |succ k ih=>
  simp only[wN,ih]
  by_cases e:i=k+1
  ·subst e
   rw[getD_set_same N _ x h1];simp only[show ¬k+1<=k by omega,if_false,Nat.le_refl,if_true];cases hg:g ((k+1:Nat):Int)
   ·simp only[Bool.false_eq_true,if_false]
   ·simp only[if_true];omega
  ·rw[getD_set_other N i (k+1) x e]
   by_cases hk:i<=k
   ·rw[if_pos hk,if_pos (show i<=k+1 by omega)];ac_rfl
   ·rw[if_neg hk,if_neg (show ¬i<=k+1 by omega)];ac_rfl
theorem wN_nonneg (g:Int->Bool) {N:List Int} (h:∀i,0<=N.getD i 0):∀k,0<=wN g N k:=by
 intro k
 induction k with
 |zero=>exact Int.le_refl _
 |succ k ih=>simp only[wN];have:=h (k+1);split<;>omega
theorem wN_one {N:List Int} (h:∀i,0<=N.getD i 0):∀k i,1<=i->i<=k->N.getD i 0<=wN (fun _=>true) N k:=by
 intro k
 induction k with
 |zero=>intro i h1 h2;omega
 |succ k ih=>
  intro i h1 h2;simp only[wN,if_true];have:=h (k+1)
  by_cases e:i=k+1
  ·subst e;have:=wN_nonneg (fun _=>true) h k;omega
  ·have:=ih i h1 (by omega);omega
theorem wN_just (N:List Int) (i:Nat) (h0:1<=i):∀k,wN (fun a=>decide (a=(i:Int))) N k=if i<=k then N.getD i 0 else 0:=by
 intro k
 induction k with
 |zero=>simp[wN,show ¬i<=0 by omega]
 |succ k ih=>
  simp only[wN,ih,decide_eq_true_eq]
  by_cases e:i=k+1
  ·subst e;simp[show ¬k+1<=k by omega]
  ·rw[if_neg (show ¬(((k+1:Nat):Int)=(i:Int)) by omega)]
   by_cases hk:i<=k
   ·rw[if_pos hk,if_pos (by omega)];omega
   ·rw[if_neg hk,if_neg (by omega)];omega
theorem wP_list (g:Int->Bool) {N:List Int} (h:∀i,0<=N.getD i 0):∀k,wP g (listK N k)=wN g N k:=by
 intro k
 induction k with
 |zero=>rfl
 |succ k ih=>
  rw[listK,wP_append,ih,wN];have:=h (k+1)
  by_cases hp:0<N.getD (k+1) 0
  ·rw[if_pos hp];simp[wP]
  ·rw[if_neg hp,show N.getD (k+1) 0=0 by omega];simp[wP]
theorem addN_len (a:List Int) (p:Pr):(addN a p).length=a.length:=by simp[addN]
theorem numsV_snoc (ps:List Pr) (p:Pr):numsV (ps++[p])=addN (numsV ps) p:=by simp[numsV]
def AtK (ps:List Pr):Prop:=∀p ∈ ps,1<=p.1/\p.1<=127
theorem AtK.append {ps qs:List Pr} (h:AtK ps) (h':AtK qs):AtK (ps++qs):=fun p hp=>by
 rcases List.mem_append.1 hp with a|a
 ·exact h p a
 ·exact h' p a
theorem wN_addN (g:Int->Bool) (a:List Int) (p:Pr) (ha:a.length=128) (h:1<=p.1/\p.1<=127):wN g (addN a p) 127=wN g a 127+if g p.1 then p.2 else 0:=by
 unfold addN;have e:((p.1.toNat:Nat):Int)=p.1:=by omega
 rw[wN_set g a p.1.toNat _ (by omega) (by omega),if_pos (by omega),e]
 by_cases hg:g p.1=true
 ·rw[if_pos hg,if_pos hg];omega
 ·rw[if_neg hg,if_neg hg]
theorem wN_nums (g:Int->Bool) (ps:List Pr) (h:AtK ps):wN g (numsV ps) 127=wP g ps:=by
 have e0:∀k,wN g (List.replicate 128 0) k=0:=by
  intro k
  induction k with
  |zero=>rfl
  |succ k ih=>
   have:=getD_rep 128 (k+1);rw[wN,ih,this];simp
 have:∀(ps:List Pr) (a:List Int),a.length=128->AtK ps->wN g (ps.foldl addN a) 127=wN g a 127+wP g ps:=by
  intro ps
  induction ps with
  |nil=>intro a _ _;simp[wP]
  |cons p ps ih=>
   intro a ha hk;rw[List.foldl_cons,ih _ (by rw[addN_len];exact ha) (fun q hq=>hk q (List.mem_cons_of_mem _ hq)),wN_addN g a p ha (hk p (List.mem_cons_self ..)),wP];omega
 unfold numsV;rw[this ps _ (by simp) h,e0];omega
theorem getD_addN_0 (a:List Int) (p:Pr) (h:1<=p.1):(addN a p).getD 0 0=a.getD 0 0:=by
 unfold addN;exact getD_set_other _ _ _ _ (by omega)
theorem numsV_0 (ps:List Pr) (h:AtK ps):(numsV ps).getD 0 0=0:=by
 have:∀(ps:List Pr) (a:List Int),AtK ps->(ps.foldl addN a).getD 0 0=a.getD 0 0:=by
  intro ps
  induction ps with
  |nil=>intro a _;rfl
  |cons p ps ih=>
   intro a hk;rw[List.foldl_cons,ih _ (fun q hq=>hk q (List.mem_cons_of_mem _ hq)),getD_addN_0 a p (hk p (List.mem_cons_self ..)).1]
 unfold numsV;rw[this ps _ h];rfl
theorem numsV_nn (ps:List Pr) (h:∀p ∈ ps,0<=p.2):∀i,0<=(numsV ps).getD i 0:=by
 have:∀(ps:List Pr) (a:List Int),(∀p ∈ ps,0<=p.2)->(∀i,0<=a.getD i 0)->∀i,0<=(ps.foldl addN a).getD i 0:=by
  intro ps
  induction ps with
  |nil=>intro a _ ha;exact ha
  |cons p ps ih=>
   intro a hk ha;rw[List.foldl_cons];refine ih _ (fun q hq=>hk q (List.mem_cons_of_mem _ hq)) (fun i=>?_);unfold addN
   by_cases e:p.1.toNat=i
   ·subst e
    by_cases hl:p.1.toNat<a.length
    ·rw[getD_set_same _ _ _ hl];have:=ha p.1.toNat;have:=hk p (List.mem_cons_self ..);omega
    ·rw[List.set_eq_of_length_le (by omega)];exact ha _
   ·rw[getD_set_other _ _ _ _ e];exact ha i
 exact this ps _ h (fun i=>by rw[getD_rep];exact Int.le_refl _)
theorem wN_sq1 (g:Int->Bool) (N:List Int) (D:Int) (j:Nat) (hl:N.length=128) (h1:1<=j) (h2:j<=63):
  wN g (sq1 N D j) 127=wN g N 127+if 0<N.getD (2 * j) 0+N.getD (2 * j+1) 0/\N.getD (2 * j) 0+N.getD (2 * j+1) 0+N.getD j 0<=D then (if g (j:Int)then N.getD (2 * j) 0+N.getD (2 * j+1) 0 else 0) - (if g ((2 * j:Nat):Int)then N.getD (2 * j) 0 else 0) - (if g ((2 * j+1:Nat):Int)then N.getD (2 * j+1) 0 else 0)else 0:=by
 unfold sq1
 split
 ·rw[wN_set g _ (2 * j+1) 0 (by omega) (by simp;omega),wN_set g _ (2 * j) 0 (by omega) (by simp;omega),wN_set g N j _ h1 (by omega)]
  rw[getD_set_other _ _ _ _ (show 2 * j≠2 * j+1 by omega),getD_set_other _ _ _ _ (show j≠2 * j+1 by omega),getD_set_other _ _ _ _ (show j≠2 * j by omega)];rw[if_pos (show 2 * j+1<=127 by omega),if_pos (show 2 * j<=127 by omega),if_pos (show j<=127 by omega)]
  split<;>split<;>split<;>omega
 ·omega
theorem sq1_nn {N:List Int} {D:Int} (h:∀i,0<=N.getD i 0) (j:Nat):∀i,0<=(sq1 N D j).getD i 0:=fun i=>by
 unfold sq1
 split
 ·have s:∀(M:List Int) (k:Nat) (x:Int),(∀i,0<=M.getD i 0)->0<=x->∀i,0<=(M.set k x).getD i 0:=fun M k x hM hx i=>by
   by_cases e:k=i
   ·subst e
    by_cases hl:k<M.length
    ·rw[getD_set_same _ _ _ hl];exact hx
    ·rw[List.set_eq_of_length_le (by omega)];exact hM _
   ·rw[getD_set_other _ _ _ _ e];exact hM i
  exact s _ _ _ (s _ _ _ (s _ _ _ h (by have:=h j;have:=h (2 * j);have:=h (2 * j+1);omega)) (Int.le_refl _)) (Int.le_refl _) i
 ·exact h i
def CapN (N:List Int) (D:Int):Prop:=∀i,1<=i->i<64->N.getD i 0<=D
theorem sq1_cap {N:List Int} {D:Int} (h:CapN N D) (d0:0<=D) (hl:N.length=128) (j:Nat) (hj:j<=63):CapN (sq1 N D j) D:=fun i h1 h2=>by
 unfold sq1
 split
 ·rename_i hc
  by_cases e3:2 * j+1=i
  ·subst e3;rw[getD_set_same _ _ _ (by simp;omega)];exact d0
  rw[getD_set_other _ _ _ _ e3]
  by_cases e2:2 * j=i
  ·subst e2;rw[getD_set_same _ _ _ (by simp;omega)];exact d0
  rw[getD_set_other _ _ _ _ e2]
  by_cases e1:j=i
  ·subst e1;rw[getD_set_same _ _ _ (by omega)];omega
  rw[getD_set_other _ _ _ _ e1];exact h i h1 h2
 ·exact h i h1 h2
theorem sq1_0 {N:List Int} {D:Int} (j:Nat) (hj:1<=j):(sq1 N D j).getD 0 0=N.getD 0 0:=by
 unfold sq1
 split
 ·rw[getD_set_other _ _ _ _ (by omega),getD_set_other _ _ _ _ (by omega),getD_set_other _ _ _ _ (by omega)]
 ·rfl
structure SqK (N:List Int) (D:Int) (Z:List Int):Prop where
 nn:∀i,0<=Z.getD i 0
 len:Z.length=128
 cap:CapN Z D
 zero:Z.getD 0 0=N.getD 0 0
 sum:wN (fun _=>true) Z 127=wN (fun _=>true) N 127
 least:∀t,wN (fun a=>decide (highT a<=t)) Z 127<=wN (fun a=>decide (highT a<=t)) N 127
 most:∀t,wN (fun a=>decide (lowT a<=t)) N 127<=wN (fun a=>decide (lowT a<=t)) Z 127
theorem span_kids (j:Nat) (h1:1<=j) (h2:j<=63):lowT ((2 * j:Nat):Int)=lowT (j:Int)/\lowT (j:Int)<=lowT ((2 * j+1:Nat):Int)/\highT ((2 * j+1:Nat):Int)=highT (j:Int)/\highT ((2 * j:Nat):Int)<=highT (j:Int):=by
 have a:=(span_all (j - 1) (by omega)).2.2 (by omega);have b:=(span_all (2 * j - 1) (by omega)).1;have c:=(span_all (2 * j) (by omega)).1;rw[show ((j - 1:Nat):Int)+1=(j:Int) by omega]at a;rw[show ((2 * j - 1:Nat):Int)+1=2 * (j:Int) by omega]at b;rw[show ((2 * j:Nat):Int)+1=2 * (j:Int)+1 by omega]at c;rw[show ((2 * j:Nat):Int)=2 * (j:Int) by omega,show ((2 * j+1:Nat):Int)=2 * (j:Int)+1 by omega]
 omega
theorem sqz_k {N:List Int} {D:Int} (nn:∀i,0<=N.getD i 0) (hl:N.length=128) (hc:CapN N D) (d0:0<=D):∀s,s<=63->SqK N D (sqz N D s):=by
 intro s
 induction s with
 |zero=>intro _;exact⟨nn,hl,hc,rfl,rfl,fun _=>Int.le_refl _,fun _=>Int.le_refl _⟩
 |succ s ih=>
  intro hs;have Z:=ih (by omega);rw[sqz];obtain⟨j,hj⟩:∃j,j=63 - s:=⟨_,rfl⟩
  rw[<-hj];generalize sqz N D s=M at *;have n1:=Z.nn (2 * j);have n2:=Z.nn (2 * j+1);obtain⟨k1,k2,k3,k4⟩:=span_kids j (by omega) (by omega);refine⟨sq1_nn Z.nn j,by rw[sq1_len];exact Z.len,sq1_cap Z.cap d0 Z.len j (by omega),(sq1_0 j (by omega)).trans Z.zero,?_,fun t=>?_,fun t=>?_⟩
  ·rw[wN_sq1 _ M D j Z.len (by omega) (by omega), <-Z.sum]
   simp only[if_true]
   split<;>omega
  ·rw[wN_sq1 _ M D j Z.len (by omega) (by omega)]
   have:=Z.least t;simp only[decide_eq_true_eq]
   split
   ·split<;>split<;>split<;>omega
   ·omega
  ·rw[wN_sq1 _ M D j Z.len (by omega) (by omega)]
   have:=Z.most t;simp only[decide_eq_true_eq]
   split
   ·split<;>split<;>split<;>omega
   ·omega
theorem listK_mem {N:List Int}:∀k p,p ∈ listK N k->∃a:Nat,1<=a/\a<=k/\p=((a:Int),N.getD a 0)/\0<N.getD a 0:=by
 intro k
 induction k with
 |zero=>intro p hp;cases hp
 |succ k ih=>
  intro p hp;rw[listK]at hp;rcases List.mem_append.1 hp with h|h
  ·obtain⟨a,h1,h2,h3⟩:=ih p h
   exact⟨a,h1,by omega,h3⟩
  ·by_cases hq:0<N.getD (k+1) 0
   ·rw[if_pos hq]at h
    exact⟨k+1,by omega,Nat.le_refl _,by simpa using h,hq⟩
   ·rw[if_neg hq]at h;cases h
theorem listK_asc {N:List Int}:∀k,(listK N k).Pairwise (fun p q=>p.1<q.1):=by
 intro k
 induction k with
 |zero=>exact .nil
 |succ k ih=>
  rw[listK];refine List.pairwise_append.2 ⟨ih,?_,fun p hp q hq=>?_⟩
  ·split
   ·exact List.pairwise_singleton _ _
   ·exact .nil
  ·obtain⟨a,_,h2,rfl,_⟩:=listK_mem k p hp
   split at hq
   ·obtain rfl:q=_:=by simpa using hq
    show (a:Int)<((k+1:Nat):Int)
    omega
   ·cases hq
theorem pr_asc {ps:List Pr} (h:ps.Pairwise (fun p q=>p.1<q.1)) {i j:Nat} (hi:i<j) (hj:j<ps.length):(pr ps i).1<(pr ps j).1:=by
 have:=List.pairwise_iff_getElem.1 h i j (by omega) hj hi;simp only[pr,List.getD_eq_getElem?_getD,List.getElem?_eq_getElem hj,List.getElem?_eq_getElem (show i<ps.length by omega),Option.getD_some];exact this
theorem asc_pr {ps:List Pr} (h:∀i,i+1<ps.length->(pr ps i).1<(pr ps (i+1)).1):ps.Pairwise (fun p q=>p.1<q.1):=by
 have s:∀d i,i+d+1<ps.length->(pr ps i).1<(pr ps (i+d+1)).1:=by
  intro d
  induction d with
  |zero=>intro i hi;exact h i hi
  |succ d ih=>intro i hi;have a:=ih i (by omega);have b:=h (i+d+1) (by omega);rw[show i+(d+1)+1=i+d+1+1 by omega];omega
 refine List.pairwise_iff_getElem.2 (fun i j hi hj hij=>?_);have:=s (j - i - 1) i (by omega);rw[show i+(j - i - 1)+1=j by omega]at this;simpa[pr,hi,hj]using this
theorem RankP.asc {ps:List Pr} {all:Int} (h:RankP ps all):ps.Pairwise (fun p q=>p.1<q.1):=asc_pr (fun i hi=>by
  have:=(h.2.1 (i+1) hi).2.1 (by omega)
  simpa using this)
theorem RankP.atK {ps:List Pr} {all:Int} (h:RankP ps all):AtK ps:=fun p hp=>by
 obtain⟨i,hi,rfl⟩:=pr_at hp;exact (h.2.1 i hi).1.1
theorem RankP.num {ps:List Pr} {all:Int} (h:RankP ps all):∀p ∈ ps,1<=p.2/\p.2<=2000/\(p.1<64->p.2<=all / 8):=fun p hp=>by
 obtain⟨i,hi,rfl⟩:=pr_at hp;exact⟨(h.2.1 i hi).1.2.1,(h.2.1 i hi).1.2.2,(h.2.1 i hi).2.2⟩
theorem rankP_of {ps:List Pr} {all:Int} (h0:0<=all/\all<=2000) (ha:ps.Pairwise (fun p q=>p.1<q.1)) (hk:AtK ps) (hn:∀p ∈ ps,1<=p.2/\p.2<=2000/\(p.1<64->p.2<=all / 8)) (hs:sumP ps=all):RankP ps all:=
 ⟨h0,fun i hi=>⟨⟨hk _ (pr_mem hi),(hn _ (pr_mem hi)).1,(hn _ (pr_mem hi)).2.1⟩,fun h=>pr_asc ha (by omega) hi,(hn _ (pr_mem hi)).2.2⟩,hs⟩
theorem doneK_ok {N:List Int} {all:Int} (nn:∀i,0<=N.getD i 0) (hl:N.length=128) (hc:CapN N (all / 8)) (h0:0<=all/\all<=2000) (hs:wN (fun _=>true) N 127=all):RankP (doneK N all) all:=by
 have Z:=sqz_k nn hl hc (by omega) 63 lr_;unfold doneK listV;generalize sqz N (all / 8) 63=Y at Z ⊢;refine rankP_of h0 (listK_asc 127) (fun p hp=>?_) (fun p hp=>?_) (by rw[sumP_wP,wP_list _ Z.nn,Z.sum];exact hs)
 ·obtain⟨a,h1,h2,rfl,_⟩:=listK_mem 127 p hp
  show 1<=(a:Int)/\(a:Int)<=127
  omega
 ·obtain⟨a,h1,h2,rfl,h3⟩:=listK_mem 127 p hp
  have:=wN_one Z.nn 127 a h1 h2;rw[Z.sum,hs]at this;refine⟨?_,?_,fun h=>?_⟩
  ·show 1<=Y.getD a 0;omega
  ·show Y.getD a 0<=(2000:Int);omega
  ·exact Z.cap a h1 (by have:(a:Int)<64:=h;omega)
theorem doneK_least {N:List Int} {all:Int} (nn:∀i,0<=N.getD i 0) (hl:N.length=128) (hc:CapN N (all / 8)) (h0:0<=all) (t:Int):leastP (doneK N all) t<=wN (fun a=>decide (highT a<=t)) N 127:=by
 have Z:=sqz_k nn hl hc (by omega) 63 lr_;rw[leastP_wP,doneK,listV,wP_list _ Z.nn];exact Z.least t
theorem doneK_most {N:List Int} {all:Int} (nn:∀i,0<=N.getD i 0) (hl:N.length=128) (hc:CapN N (all / 8)) (h0:0<=all) (t:Int):wN (fun a=>decide (lowT a<=t)) N 127<=mostP (doneK N all) t:=by
 have Z:=sqz_k nn hl hc (by omega) 63 lr_;rw[mostP_wP,doneK,listV,wP_list _ Z.nn];exact Z.most t
def cnt (g:Int->Bool):Nat->Nat
 | 0=>0
 |k+1=>cnt g k+if g ((k+1:Nat):Int)then 1 else 0
theorem cnt_mono (g:Int->Bool) {k m:Nat} (h:k<=m):cnt g k<=cnt g m:=by
 induction m with
 |zero=>simp[show k=0 by omega]
 |succ m ih=>
  by_cases e:k=m+1
  ·subst e;exact Nat.le_refl _
  ·have:=ih (by omega);simp only[cnt];omega
theorem wP_cnt (g:Int->Bool) (D:Int) (d0:0<=D):∀(ps:List Pr),ps.Pairwise (fun p q=>p.1<q.1)->AtK ps->(∀p ∈ ps,g p.1=true->p.2<=D)->∀k:Nat,k<=127->(∀p ∈ ps,(k:Int)<p.1)->wP g ps+D * (cnt g k:Int)<=D * (cnt g 127:Int):=by
 have ml:∀a b:Nat,a<=b->D * (cnt g a:Int)<=D * (cnt g b:Int):=fun a b h=>Int.mul_le_mul_of_nonneg_left (by have:=cnt_mono g h;omega) d0
 intro ps
 induction ps with
 |nil=>intro _ _ _ k hk _;have:=ml k 127 hk;simp only[wP];omega
 |cons p ps ih=>
  intro ha hk hD k hk1 hlt;obtain⟨h1,h2⟩:=List.pairwise_cons.1 ha;obtain⟨b1,b2⟩:=hk p (List.mem_cons_self ..);have hkp:=hlt p (List.mem_cons_self ..);obtain⟨a,hpa⟩:∃a:Nat,p.1=((a+1:Nat):Int):=⟨p.1.toNat - 1,by omega⟩
  have I:=ih h2 (fun q hq=>hk q (List.mem_cons_of_mem _ hq)) (fun q hq=>hD q (List.mem_cons_of_mem _ hq)) (a+1) (by omega) (fun q hq=>by have:=h1 q hq;omega);have M:=ml k a (by omega);have hp:=hD p (List.mem_cons_self ..);simp only[wP,cnt]at I ⊢;rw[hpa]at hp ⊢
  split
  ·rename_i hg
   rw[if_pos hg,Int.natCast_add,Int.mul_add]at I;have:=hp hg;simp only[Int.natCast_one,Int.mul_one]at I;omega
  ·rename_i hg
   rw[if_neg hg]at I;simp only[Nat.add_zero]at I;omega
theorem wP_cnt0 (g:Int->Bool) (D:Int) (d0:0<=D) (ps:List Pr) (ha:ps.Pairwise (fun p q=>p.1<q.1)) (hk:AtK ps) (hD:∀p ∈ ps,g p.1=true->p.2<=D):wP g ps<=D * (cnt g 127:Int):=by
 have:=wP_cnt g D d0 ps ha hk hD 0 (by omega) (fun p hp=>by have:=(hk p hp).1;omega);simpa[cnt]using this
theorem cnt_just:∀i:Nat,i<128->cnt (fun a=>decide (a=(i:Int))) 127<=1:=by decide+kernel
theorem nums_at (ps:List Pr) (h:AtK ps) (i:Nat) (h1:1<=i) (h2:i<=127):(numsV ps).getD i 0=wP (fun a=>decide (a=(i:Int))) ps:=by
 have:=wN_nums (fun a=>decide (a=(i:Int))) ps h;rw[wN_just _ i h1,if_pos h2]at this;exact this
theorem just_cap {ps:List Pr} {a:Int} (h:RankP ps a) (i:Nat) (h1:1<=i) (h2:i<64):wP (fun x=>decide (x=(i:Int))) ps<=a / 8:=by
 have d0:0<=a / 8:=by have:=h.1.1;omega
 have:=wP_cnt0 (fun x=>decide (x=(i:Int))) (a / 8) d0 ps h.asc h.atK (fun p hp hg=>by
    have e:p.1=(i:Int):=by simpa using hg
    exact (h.num p hp).2.2 (by omega))
 have c:=cnt_just i (by omega);have:(a / 8) * (cnt (fun x=>decide (x=(i:Int))) 127:Int)<=(a / 8) * 1:=Int.mul_le_mul_of_nonneg_left (by omega) d0;omega
theorem join_cap {ps qs:List Pr} {a b:Int} (h:RankP ps a) (h':RankP qs b):CapN (numsV (ps++qs)) ((a+b) / 8):=fun i h1 h2=>by
 rw[nums_at _ (h.atK.append h'.atK) i h1 (by omega),wP_append];have:=just_cap h i h1 h2;have:=just_cap h' i h1 h2;omega
theorem join_nn {ps qs:List Pr} {a b:Int} (h:RankP ps a) (h':RankP qs b):∀i,0<=(numsV (ps++qs)).getD i 0:=numsV_nn _ (fun p hp=>by
  rcases List.mem_append.1 hp with e|e
  · have:=(h.num p e).1;omega
  · have:=(h'.num p e).1;omega)
def bothK (ps:List Pr) (a:Int) (qs:List Pr) (b:Int):List Pr:=doneK (numsV (ps++qs)) (a+b)
section
variable {ps qs:List Pr} {a b:Int}
theorem both_ok (h:RankP ps a) (h':RankP qs b) (hs:a+b<=2000):RankP (bothK ps a qs b) (a+b):=
 doneK_ok (join_nn h h') (numsV_len _) (join_cap h h') ⟨by have:=h.1.1;have:=h'.1.1;omega,hs⟩ (by
    rw[wN_nums _ _ (h.atK.append h'.atK),wP_append, <-sumP_wP, <-sumP_wP,h.2.2,h'.2.2])
theorem both_least (h:RankP ps a) (h':RankP qs b) (t:Int):leastP (bothK ps a qs b) t<=leastP ps t+leastP qs t:=by
 have:=doneK_least (join_nn h h') (numsV_len _) (join_cap h h') (by have:=h.1.1;have:=h'.1.1;omega) t;rw[wN_nums _ _ (h.atK.append h'.atK),wP_append, <-leastP_wP, <-leastP_wP]at this;exact this
theorem both_most (h:RankP ps a) (h':RankP qs b) (t:Int):mostP ps t+mostP qs t<=mostP (bothK ps a qs b) t:=by
 have:=doneK_most (join_nn h h') (numsV_len _) (join_cap h h') (by have:=h.1.1;have:=h'.1.1;omega) t;rw[wN_nums _ _ (h.atK.append h'.atK),wP_append, <-mostP_wP, <-mostP_wP]at this;exact this
theorem both_comm (h:RankP ps a) (h':RankP qs b):bothK ps a qs b=bothK qs b ps a:=by
 have e:numsV (ps++qs)=numsV (qs++ps):=by
  refine List.ext_getElem (by rw[numsV_len,numsV_len]) (fun i h1 h2=>?_);have g1:(numsV (ps++qs)).getD i 0=(numsV (qs++ps)).getD i 0:=by
   rw[numsV_len]at h1
   by_cases h0:i=0
   ·subst h0;rw[numsV_0 _ (h.atK.append h'.atK),numsV_0 _ (h'.atK.append h.atK)]
   ·rw[nums_at _ (h.atK.append h'.atK) i (by omega) (by omega),nums_at _ (h'.atK.append h.atK) i (by omega) (by omega),wP_append,wP_append];omega
  simpa[List.getD_eq_getElem?_getD,h1,h2]using g1
 unfold bothK;rw[e,Int.add_comm]
end
theorem one_ok (t:Int) (h:0<=t/\t<=63):RankP [(64+t,1)] 1:=
 rankP_of (by omega) (List.pairwise_singleton _ _) (fun p hp=>by (obtain rfl:p=_:=by simpa using hp);show 1<=64+t/\64+t<=127;omega)
  (fun p hp=>by (obtain rfl:p=_:=by simpa using hp);exact⟨Int.le_refl _,by show (1:Int)<=2000;omega,fun h'=>by have:64+t<64:=h';omega⟩) rfl
theorem one_span (t:Int) (h:0<=t/\t<=63):lowT (64+t)=t/\highT (64+t)=t:=by
 obtain⟨T,rfl⟩:∃T:Nat,t=(T:Int):=⟨t.toNat,by omega⟩
 have:=(span_all (63+T) (by omega)).2.1 (by omega);rw[show ((63+T:Nat):Int)+1=64+(T:Int) by omega]at this;omega
theorem one_least (t i:Int) (h:0<=t/\t<=63):leastP [(64+t,1)] i=if t<=i then 1 else 0:=by
 simp[leastP,(one_span t h).2]
theorem one_most (t i:Int) (h:0<=t/\t<=63):mostP [(64+t,1)] i=if t<=i then 1 else 0:=by
 simp[mostP,(one_span t h).1]
theorem add_both (ps:List Pr) (a t:Int):doneK (addN (numsV ps) (64+t,1)) (a+1)=bothK ps a [(64+t,1)] 1:=by
 unfold bothK;rw[numsV_snoc]
theorem sq1_any {N:List Int} {D:Int} (nn:∀i,0<=N.getD i 0) (hl:N.length=128) (j:Nat) (h1:1<=j) (h2:j<=63):
  (if N.getD j 0+(N.getD (2 * j) 0+N.getD (2 * j+1) 0)<=D then ((N.set j (N.getD j 0+(N.getD (2 * j) 0+N.getD (2 * j+1) 0))).set (2 * j) 0).set (2 * j+1) 0 else N)=sq1 N D j:=by
 unfold sq1;have a:=nn (2 * j);have b:=nn (2 * j+1)
 by_cases c:N.getD j 0+(N.getD (2 * j) 0+N.getD (2 * j+1) 0)<=D
 ·rw[if_pos c]
  by_cases p:0<N.getD (2 * j) 0+N.getD (2 * j+1) 0
  ·rw[if_pos ⟨p,by omega⟩]
  ·rw[if_neg (fun h=>p h.1)]
   have z1:N.getD (2 * j) 0=0:=by omega
   have z2:N.getD (2 * j+1) 0=0:=by omega
   have st:∀i,i<128->N.set i (N.getD i 0)=N:=fun i hi=>by
    rw[List.getD_eq_getElem?_getD,List.getElem?_eq_getElem (by omega)];exact List.set_getElem_self _
   have s1:=st j (by omega);have s2:=st (2 * j) (by omega);have s3:=st (2 * j+1) (by omega);rw[z1]at s2;rw[z2]at s3;rw[z1,z2,show N.getD j 0+(0+0)=N.getD j 0 by omega,s1,s2,s3]
 ·rw[if_neg c,if_neg (fun h=>c (by omega))]
end Go.Proofs.YtcblbdpdbggkbaaGreat.K
