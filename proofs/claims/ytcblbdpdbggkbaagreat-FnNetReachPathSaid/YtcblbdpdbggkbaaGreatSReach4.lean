/-
  What the laws of Reach need of the texts before it, part 4.
-/
import Derived.BigQuiet
import Derived.Deep.AppendLies
import Derived.Deep.OwnRows
import Derived.Deep.QuietTactic
import Derived.Deep.RegionHeld3
import Derived.Deep.RegionLaw
import Derived.Deep.RegionWith
import Derived.IntWalk
import Derived.Laws.AppendOwnNone
import Derived.Laws.EntriesVeiled
import Derived.Lib.AppendZerosOnto
import Derived.Lib.Hide
import Derived.Lib.QuietBelow
import Derived.Lib.SliceRun
import Derived.Lib.Walk
import Derived.LoopIn
import Derived.LoopNIn
import Derived.Maps.AppendAt
import Derived.OneCell
import Derived.OwnWalkIn
import Derived.RangeFuncBound
import Derived.RangeFuncBox
import Derived.RangeFuncCalls
import Derived.RangeFuncLeaves
import Derived.RangeFuncNested
import Derived.Shelf.Abstract
import Derived.Shelf.RegionOpen
import Derived.Shelf.SlSortCmp.InsertionK
import Derived.StillTail
import Derived.TacticsInMore
import Derived.Test.YtcblbdpdbggkbaaGreatRows
import Derived.WalkKit
import Derived.WalkLawsBesides
import Derived.WalkSpells
import Derived.Test.YtcblbdpdbggkbaaGreatSReach2
set_option maxRecDepth 100000
set_option maxHeartbeats 16000000
set_option linter.unusedVariables false
set_option linter.unusedSectionVars false
set_option linter.unusedSimpArgs false
namespace Go.Proofs.YtcblbdpdbggkbaaGreat.T
open Go.RowKit Go.Sort
abbrev Pr:=Int × Int
def pr (ps:List Pr) (i:Nat):Pr:=ps.getD i (0,0)
def prs (ps:List Pr):List Value:=ps.flatMap fun p=>[.int .i64 p.1,.int .i64 p.2]
theorem prs_cons (p:Pr) (ps:List Pr):prs (p::ps)=.int .i64 p.1::.int .i64 p.2::prs ps:=rfl
theorem prs_snoc (ps:List Pr) (p:Pr):prs (ps++[p])=prs ps++[.int .i64 p.1,.int .i64 p.2]:=by simp[prs]
theorem prs_get (ps:List Pr) (i:Nat) (h:i<ps.length):(prs ps)[i * 2]? =some (.int .i64 (pr ps i).1)/\(prs ps)[i * 2+1]? =some (.int .i64 (pr ps i).2):=by
 induction ps generalizing i with
 |nil=>cases h
 |cons p ps ih=>
  rw[prs_cons];cases i with
  |zero=>exact⟨rfl,rfl⟩
  |succ i=>
   have:=ih i (by simpa using h);rw[show (i+1) * 2=i * 2+1+1 by omega];simp only[List.getElem?_cons_succ];exact this
theorem pr_mem {ps:List Pr} {i:Nat} (h:i<ps.length):pr ps i ∈ ps:=getD_mem ps i (0,0) h
theorem pr_at {ps:List Pr} {p:Pr} (h:p ∈ ps):∃i,i<ps.length/\pr ps i=p:=by
 obtain⟨i,hi,rfl⟩:=List.getElem_of_mem h;exact⟨i,hi,by simp[pr,hi]⟩
def Prs (w:World) (v:Value) (ps:List Pr):Prop:=
 (v=.slice none 0 0/\ps=[])\/
 ∃b o cap,v=.slice (some ⟨b,o,none⟩) ps.length cap/\ps.length<=cap/\cap<=maxLen/\b<w.heap.size/\
  ∀i,i<ps.length->w.cell? ⟨b,o+i * 2,none⟩=some (.int .i64 (pr ps i).1)/\w.cell? ⟨b,o+i * 2+1,none⟩=some (.int .i64 (pr ps i).2)
theorem Prs.below {w w':World} {v:Value} {ps:List Pr} (h:Prs w v ps) {B:Nat} (hb:Below B w w') (hB:w.heap.size<=B):Prs w' v ps:=by
 rcases h with h|⟨b,o,cap,rfl,h1,h2,h3,h4⟩
 ·exact .inl h
 ·exact .inr ⟨b,o,cap,rfl,h1,h2,Nat.lt_of_lt_of_le h3 hb.size,fun i hi=>by
      rw[hb.cell (by show b<B;omega),hb.cell (by show b<B;omega)];exact h4 i hi⟩
theorem Prs.form {w:World} {v:Value} {ps:List Pr} (h:Prs w v ps):∃x c,v=.slice x ps.length c/\ps.length<=c/\c<=maxLen:=by
 rcases h with ⟨rfl,rfl⟩|⟨b,o,cap,rfl,h1,h2,_⟩
 ·exact⟨none,0,rfl,Nat.le_refl _,Nat.zero_le _⟩
 ·exact⟨_,_,rfl,h1,h2⟩
theorem Prs.cells {w:World} {x:Option Addr} {n c:Nat} {ps:List Pr} (h:Prs w (.slice x n c) ps):∀i,i<ps.length->∃b o,x=some ⟨b,o,none⟩/\b<w.heap.size/\w.cell? ⟨b,o+i * 2,none⟩=some (.int .i64 (pr ps i).1)/\w.cell? ⟨b,o+i * 2+1,none⟩=some (.int .i64 (pr ps i).2):=fun i hi=>by
 rcases h with ⟨_,rfl⟩|⟨b,o,cap,e,h1,h2,h3,h4⟩
 ·cases hi
 ·exact⟨b,o,(Value.slice.inj e).1,h3,h4 i hi⟩
def OwnP (w:World) (B:Nat) (v:Value) (ps:List Pr):Prop:=w.ownsRow B 213 2 v ps.length (prs ps)
theorem addr_plus (b o i:Nat):(⟨b,o,none⟩:Addr).add i=⟨b,o+i,none⟩:=by unfold Addr.add;split<;>simp_all
theorem OwnP.rd {w:World} {B:Nat} {v:Value} {ps:List Pr} (h:OwnP w B v ps):Prs w v ps:=by
 rcases h.2 with ⟨rfl,h0⟩|⟨g,cap,cur,rfl,hb,hg,hn,hc,hs,ht⟩
 ·exact .inl ⟨rfl,List.eq_nil_of_length_eq_zero h0⟩
 ·refine .inr ⟨g,0,cap,rfl,hn,hc,(Array.getElem?_eq_some_iff.1 hg).1,fun i hi=>?_⟩
  have e:=prs_get ps i hi;have a:=World.ownsRow.cells h (g:=g) rfl _ _ e.1;have b:=World.ownsRow.cells h (g:=g) rfl _ _ e.2;rw[addr_plus]at a b;exact⟨a,by rw[Nat.add_assoc];exact b⟩
theorem OwnP.base {w:World} {B B':Nat} {v:Value} {ps:List Pr} (h:OwnP w B v ps) (hB:B'<=B):OwnP w B' v ps:=ownsRow_base h hB
theorem OwnP.kept {w w':World} {B:Nat} {v:Value} {ps:List Pr} {row:Option Nat} (h:OwnP w B v ps) (hg:w.grownBy w' row) (hr:∀k,row=some k->k<B):OwnP w' B v ps:=by
 refine World.ownsRow.kept h hg ?_;cases hv:v.ownBlock with
 |none=>exact .inl rfl
 |some k=>exact .inr (fun e=>by have:=(World.ownsRow.lt h k hv).1;have:=hr k e.symm;omega)
theorem OwnP.keep {w w':World} {B:Nat} {v:Value} {ps:List Pr} {row:Option Nat} (h:OwnP w B v ps) (hg:w.grownBy w' row) (hr:v.ownBlock≠row):OwnP w' B v ps:=World.ownsRow.kept h hg (.inr hr)
theorem OwnP.below {w w':World} {B:Nat} {v:Value} {ps:List Pr} (h:OwnP w B v ps) (hb:Below w.heap.size w w'):OwnP w' B v ps:=h.kept (row:=none) (grownBy_below hb) (fun _ e=>by cases e)
theorem OwnP.nil (w:World) (B:Nat):OwnP w B (.slice none 0 0) []:=World.ownsRow_nil w B _ 2
theorem OwnP.form {w:World} {B:Nat} {v:Value} {ps:List Pr} (h:OwnP w B v ps):∃x c,v=.slice x ps.length c/\ps.length<=c/\c<=maxLen:=h.rd.form
theorem pair_info:(Tryz.prog.info? 213).map (fun i=>(i.zero,i.size,i.bytes))=some (some (.agg #[.int .i64 0,.int .i64 0]),2,16):=by kernel_rfl
theorem pair_empty (w:World) (B:Nat) (hB:B<=w.heap.size):OwnP (w.alloc (.cells #[] 213)) B (.slice (some ⟨w.heap.size,0,none⟩) 0 0) []:=
 World.ownsRow_lit (base:=B) (e:=213) (size:=2) w #[] 0 hB (by simp[maxLen]) (by simp)
def sumP (ps:List Pr):Int:=(ps.map (·.2)).sum
theorem sumP_append (ps qs:List Pr):sumP (ps++qs)=sumP ps+sumP qs:=by simp[sumP]
theorem take_succ_pr (ps:List Pr) (k:Nat) (h:k<ps.length):ps.take (k+1)=ps.take k++[pr ps k]:=by
 rw[List.take_succ_eq_append_getElem h];simp[pr,h]
theorem sumP_succ (ps:List Pr) (k:Nat) (h:k<ps.length):sumP (ps.take (k+1))=sumP (ps.take k)+(pr ps k).2:=by
 rw[take_succ_pr ps k h,sumP_append];simp[sumP]
def TopG (ps:List Pr) (i:Nat):Prop:=((0<=(pr ps i).1/\(pr ps i).1<=63)/\1<=(pr ps i).2/\(pr ps i).2<=2000)/\(0<i->(pr ps (i - 1)).1<(pr ps i).1)
instance (ps:List Pr) (i:Nat):Decidable (TopG ps i):=by unfold TopG;infer_instance
def TopP (ps:List Pr) (lost all:Int):Prop:=(ps.length<=4/\(0<=lost/\lost<=2000)/\0<=all/\all<=2000)/\(∀i,i<ps.length->TopG ps i)/\sumP ps+5 * lost<=all
instance (ps:List Pr) (lost all:Int):Decidable (TopP ps lost all):=by unfold TopP;infer_instance
def topB (ps:List Pr) (lost all:Int):Bool:=decide (TopP ps lost all)
theorem topB_iff (ps:List Pr) (lost all:Int):topB ps lost all=true↔TopP ps lost all:=by simp[topB]
theorem topB_no {ps:List Pr} {lost all:Int} (h:¬TopP ps lost all):topB ps lost all=false:=by simpa[topB]using h
theorem sumP_bd {ps:List Pr} {k:Nat} (hk:k<=ps.length) (h:∀i,i<k->TopG ps i):0<=sumP (ps.take k)/\sumP (ps.take k)<=2000 * k:=by
 induction k with
 |zero=>simp[sumP]
 |succ k ih=>
  have:=ih (by omega) (fun i hi=>h i (by omega));have g:=(h k (by omega)).1.2;rw[sumP_succ ps k (by omega)];omega
theorem l3All_at (w:World) (x:Option Addr) (n c:Nat) (ps:List Pr) (hl:ps.length=n) (hp:Prs w (.slice x n c) ps) (hn:n<=4) (hg:∀i,i<n->TopG ps i):
  Calls Tryz.prog 277 #[.slice x n c] w fun e w'=>e=.returned (.int .i64 (sumP ps))/\w=w':=by
 have HP:=hd_ hp.cells;have HL:=hd_ hl;have G:=hd_ hg;clear hl hp hg;go_enter Tryz.func277,Tryz.ntmps277;go_wp2
 go_loop [3,4] (fun q i=>∃k:Nat,k<=n/\i=.int .i64 k/\q=.int .i64 (sumP (ps.take k))) (fun _ i=>n - (intOf i).toNat)
 case atStart=>exact⟨0,Nat.zero_le _,rfl,rfl⟩
 case round=>
  obtain⟨k,hk,rfl,rfl⟩:=hrel;have hsb:=sumP_bd (by rw[HL.out];exact hk) (fun i hi=>G.out i (by omega))
  by_cases hlt:k<n
  ·obtain⟨b,o,rfl,hb,h1,h2⟩:=HP.out k (by rw[HL.out];exact hlt)
   have g:=(G.out k hlt).1.2;have hs:=hd_ (sumP_succ ps k (by rw[HL.out];exact hlt));generalize pr ps k=q at h1 h2 hs g;obtain⟨t,m⟩:=q;generalize sumP (ps.take k)=S at *;obtain⟨g1,g2⟩:=g;go_wp2
   go_round
   case rel=>exact⟨k+1,by omega,by go_num,by rw[hs.out]⟩
   case measure=>simp[intOf];omega
  ·obtain rfl:k=n:=by omega
   have e1:ps.take k=ps:=List.take_of_length_le (by rw[HL.out];exact Nat.le_refl _);rw[e1];go_wp2;go_ret;exact⟨rfl,rfl⟩
theorem spTopOk_in (w:World) (x:Option Addr) (n c:Nat) (ps:List Pr) (lost all:Int) (hl:ps.length=n) (hp:Prs w (.slice x n c) ps) (hn:n<=maxLen):
  Calls Tryz.prog 221 #[.agg #[.slice x n c,.int .i64 lost,.int .i64 all]] w fun e w'=>e=.returned (.bool (topB ps lost all))/\Below w.heap.size w w':=by
 unfold maxLen at hn;have hA:=(Below.refl w.heap.size w).alloc lr_ (.cells #[.slice x n c,.int .i64 lost,.int .i64 all] 41);have c0:(w.alloc (.cells #[.slice x n c,.int .i64 lost,.int .i64 all] 41)).cell? ⟨w.heap.size,0,none⟩=some (.slice x n c):=by simp
 have c1:(w.alloc (.cells #[.slice x n c,.int .i64 lost,.int .i64 all] 41)).cell? ⟨w.heap.size,1,none⟩=some (.int .i64 lost):=by simp
 have c2:(w.alloc (.cells #[.slice x n c,.int .i64 lost,.int .i64 all] 41)).cell? ⟨w.heap.size,2,none⟩=some (.int .i64 all):=by simp
 have HC:=hd_ (And.intro c0 (And.intro c1 c2));have HPR:=hd_ hp;have HP:=hd_ hp.cells;have HL:=hd_ hl;have HA:=hd_ hA;clear hl hp hA c0 c1 c2;go_enter Tryz.func221,Tryz.ntmps221;go_wp2;go_loopw [3] (fun i wr=>∃k:Nat,k<=n/\i=.int .i64 k/\(∀i,i<k->TopG ps i)/\Below (w.heap.size+1) (w.alloc (.cells #[.slice x n c,.int .i64 lost,.int .i64 all] 41)) wr) (fun i _=>n - (intOf i).toNat)
 case atStart=>exact⟨0,Nat.zero_le _,rfl,fun _ h=>absurd h (Nat.not_lt_zero _),Below.refl _ _⟩
 case round=>
  obtain⟨k,hk,rfl,hg,hbl⟩:=hrel;have G:=hd_ hg;have HB:=hd_ hbl;have cw0:wr.cell? ⟨w.heap.size,0,none⟩=some (.slice x n c):=(HB.out.cell (p:=⟨w.heap.size,0,none⟩) (by simp)).trans HC.out.1;have cw1:wr.cell? ⟨w.heap.size,1,none⟩=some (.int .i64 lost):=(HB.out.cell (p:=⟨w.heap.size,1,none⟩) (by simp)).trans HC.out.2.1
  have cw2:wr.cell? ⟨w.heap.size,2,none⟩=some (.int .i64 all):=(HB.out.cell (p:=⟨w.heap.size,2,none⟩) (by simp)).trans HC.out.2.2;have FIN:=hd_ (HA.out.trans (HB.out.mono (Nat.le_succ _)))
  by_cases hlt:k<n
  ·obtain⟨b,o,rfl,hb,h1,h2⟩:=HP.out k (by rw[HL.out];exact hlt)
   have tr:∀j v,w.cell? ⟨b,j,none⟩=some v->wr.cell? ⟨b,j,none⟩=some v:=fun j v h=>by
    rw[HB.out.cell (p:=⟨b,j,none⟩) (by show b<_;omega),HA.out.cell (p:=⟨b,j,none⟩) hb];exact h
   have TR:=hd_ tr;replace h1:=tr _ _ h1;replace h2:=tr _ _ h2;have HQ:Hid (TopG ps k↔(((0<=(pr ps k).1/\(pr ps k).1<=63)/\1<=(pr ps k).2/\(pr ps k).2<=2000)/\(0<k->(pr ps (k - 1)).1<(pr ps k).1))):=Iff.rfl;have bad:Hid (¬TopG ps k->topB ps lost all=false):=fun h=>topB_no (fun q=>h (q.2.1 k (by rw[HL.out];exact hlt)))
   generalize pr ps k=q at h1 h2 HQ;obtain⟨t,m⟩:=q;have k0:(0:Int)<=(k:Int):=by omega
   have kn:(k:Int)<(n:Int):=by omega
   clear hg hbl tr
   by_cases ht:t<0\/63<t
   ·have bd:=hd_ (bad.out (fun q=>by have:=(HQ.out.1 q).1.1;simp at this;omega))
    clear HQ bad;go_wp2
    go_quiet (with_reducible exact quiet_same' (l6In_no _ _ _ _ ht))
    go_wp2;go_ret;exact⟨ret_bool bd.out.symm,below_drewN FIN.out _⟩
   have ht0:0<=t:=by omega
   have ht1:t<=63:=by omega
   by_cases hm:m<1\/2000<m
   ·have bd:=hd_ (bad.out (fun q=>by have:=(HQ.out.1 q).1.2;simp at this;omega))
    clear HQ bad;go_wp2
    go_quiet (first|(with_reducible exact quiet_same' (l6In_yes _ _ _ _ ht0 ht1))|(with_reducible exact quiet_same' (l6In_no _ _ _ _ hm)))
    go_wp2;go_ret;exact⟨ret_bool bd.out.symm,below_drewN FIN.out _⟩
   have hm0:1<=m:=by omega
   have hm1:m<=2000:=by omega
   rcases Nat.eq_zero_or_pos k with h0|h0
   ·subst h0
    have good:=hd_ (HQ.out.2 ⟨⟨⟨ht0,ht1⟩,hm0,hm1⟩,fun h=>absurd h (Nat.lt_irrefl _)⟩);clear HQ bad;have e0:o+0 * 2=o:=by omega
    rw[e0]at h1 h2;go_wp2
    go_quiet (first|(with_reducible exact quiet_same' (l6In_yes _ _ _ _ ht0 ht1))|(with_reducible exact quiet_same' (l6In_yes _ _ _ _ hm0 hm1)))
    go_wp2;go_roundw
    case rel=>exact⟨1,by omega,by go_num,fun i hi=>by
          obtain rfl:i=0:=by omega
          exact good.out,below_drewN HB.out _⟩
    case measure=>simp[intOf];omega
   ·obtain⟨j,rfl⟩:∃j,k=j+1:=⟨k - 1,by omega⟩
    obtain⟨b',o',e',hb',h3,_⟩:=HP.out j (by rw[HL.out];omega);cases e';replace h3:=TR.out _ _ h3;rw[Nat.add_sub_cancel]at HQ;generalize pr ps j=q' at h3 HQ;obtain⟨t',m'⟩:=q';have p0:(0:Int)<((j+1:Nat):Int):=by omega
    have e1:((j+1:Nat):Int) - 1=(j:Int):=by omega
    have j0:(0:Int)<=(j:Int):=by omega
    have jn:(j:Int)<(n:Int):=by omega
    by_cases hyx:t<=t'
    ·have bd:=hd_ (bad.out (fun q=>by have:=(HQ.out.1 q).2 h0;simp at this;omega))
     have hd:decide (t<=t')=true:=decide_eq_true hyx;clear HQ bad;go_wp2
     go_quiet (first|(with_reducible exact quiet_same' (l6In_yes _ _ _ _ ht0 ht1))|(with_reducible exact quiet_same' (l6In_yes _ _ _ _ hm0 hm1)))
     go_wp2;go_ret;exact⟨ret_bool bd.out.symm,below_drewN FIN.out _⟩
    ·have good:=hd_ (HQ.out.2 ⟨⟨⟨ht0,ht1⟩,hm0,hm1⟩,fun _=>by simp;omega⟩)
     have hd:decide (t<=t')=false:=decide_eq_false hyx;clear HQ bad;go_wp2
     go_quiet (first|(with_reducible exact quiet_same' (l6In_yes _ _ _ _ ht0 ht1))|(with_reducible exact quiet_same' (l6In_yes _ _ _ _ hm0 hm1)))
     go_wp2;go_roundw
     case rel=>exact⟨j+1+1,by omega,by go_num,fun i hi=>by
            by_cases h:i<j+1
            · exact G.out i h
            · obtain rfl:i=j+1:=by omega
              exact good.out,below_drewN HB.out _⟩
     case measure=>simp[intOf];omega
  ·obtain rfl:k=n:=by omega
   clear hg hbl
   by_cases h4:4<k
   ·have bd:Hid (topB ps lost all=false):=topB_no (fun q=>by have:=q.1.1;rw[HL.out]at this;omega)
    have h4':decide ((k:Int)<=4)=false:=decide_eq_false (by omega);go_wp2
    go_quiet (fail)
    go_wp2;go_ret;exact⟨ret_bool bd.out.symm,below_drewN FIN.out _⟩
   have h4':(k:Int)<=4:=by omega
   by_cases ha:all<0\/2000<all
   ·have bd:Hid (topB ps lost all=false):=topB_no (fun q=>by have:=q.1.2.2;omega)
    go_wp2
    go_quiet (first|(with_reducible exact quiet_same' (l6In_no _ _ _ _ ha)))
    go_wp2;go_ret;exact⟨ret_bool bd.out.symm,below_drewN FIN.out _⟩
   have ha0:0<=all:=by omega
   have ha1:all<=2000:=by omega
   by_cases hl:lost<0\/2000<lost
   ·have bd:Hid (topB ps lost all=false):=topB_no (fun q=>by have:=q.1.2.1;omega)
    go_wp2
    go_quiet (first|(with_reducible exact quiet_same' (l6In_yes _ _ _ _ ha0 ha1))|(with_reducible exact quiet_same' (l6In_no _ _ _ _ hl)))
    go_wp2;go_ret;exact⟨ret_bool bd.out.symm,below_drewN FIN.out _⟩
   have hl0:0<=lost:=by omega
   have hl1:lost<=2000:=by omega
   have KA:Hid (∀q,Calls Tryz.prog 277 #[.slice x k c] (wr.drewN q) fun e w'=>e=.returned (.int .i64 (sumP ps))/\wr.drewN q=w'):=fun q=>
    l3All_at _ x k c ps HL.out (Prs.below HPR.out (below_drewN FIN.out q) lr_) (by omega) G.out
   have hsb:=sumP_bd (k:=k) (by rw[HL.out];exact Nat.le_refl _) G.out;rw[List.take_of_length_le (by rw[HL.out];exact Nat.le_refl _)]at hsb;have HI:=hd_ (topB_iff ps lost all);have HF:Hid (sumP ps+5 * lost<=all->topB ps lost all=true):=fun h=>(topB_iff _ _ _).2 ⟨⟨by rw[HL.out];omega,⟨hl0,hl1⟩,ha0,ha1⟩,fun i hi=>G.out i (by rw[HL.out]at hi;exact hi),h⟩
   have HN:Hid (¬sumP ps+5 * lost<=all->topB ps lost all=false):=fun h=>topB_no (fun q=>h q.2.2)
   generalize sumP ps=S at *;have ws:IntKind.i64.wrap (5 * lost)=5 * lost:=IntWalk.i64_in _ (by omega);have ws2:IntKind.i64.wrap (S+5 * lost)=S+5 * lost:=IntWalk.i64_in _ (by omega)
   by_cases hle:S+5 * lost<=all
   ·have fv:=hd_ (HF.out hle)
    go_wp2
    go_quiet (first|(with_reducible exact quiet_same' (l6In_yes _ _ _ _ ha0 ha1))|(with_reducible exact quiet_same' (l6In_yes _ _ _ _ hl0 hl1))|(with_reducible exact quiet_same' (KA.out _)))
    go_wp2;go_ret;exact⟨ret_bool (by first|(rw[fv.out];done)|(rw[fv.out];simp;omega)|(rw[fv.out];simpa using hle)),below_drewN FIN.out _⟩
   ·have fv:=hd_ (HN.out hle)
    go_wp2
    go_quiet (first|(with_reducible exact quiet_same' (l6In_yes _ _ _ _ ha0 ha1))|(with_reducible exact quiet_same' (l6In_yes _ _ _ _ hl0 hl1))|(with_reducible exact quiet_same' (KA.out _)))
    go_wp2;go_ret;exact⟨ret_bool (by first|(rw[fv.out];done)|(rw[fv.out];simp;omega)|(rw[fv.out];simpa using hle)),below_drewN FIN.out _⟩
theorem spTopOk_at (w:World) (u:Value) (ps:List Pr) (lost all:Int) (hp:Prs w u ps):
  Calls Tryz.prog 221 #[.agg #[u,.int .i64 lost,.int .i64 all]] w fun e w'=>e=.returned (.bool (topB ps lost all))/\Below w.heap.size w w':=by
 obtain⟨x,c,rfl,hc0,hc⟩:=hp.form;exact spTopOk_in w x _ c ps lost all rfl hp (by omega)
def tot:List Pr->Int->Int
 | [],_=>0
 |p::ps,t=>(if p.1=t then p.2 else 0)+tot ps t
theorem tot_append (ps qs:List Pr) (t:Int):tot (ps++qs) t=tot ps t+tot qs t:=by
 induction ps with
 |nil=>simp[tot]
 |cons p ps ih=>simp only[List.cons_append,tot,ih];omega
theorem tot_one (p:Pr) (t:Int):tot [p] t=if p.1=t then p.2 else 0:=by simp[tot]
theorem tot_none {ps:List Pr} {t:Int} (h:∀p ∈ ps,p.1≠t):tot ps t=0:=by
 induction ps with
 |nil=>rfl
 |cons p ps ih=>
  have h1:=h p (by simp);simp only[tot,if_neg h1,ih (fun q hq=>h q (by simp[hq]))];rfl
def Asc (ps:List Pr):Prop:=∀i,0<i->i<ps.length->(pr ps (i - 1)).1<(pr ps i).1
theorem Asc.lt {ps:List Pr} (h:Asc ps) {i:Nat}:∀{j:Nat},i<j->j<ps.length->(pr ps i).1<(pr ps j).1:=by
 intro j
 induction j with
 |zero=>intro h0;omega
 |succ j ih=>
  intro hij hj;have h1:=h (j+1) (by omega) hj;rw[Nat.add_sub_cancel]at h1
  by_cases e:i=j
  ·rw[e];exact h1
  ·have:=ih (by omega) (by omega);omega
theorem pr_take {ps:List Pr} {k i:Nat} (h:i<k):pr (ps.take k) i=pr ps i:=by simp[pr,h]
theorem tot_succ (ps:List Pr) (k:Nat) (t:Int) (h:k<ps.length):tot (ps.take (k+1)) t=tot (ps.take k) t+if (pr ps k).1=t then (pr ps k).2 else 0:=by
 rw[take_succ_pr ps k h,tot_append,tot_one]
theorem Asc.before {ps:List Pr} (h:Asc ps) {k:Nat} {t:Int} (hk:k<ps.length) (ht:(pr ps k).1<=t):tot (ps.take k) t=0:=tot_none fun p hp=>by
 obtain⟨i,hi,rfl⟩:=pr_at hp;have hi':i<k:=by simp at hi;omega
 rw[pr_take hi'];have:=h.lt hi' hk;omega
theorem Asc.at {ps:List Pr} (h:Asc ps) {k:Nat} (hk:k<ps.length):tot ps (pr ps k).1=(pr ps k).2:=by
 have e1:tot (ps.drop (k+1)) (pr ps k).1=0:=tot_none fun p hp=>by
  obtain⟨i,hi,rfl⟩:=pr_at hp;have e2:pr (ps.drop (k+1)) i=pr ps (k+1+i):=by simp[pr]
  rw[e2];simp at hi;have:=h.lt (i:=k) (j:=k+1+i) (by omega) (by omega);omega
 have e2:tot ps (pr ps k).1=tot (ps.take (k+1)) (pr ps k).1+tot (ps.drop (k+1)) (pr ps k).1:=by rw[<-tot_append,List.take_append_drop]
 rw[e2,e1,tot_succ ps k _ hk,h.before hk (Int.le_refl _)];simp
theorem TopP.asc {ps:List Pr} {lost all:Int} (h:TopP ps lost all):Asc ps:=fun i h0 hi=>(h.2.1 i hi).2 h0
def isT (t:Int):Bool:=decide (0<=t/\t<64)
theorem isT_yes {t:Int} (h:isT t=true):0<=t/\t<64:=by simpa[isT]using h
theorem isT_no {t:Int} (h:isT t=false):t<0\/64<=t:=by simp[isT]at h;omega
theorem tot_bd {ps:List Pr} {t:Int} (h:∀i,i<ps.length->TopG ps i) (ha:Asc ps):0<=tot ps t/\tot ps t<=2000:=by
 by_cases hx:∃i,i<ps.length/\(pr ps i).1=t
 ·obtain⟨i,hi,rfl⟩:=hx
  rw[ha.at hi];have:=(h i hi).1.2;omega
 ·rw[tot_none fun p hp e=>by obtain⟨i,hi,rfl⟩:=pr_at hp;exact hx ⟨i,hi,e⟩]
  omega
theorem cell_two_new (w:World) (x y:Value) (t:TypeId):∀j u,[x,y][j]? =some u->(w.alloc (.cells #[x,y] t)).cell? ((⟨w.heap.size,0,none⟩:Addr).add j)=some u:=by
 intro j u hj
 match j,hj with
 | 0,hj=>simp at hj;subst hj;simp[Addr.add]
 | 1,hj=>simp at hj;subst hj;simp[Addr.add]
theorem grownBy_of_drew' {w w':World} {row:Option Nat} (h:w.drew.grownBy w' row):w.grownBy w' row:=⟨h.os,h.tape,h.output,h.size,h.block⟩
def putP:List Pr->Pr->List Pr
 | [],x=>[x]
 |p::ps,x=>if p.1<x.1 then p::putP ps x else if p.1=x.1 then (x.1,x.2+p.2)::ps else x::p::ps
def toCome (ps:List Pr) (x:Pr) (d:Bool):List Pr:=if d then ps else putP ps x
theorem putP_len (ps:List Pr) (x:Pr):(putP ps x).length<=ps.length+1:=by
 induction ps with
 |nil=>simp[putP]
 |cons p ps ih=>
  unfold putP
  split
  ·simp;omega
  ·split<;>simp
theorem drop_pr {ps:List Pr} {k:Nat} (h:k<ps.length):ps.drop k=pr ps k::ps.drop (k+1):=by
 rw[List.drop_eq_getElem_cons h];simp[pr,h]
theorem own_snocP {w:World} {B no:Nat} {v:Value} {os:List Pr} {t m:Int} (h:w.ownsRow B 213 2 v (no+1) (prs os++[.int .i64 t,.int .i64 m])) (hn:no=os.length):OwnP w B v (os++[(t,m)]):=by
 unfold OwnP;rw[prs_snoc,List.length_append, <-hn];exact h
theorem below_appendP {B:Nat} {w wr w':World} {o:Obj} {e:TypeId} {size:Nat} {v:Value} {n:Nat} {xs:List Value} (hb:Below B w wr) (hB:B<=wr.heap.size) (ho:wr.ownsRow B e size v n xs) (hg:(wr.alloc o).grownBy w' v.ownBlock):Below B w w':=
 (hb.alloc hB o).grown hg (Nat.le_trans hB (by simp)) (fun k e=>(ho.lt k e).1)
theorem cell_appendP {B:Nat} {wr w':World} {o:Obj} {e:TypeId} {size:Nat} {v u:Value} {n:Nat} {xs:List Value} {a:Addr} (hc:wr.cell? a=some u) (ha:a.block<B) (ho:wr.ownsRow B e size v n xs) (hg:(wr.alloc o).grownBy w' v.ownBlock):w'.cell? a=some u:=
 hg.cell ((World.cell?_alloc_lt (h:=World.block_lt_of_cell? _ _ hc) ..).trans hc) (fun h=>by have:=(ho.lt _ h.symm).1;omega)
theorem l3Put_in (w:World) (x:Option Addr) (n c:Nat) (ps:List Pr) (t m:Int) (hl:ps.length=n) (hp:Prs w (.slice x n c) ps) (hn:n<=100) (hm:∀i,i<n->0<=(pr ps i).2/\(pr ps i).2<=100000) (m0:0<=m) (m1:m<=100000):
  Calls Tryz.prog 226 #[.slice x n c,.agg #[.int .i64 t,.int .i64 m]] w fun e w'=>∃v,e=.returned v/\OwnP w' w.heap.size v (putP ps (t,m))/\Below w.heap.size w w':=by
 obtain⟨i0,hi,hz0,hz1,hz2⟩:=info_parts pair_info;have HP:=hd_ hp.cells;have HL:=hd_ hl;have HM:=hd_ hm;have hA:=(Below.refl w.heap.size w).alloc lr_ (.cells #[.int .i64 t,.int .i64 m] 213);have HA:=hd_ hA;have C0:Hid ((w.alloc (.cells #[.int .i64 t,.int .i64 m] 213)).cell? ⟨w.heap.size,0,none⟩=some (.int .i64 t)):=by show _=_;simp
 have C1:Hid ((w.alloc (.cells #[.int .i64 t,.int .i64 m] 213)).cell? ⟨w.heap.size,1,none⟩=some (.int .i64 m)):=by show _=_;simp
 have E0:Hid (OwnP ((w.alloc (.cells #[.int .i64 t,.int .i64 m] 213)).alloc (.cells #[] 213)) (w.heap.size+1) (.slice (some ⟨w.heap.size+1,0,none⟩) 0 0) []):=by
  have h:=pair_empty (w.alloc (.cells #[.int .i64 t,.int .i64 m] 213)) (w.heap.size+1) (by simp);have e:(w.alloc (.cells #[.int .i64 t,.int .i64 m] 213)).heap.size=w.heap.size+1:=by simp
  rw[e]at h;exact h
 clear hl hp hm hA;go_enter Tryz.func226,Tryz.ntmps226;go_wp2;go_loopw [5,6,7] (fun u d i wr=>∃(k:Nat) (dn:Bool) (os:List Pr),k<=n/\i=.int .i64 k/\d=.bool dn/\os.length<=k+dn.toNat/\OwnP wr (w.heap.size+1) u os/\os++toCome (ps.drop k) (t,m) dn=putP ps (t,m)/\Below (w.heap.size+1) (w.alloc (.cells #[.int .i64 t,.int .i64 m] 213)) wr) (fun _ _ i _=>n - (intOf i).toNat)
 case atStart=>exact⟨0,false,[],Nat.zero_le _,rfl,rfl,Nat.zero_le _,E0.out,rfl,(Below.refl _ _).alloc (by simp) _⟩
 case round=>
  obtain⟨k,dn,os,hk,rfl,rfl,hos,hown,hput,hbl⟩:=hrel;obtain⟨y,cp,hu,_,_⟩:=hown.form;obtain⟨no,hno⟩:∃no,no=os.length:=⟨_,rfl⟩
  have hdn:dn.toNat<=1:=by cases dn<;>simp
  have hno2:no<=200:=by omega
  clear hdn;rw[<-hno]at hu;subst hu;have HN:=hd_ hno;have HPT:=hd_ hput;have HB:=hd_ hbl;have hsz:=hbl.size;simp only[World.size_alloc]at hsz;have ho:wr.ownsRow (w.heap.size+1) 213 2 (.slice y no cp) no (prs os):=by have h:=hown;unfold OwnP at h;rw[<-hno]at h;exact h
  have HO:=hd_ ho;have b0:wr.cell? ⟨w.heap.size,0,none⟩=some (.int .i64 t):=(hbl.cell (p:=⟨w.heap.size,0,none⟩) (by simp)).trans C0.out;have b1:wr.cell? ⟨w.heap.size,1,none⟩=some (.int .i64 m):=(hbl.cell (p:=⟨w.heap.size,1,none⟩) (by simp)).trans C1.out;have hlt1:w.heap.size<w.heap.size+1:=Nat.lt_succ_self _;clear hput hbl hown hno ho
  by_cases hlt:k<n
  ·obtain⟨b,o,rfl,hb,h1,h2⟩:=HP.out k (by rw[HL.out];exact hlt)
   have tr:∀j v,w.cell? ⟨b,j,none⟩=some v->wr.cell? ⟨b,j,none⟩=some v:=fun j v h=>by
    rw[HB.out.cell (p:=⟨b,j,none⟩) (by show b<_;omega),HA.out.cell (p:=⟨b,j,none⟩) hb];exact h
   replace h1:=tr _ _ h1;replace h2:=tr _ _ h2;have hb1:b<w.heap.size+1:=by omega
   have hd:=drop_pr (ps:=ps) (k:=k) (by rw[HL.out];exact hlt);have hmm:=HM.out k hlt;have H200:no<=200:=hno2;generalize pr ps k=q at h1 h2 hd hmm;obtain⟨t',m'⟩:=q;simp only at h1 h2 hmm;rw[hd]at HPT;obtain⟨mm0,mm1⟩:=hmm;clear hd tr;have k0:(0:Int)<=(k:Int):=by omega
   have kn:(k:Int)<(n:Int):=by omega
   cases dn with
   |true=>
    have hos1:os.length<=k+1:=hos;clear hos;go_wp2
    go_quiet (fail)
    obtain⟨wq,hwq⟩:∃wq,wq=wr.drewN nq:=⟨_,rfl⟩
    have HOq:Hid (wq.ownsRow (w.heap.size+1) 213 2 (.slice y no cp) no (prs os)):=by rw[hwq];exact HO.out
    have HBq:Hid (Below (w.heap.size+1) (w.alloc (.cells #[.int .i64 t,.int .i64 m] 213)) wq):=by rw[hwq];exact below_drewN HB.out _
    have hszq:w.heap.size+1<=wq.heap.size:=by rw[hwq];exact hsz
    have h1q:wq.cell? ⟨b,o+k * 2,none⟩=some (.int .i64 t'):=by rw[hwq];exact h1
    have h2q:wq.cell? ⟨b,o+k * 2+1,none⟩=some (.int .i64 m'):=by rw[hwq];exact h2
    have b0q:wq.cell? ⟨w.heap.size,0,none⟩=some (.int .i64 t):=by rw[hwq];exact b0
    have b1q:wq.cell? ⟨w.heap.size,1,none⟩=some (.int .i64 m):=by rw[hwq];exact b1
    rw[<-hwq];clear hwq h1 h2 b0 b1 HO HB hsz
    go_wp2_with (first|(at_builtin;refine wpList_append_own _ rfl _ _ 39 rfl (w.heap.size+1) 213 i0 (.agg #[.int .i64 0,.int .i64 0]) 2 16 Tryz.underlying39 hi hz0 hz1 hz2 rfl (by decide) _ _ _ rfl (HOq.out.alloc _) ⟨wq.heap.size,0,none⟩ 1 1 [.int .i64 t',.int .i64 m'] rfl rfl (cell_two_new _ _ _ _) (by simp[Value.oneCell']) (by unfold maxLen;omega) (by omega) (by simp;omega) ?_;intro v1 w1 ho1 hg1 _;obtain⟨g_v1,c_v1,rfl,_,_⟩:=World.ownsRow.form ho1 (Nat.succ_pos _)))
    go_roundw
    case rel=>exact⟨k+1,true,os++[(t',m')],by omega,by go_num,rfl,by simp;omega,own_snocP ho1 HN.out,by rw[<-HPT.out];simp[toCome],below_appendP HBq.out hszq HOq.out hg1⟩
    case measure=>simp[intOf];omega
   |false=>
    have hos1:os.length<=k:=hos;clear hos
    by_cases hlt2:t'<t
    ·have hD:decide (t<=t')=false:=decide_eq_false (by omega)
     go_wp2
     go_quiet (fail)
     obtain⟨wq,hwq⟩:∃wq,wq=wr.drewN nq:=⟨_,rfl⟩
     have HOq:Hid (wq.ownsRow (w.heap.size+1) 213 2 (.slice y no cp) no (prs os)):=by rw[hwq];exact HO.out
     have HBq:Hid (Below (w.heap.size+1) (w.alloc (.cells #[.int .i64 t,.int .i64 m] 213)) wq):=by rw[hwq];exact below_drewN HB.out _
     have hszq:w.heap.size+1<=wq.heap.size:=by rw[hwq];exact hsz
     have h1q:wq.cell? ⟨b,o+k * 2,none⟩=some (.int .i64 t'):=by rw[hwq];exact h1
     have h2q:wq.cell? ⟨b,o+k * 2+1,none⟩=some (.int .i64 m'):=by rw[hwq];exact h2
     have b0q:wq.cell? ⟨w.heap.size,0,none⟩=some (.int .i64 t):=by rw[hwq];exact b0
     have b1q:wq.cell? ⟨w.heap.size,1,none⟩=some (.int .i64 m):=by rw[hwq];exact b1
     rw[<-hwq];clear hwq h1 h2 b0 b1 HO HB hsz
     go_wp2_with (first|(at_builtin;refine wpList_append_own _ rfl _ _ 39 rfl (w.heap.size+1) 213 i0 (.agg #[.int .i64 0,.int .i64 0]) 2 16 Tryz.underlying39 hi hz0 hz1 hz2 rfl (by decide) _ _ _ rfl (HOq.out.alloc _) ⟨wq.heap.size,0,none⟩ 1 1 [.int .i64 t',.int .i64 m'] rfl rfl (cell_two_new _ _ _ _) (by simp[Value.oneCell']) (by unfold maxLen;omega) (by omega) (by simp;omega) ?_;intro v1 w1 ho1 hg1 _;obtain⟨g_v1,c_v1,rfl,_,_⟩:=World.ownsRow.form ho1 (Nat.succ_pos _)))
     go_roundw
     case rel=>exact⟨k+1,false,os++[(t',m')],by omega,by go_num,rfl,by simp;omega,own_snocP ho1 HN.out,by rw[<-HPT.out];simp[toCome,putP,hlt2],below_appendP HBq.out hszq HOq.out hg1⟩
     case measure=>simp[intOf];omega
    ·have hD:decide (t<=t')=true:=decide_eq_true (by omega)
     by_cases he:t'=t
     ·have he':=he.symm
      subst he';go_wp2
      go_quiet (fail)
      obtain⟨wq,hwq⟩:∃wq,wq=wr.drewN nq:=⟨_,rfl⟩
      have HOq:Hid (wq.ownsRow (w.heap.size+1) 213 2 (.slice y no cp) no (prs os)):=by rw[hwq];exact HO.out
      have HBq:Hid (Below (w.heap.size+1) (w.alloc (.cells #[.int .i64 t,.int .i64 m] 213)) wq):=by rw[hwq];exact below_drewN HB.out _
      have hszq:w.heap.size+1<=wq.heap.size:=by rw[hwq];exact hsz
      have h1q:wq.cell? ⟨b,o+k * 2,none⟩=some (.int .i64 t):=by rw[hwq];exact h1
      have h2q:wq.cell? ⟨b,o+k * 2+1,none⟩=some (.int .i64 m'):=by rw[hwq];exact h2
      have b0q:wq.cell? ⟨w.heap.size,0,none⟩=some (.int .i64 t):=by rw[hwq];exact b0
      have b1q:wq.cell? ⟨w.heap.size,1,none⟩=some (.int .i64 m):=by rw[hwq];exact b1
      rw[<-hwq];clear hwq h1 h2 b0 b1 HO HB hsz;have ws:IntKind.i64.wrap (m+m')=m+m':=IntWalk.i64_in _ (by omega);go_wp2
      go_quiet (fail)
      obtain⟨w3,hw3⟩:∃w3,w3=wq.drewN nq:=⟨_,rfl⟩
      have HO3:Hid (w3.ownsRow (w.heap.size+1) 213 2 (.slice y no cp) no (prs os)):=by rw[hw3];exact HOq.out
      have HB3:Hid (Below (w.heap.size+1) (w.alloc (.cells #[.int .i64 t,.int .i64 m] 213)) w3):=by rw[hw3];exact below_drewN HBq.out _
      have hsz3:w.heap.size+1<=w3.heap.size:=by rw[hw3];exact hszq
      have h2r:w3.cell? ⟨b,o+k * 2+1,none⟩=some (.int .i64 m'):=by rw[hw3];exact h2q
      have b0r:w3.cell? ⟨w.heap.size,0,none⟩=some (.int .i64 t):=by rw[hw3];exact b0q
      have b1r:w3.cell? ⟨w.heap.size,1,none⟩=some (.int .i64 m):=by rw[hw3];exact b1q
      rw[<-hw3];clear hw3 h1q h2q b0q b1q HOq HBq hszq
      go_wp2_with fail
      go_region_law ((refine step_append_lies _ (by rfl) _ _ _ (by rfl) (w.heap.size+1) 213 i0 _ 2 16 Tryz.underlying39 hi hz0 hz1 hz2 rfl (by decide) (.slice y no cp) no (prs os) (by rfl) ((HO3.out.alloc _).drew) ⟨w3.heap.size,0,none⟩ 1 1 [.int .i64 t,.int .i64 (m+m')] (by rfl) (by rfl) (World.news_of_block (cs:=#[.int .i64 t,.int .i64 (m+m')]) (t:=213) (fr:=(0,0)) (heap_alloc_new w3 _)) (by simp[Value.oneCell']) (by omega) (by unfold maxLen;omega) (by omega) (by simp;omega) (w3.heap.size+1) (by simp) ?_;intro g1 cap1 w4 hown4 hgrow4 hat4 hlt4))
      all_goals
       have hg5:(w3.alloc (.cells #[.int .i64 t,.int .i64 (m+m')] 213)).grownBy w4 (Value.slice y no cp).ownBlock:=grownBy_of_drew' hgrow4;go_wp2;go_roundw
       case rel=>exact⟨k+1,true,os++[(t,m+m')],by omega,by go_num,rfl,by simp;omega,own_snocP hown4 HN.out,by rw[<-HPT.out];simp[toCome,putP],below_appendP HB3.out hsz3 HO3.out hg5⟩
       case measure=>simp[intOf];omega
     ·have he1:(t'==t)=false:=by simpa using he
      have he2:decide (t'=t)=false:=by simpa using he
      go_wp2
      go_quiet (fail)
      obtain⟨wq,hwq⟩:∃wq,wq=wr.drewN nq:=⟨_,rfl⟩
      have HOq:Hid (wq.ownsRow (w.heap.size+1) 213 2 (.slice y no cp) no (prs os)):=by rw[hwq];exact HO.out
      have HBq:Hid (Below (w.heap.size+1) (w.alloc (.cells #[.int .i64 t,.int .i64 m] 213)) wq):=by rw[hwq];exact below_drewN HB.out _
      have hszq:w.heap.size+1<=wq.heap.size:=by rw[hwq];exact hsz
      have h1q:wq.cell? ⟨b,o+k * 2,none⟩=some (.int .i64 t'):=by rw[hwq];exact h1
      have h2q:wq.cell? ⟨b,o+k * 2+1,none⟩=some (.int .i64 m'):=by rw[hwq];exact h2
      have b0q:wq.cell? ⟨w.heap.size,0,none⟩=some (.int .i64 t):=by rw[hwq];exact b0
      have b1q:wq.cell? ⟨w.heap.size,1,none⟩=some (.int .i64 m):=by rw[hwq];exact b1
      rw[<-hwq];clear hwq h1 h2 b0 b1 HO HB hsz;go_wp2
      go_quiet (fail)
      obtain⟨w3,hw3⟩:∃w3,w3=wq.drewN nq:=⟨_,rfl⟩
      have HO3:Hid (w3.ownsRow (w.heap.size+1) 213 2 (.slice y no cp) no (prs os)):=by rw[hw3];exact HOq.out
      have HB3:Hid (Below (w.heap.size+1) (w.alloc (.cells #[.int .i64 t,.int .i64 m] 213)) w3):=by rw[hw3];exact below_drewN HBq.out _
      have hsz3:w.heap.size+1<=w3.heap.size:=by rw[hw3];exact hszq
      have h1r:w3.cell? ⟨b,o+k * 2,none⟩=some (.int .i64 t'):=by rw[hw3];exact h1q
      have h2r:w3.cell? ⟨b,o+k * 2+1,none⟩=some (.int .i64 m'):=by rw[hw3];exact h2q
      have b0r:w3.cell? ⟨w.heap.size,0,none⟩=some (.int .i64 t):=by rw[hw3];exact b0q
      have b1r:w3.cell? ⟨w.heap.size,1,none⟩=some (.int .i64 m):=by rw[hw3];exact b1q
      rw[<-hw3];clear hw3 h1q h2q b0q b1q HOq HBq hszq
      go_wp2_with (first|(at_builtin;refine wpList_append_own _ rfl _ _ 39 rfl (w.heap.size+1) 213 i0 (.agg #[.int .i64 0,.int .i64 0]) 2 16 Tryz.underlying39 hi hz0 hz1 hz2 rfl (by decide) _ _ _ rfl (HO3.out.alloc _) ⟨w3.heap.size,0,none⟩ 1 1 [.int .i64 t,.int .i64 m] rfl rfl (cell_two_new _ _ _ _) (by simp[Value.oneCell']) (by unfold maxLen;omega) (by omega) (by simp;omega) ?_;intro v1 w1 ho1 hg1 _;obtain⟨g_v1,c_v1,rfl,_,_⟩:=World.ownsRow.form ho1 (Nat.succ_pos _);have c_1:=cell_appendP h1r hb1 HO3.out hg1;have c_2:=cell_appendP h2r hb1 HO3.out hg1;have sz1:=hg1.size;simp only[World.size_alloc]at sz1;clear h1r h2r)|(at_builtin;refine wpList_append_own _ rfl _ _ 39 rfl (w.heap.size+1) 213 i0 (.agg #[.int .i64 0,.int .i64 0]) 2 16 Tryz.underlying39 hi hz0 hz1 hz2 rfl (by decide) _ _ _ rfl (ho1.alloc _) ⟨w1.heap.size,0,none⟩ 1 1 [.int .i64 t',.int .i64 m'] rfl rfl (cell_two_new _ _ _ _) (by simp[Value.oneCell']) (by unfold maxLen;omega) (by omega) (by simp;omega) ?_;intro v2 w2 ho2 hg2 _;obtain⟨g_v2,c_v2,rfl,_,_⟩:=World.ownsRow.form ho2 (Nat.succ_pos _)))
      have o1:=own_snocP ho1 HN.out;have o2:=own_snocP (os:=os++[(t,m)]) (by have h:=ho2;rw[show prs os++[Value.int .i64 t,Value.int .i64 m]=prs (os++[(t,m)])from (prs_snoc os (t,m)).symm]at h;exact h) (by simp;exact HN.out);have e2:toCome ((t',m')::ps.drop (k+1)) (t,m) false=[(t,m)]++[(t',m')]++ps.drop (k+1):=by simp[toCome,putP,he,hlt2]
      rw[e2]at HPT;have B1:=below_appendP HB3.out hsz3 HO3.out hg1;have B2:=below_appendP B1 (by omega) ho1 hg2;clear e2 B1;go_roundw
      case rel=>exact⟨k+1,true,os++[(t,m)]++[(t',m')],by omega,by go_num,rfl,by simp;omega,o2,by rw[<-HPT.out];simp[toCome],B2⟩
      case measure=>simp[intOf];omega
  ·have hd0:ps.drop k=[]:=List.drop_of_length_le (by rw[HL.out];omega)
   rw[hd0]at HPT;clear hd0;cases dn with
   |true=>
    go_wp2;go_ret;refine⟨_,rfl,?_,HA.out.trans (HB.out.mono (Nat.le_succ _))⟩;have e:putP ps (t,m)=os:=by rw[<-HPT.out];simp[toCome]
    rw[e];have ho:=HO.out;rw[HN.out]at ho ⊢;exact ownsRow_base ho (Nat.le_succ _)
   |false=>
    go_wp2_with (first|(at_builtin;refine wpList_append_own _ rfl _ _ 39 rfl (w.heap.size+1) 213 i0 (.agg #[.int .i64 0,.int .i64 0]) 2 16 Tryz.underlying39 hi hz0 hz1 hz2 rfl (by decide) _ _ _ rfl (HO.out.alloc _) ⟨wr.heap.size,0,none⟩ 1 1 [.int .i64 t,.int .i64 m] rfl rfl (cell_two_new _ _ _ _) (by simp[Value.oneCell']) (by unfold maxLen;omega) (by omega) (by simp;omega) ?_;intro v1 w1 ho1 hg1 _;obtain⟨g_v1,c_v1,rfl,_,_⟩:=World.ownsRow.form ho1 (Nat.succ_pos _)))
    go_ret;refine⟨_,rfl,?_,HA.out.trans ((below_appendP HB.out hsz HO.out hg1).mono (Nat.le_succ _))⟩;have e:putP ps (t,m)=os++[(t,m)]:=by rw[<-HPT.out];simp[toCome,putP]
    rw[e];exact (own_snocP ho1 HN.out).base (Nat.le_succ _)
theorem l3Put_at (w:World) (v:Value) (ps:List Pr) (t m:Int) (hp:Prs w v ps) (hn:ps.length<=100) (hm:∀i,i<ps.length->0<=(pr ps i).2/\(pr ps i).2<=100000) (m0:0<=m) (m1:m<=100000):
  Calls Tryz.prog 226 #[v,.agg #[.int .i64 t,.int .i64 m]] w fun e w'=>∃v,e=.returned v/\OwnP w' w.heap.size v (putP ps (t,m))/\Below w.heap.size w w':=by
 obtain⟨x,c,rfl,_,_⟩:=hp.form;exact l3Put_in w x _ c ps t m rfl hp hn hm m0 m1
def Box3 (W:World) (b:Nat) (t:TypeId) (x y z:Value):Prop:=W.heap[b]? =some (.cells #[x,y,z] t (0,0))
section
variable {W W':World} {b:Nat} {t:TypeId} {x y z:Value}
theorem Box3.lt (h:Box3 W b t x y z):b<W.heap.size:=(Array.getElem?_eq_some_iff.1 h).1
theorem Box3.new (W:World) (t:TypeId) (x y z:Value):Box3 (W.alloc (.cells #[x,y,z] t)) W.heap.size t x y z:=heap_alloc_new W _
theorem Box3.below (h:Box3 W b t x y z) {B:Nat} (hb:Below B W W') (hB:b<B):Box3 W' b t x y z:=(hb.block b hB).trans h
theorem Box3.later (h:Box3 W b t x y z) (hb:Below W.heap.size W W'):Box3 W' b t x y z:=h.below hb h.lt
theorem Box3.drew (h:Box3 W b t x y z):Box3 W.drew b t x y z:=h
theorem Box3.alloc (h:Box3 W b t x y z) (o:Obj):Box3 (W.alloc o) b t x y z:=h.later ((Below.refl _ _).alloc lr_ o)
theorem Box3.cell0 (h:Box3 W b t x y z):W.cell? ⟨b,0,none⟩=some x:=by unfold Box3 at h;simp[World.cell?,h]
theorem Box3.cell1 (h:Box3 W b t x y z):W.cell? ⟨b,1,none⟩=some y:=by unfold Box3 at h;simp[World.cell?,h]
theorem Box3.cell2 (h:Box3 W b t x y z):W.cell? ⟨b,2,none⟩=some z:=by unfold Box3 at h;simp[World.cell?,h]
theorem Box3.free (h:Box3 W b t x y z) (i:Nat):W.frozen? ⟨b,i,none⟩=false:=by unfold Box3 at h;simp[World.frozen?,h]
theorem Box3.set0 (h:Box3 W b t x y z) (u:Value):Box3 (W.setCell ⟨b,0,none⟩ u) b t u y z:=by unfold Box3 at h ⊢;rw[heap_setCell_same W b 0 _ _ _ h];rfl
theorem Box3.set1 (h:Box3 W b t x y z) (u:Value):Box3 (W.setCell ⟨b,1,none⟩ u) b t x u z:=by unfold Box3 at h ⊢;rw[heap_setCell_same W b 1 _ _ _ h];rfl
theorem Box3.set2 (h:Box3 W b t x y z) (u:Value):Box3 (W.setCell ⟨b,2,none⟩ u) b t x y u:=by unfold Box3 at h ⊢;rw[heap_setCell_same W b 2 _ _ _ h];rfl
theorem Box3.set (h:Box3 W b t x y z) (x' y' z':Value):Box3 (((W.setCell ⟨b,0,none⟩ x').setCell ⟨b,1,none⟩ y').setCell ⟨b,2,none⟩ z') b t x' y' z':=((h.set0 x').set1 y').set2 z'
theorem Box3.not_row {B:Nat} {e:TypeId} {size n:Nat} {v:Value} {xs:List Value} (h:Box3 W b t x y z) (ht:t≠e) (ho:W.ownsRow B e size v n xs):v.ownBlock≠some b:=fun hb=>by
 rcases ho.2 with ⟨rfl,_⟩|⟨g,cap,cur,rfl,_,hg,_⟩
 ·cases hb
 ·obtain rfl:g=b:=by simpa[Value.ownBlock]using hb
  unfold Box3 at h;rw[hg]at h;cases h;exact ht rfl
end
theorem below_set3 {B b:Nat} {w W:World} (h:Below B w W) (hb:B<=b) (x y z:Value):Below B w (((W.setCell ⟨b,0,none⟩ x).setCell ⟨b,1,none⟩ y).setCell ⟨b,2,none⟩ z):=((h.setCell hb _).setCell hb _).setCell hb _
theorem OwnP.set3 {W:World} {B b:Nat} {v:Value} {ps:List Pr} (h:OwnP W B v ps) (hv:v.ownBlock≠some b) (x y z:Value):OwnP (((W.setCell ⟨b,0,none⟩ x).setCell ⟨b,1,none⟩ y).setCell ⟨b,2,none⟩ z) B v ps:=
 ((h.keep (grownBy_setCell W ⟨b,0,none⟩ x) hv).keep (grownBy_setCell _ ⟨b,1,none⟩ y) hv).keep (grownBy_setCell _ ⟨b,2,none⟩ z) hv
def cntGe (ps:List Pr) (v:Int):Nat:=(ps.filter fun p=>decide (v<=p.2)).length
def overK (ps:List Pr):Nat->Int
 | 0=>0
 |k+1=>if 4<cntGe ps (pr ps k).2 then max (overK ps k) (pr ps k).2 else overK ps k
def overV (ps:List Pr):Int:=overK ps ps.length
theorem cntGe_le (ps:List Pr) (v:Int):cntGe ps v<=ps.length:=List.length_filter_le _ _
theorem cntGe_succ (ps:List Pr) (k:Nat) (v:Int) (h:k<ps.length):cntGe (ps.take (k+1)) v=cntGe (ps.take k) v+if v<=(pr ps k).2 then 1 else 0:=by
 rw[take_succ_pr ps k h];unfold cntGe;rw[List.filter_append,List.length_append]
 by_cases h:v<=(pr ps k).2<;>simp[h]
theorem overK_bd {ps:List Pr} {M:Int} {k:Nat} (hM:0<=M) (hk:k<=ps.length) (h:∀i,i<ps.length->0<=(pr ps i).2/\(pr ps i).2<=M):0<=overK ps k/\overK ps k<=M:=by
 induction k with
 |zero=>exact⟨Int.le_refl _,hM⟩
 |succ k ih=>
  have:=ih (by omega);have:=h k (by omega);unfold overK
  split<;>omega
theorem overV_bd {ps:List Pr} {M:Int} (hM:0<=M) (h:∀i,i<ps.length->0<=(pr ps i).2/\(pr ps i).2<=M):0<=overV ps/\overV ps<=M:=overK_bd hM lr_ h
theorem l3Over_in (w:World) (x:Option Addr) (n c:Nat) (ps:List Pr) (hl:ps.length=n) (hp:Prs w (.slice x n c) ps) (hn:n<=100) (hm:∀i,i<n->0<=(pr ps i).2/\(pr ps i).2<=100000):
  Calls Tryz.prog 278 #[.slice x n c] w fun e w'=>e=.returned (.int .i64 (overV ps))/\Below w.heap.size w w':=by
 have HP:=hd_ hp.cells;have HL:=hd_ hl;have HM:=hd_ hm;clear hl hp hm;go_enter Tryz.func278,Tryz.ntmps278;go_wp2;go_loopw [3,4] (fun q i wr=>∃k:Nat,k<=n/\i=.int .i64 k/\q=.int .i64 (overK ps k)/\Below w.heap.size w wr) (fun _ i _=>n - (intOf i).toNat)
 case atStart=>exact⟨0,Nat.zero_le _,rfl,rfl,Below.refl _ _⟩
 case round=>
  obtain⟨k,hk,rfl,rfl,hbl⟩:=hrel;have HB:=hd_ hbl;have ob:=overK_bd (ps:=ps) (M:=100000) (k:=k) (by omega) (by rw[HL.out];exact hk) (fun i hi=>HM.out i (by rw[HL.out]at hi;exact hi));clear hbl
  by_cases hlt:k<n
  ·obtain⟨b,o,rfl,hb,g1,g2⟩:=HP.out k (by rw[HL.out];exact hlt)
   have G2:=hd_ g2;have hmk:=HM.out k hlt;have hov:Hid (overK ps (k+1)=if 4<cntGe ps (pr ps k).2 then max (overK ps k) (pr ps k).2 else overK ps k):=by show overK _ _=_;rfl
   have k0:(0:Int)<=(k:Int):=by omega
   have kn:(k:Int)<(n:Int):=by omega
   obtain⟨wo,rfl⟩:∃wo:World,wo=wr:=⟨_,rfl⟩
   generalize (pr ps k).2=v at G2 hmk hov;clear g1 g2;go_wp2;go_loopw [5,6] (fun q i wr=>∃j:Nat,j<=n/\i=.int .i64 j/\q=.int .i64 (cntGe (ps.take j) v)/\Below wo.heap.size wo wr) (fun _ i _=>n - (intOf i).toNat)
   case atStart=>exact⟨0,Nat.zero_le _,rfl,rfl,Below.refl _ _⟩
   case round=>
    obtain⟨j,hj,rfl,rfl,hbj⟩:=hrel;have HJ:=hd_ hbj;have FB:=hd_ (HB.out.trans (hbj.mono HB.out.size));have cb:=cntGe_le (ps.take j) v;have cl:(ps.take j).length<=100:=by have:=HL.out;simp;omega
    have g2w:wr.cell? ⟨b,o+k * 2+1,none⟩=some (.int .i64 v):=(FB.out.cell (p:=⟨b,o+k * 2+1,none⟩) hb).trans G2.out;clear hbj
    by_cases hjl:j<n
    ·obtain⟨b',o',e',hb',h1,h2⟩:=HP.out j (by rw[HL.out];exact hjl)
     cases e';have h2w:=(FB.out.cell (p:=⟨b,o+j * 2+1,none⟩) hb).trans h2;have hc:=hd_ (cntGe_succ ps j v (by rw[HL.out];exact hjl));have hmj:=HM.out j hjl;generalize (pr ps j).2=u at h2w hc hmj;generalize cntGe (ps.take j) v=C at *;have j0:(0:Int)<=(j:Int):=by omega
     have jn:(j:Int)<(n:Int):=by omega
     clear h1 h2
     by_cases hvu:v<=u
     ·rw[if_pos hvu]at hc
      go_wp2
      go_quiet (fail)
      go_wp2;go_roundw
      case rel=>exact⟨j+1,by omega,by go_num,by rw[hc.out];go_num,below_drewN HJ.out _⟩
      case measure=>simp[intOf];omega
     ·rw[if_neg hvu]at hc
      go_wp2
      go_quiet (fail)
      go_wp2;go_roundw
      case rel=>exact⟨j+1,by omega,by go_num,by rw[hc.out];rfl,below_drewN HJ.out _⟩
      case measure=>simp[intOf];omega
    ·obtain rfl:j=n:=by omega
     have e1:ps.take j=ps:=List.take_of_length_le (by rw[HL.out];exact Nat.le_refl _);rw[e1]at cb ⊢;generalize cntGe ps v=C at *;clear e1 cl
     by_cases h4:4<C
     ·rw[if_pos h4]at hov
      go_wp2;go_roundw
      case rel=>exact⟨k+1,by omega,by go_num,by rw[hov.out]<;>first|rfl|(congr 1;omega)|(congr 1;simp[Int.max_def];omega),FB.out⟩
      case measure=>simp[intOf];omega
     ·rw[if_neg h4]at hov
      go_wp2;go_roundw
      case rel=>exact⟨k+1,by omega,by go_num,by rw[hov.out],FB.out⟩
      case measure=>simp[intOf];omega
  ·obtain rfl:k=n:=by omega
   go_wp2;go_ret;exact⟨ret_int (by unfold overV;rw[HL.out]),HB.out⟩
theorem l3Over_at (w:World) (v:Value) (ps:List Pr) (hp:Prs w v ps) (hn:ps.length<=100) (hm:∀i,i<ps.length->0<=(pr ps i).2/\(pr ps i).2<=100000):
  Calls Tryz.prog 278 #[v] w fun e w'=>e=.returned (.int .i64 (overV ps))/\Below w.heap.size w w':=by
 obtain⟨x,c,rfl,_,_⟩:=hp.form;exact l3Over_in w x _ c ps rfl hp hn hm
def lessV:List Pr->Int->List Pr
 | [],_=>[]
 |p::ps,n=>if n<p.2 then (p.1,p.2 - n)::lessV ps n else lessV ps n
theorem lessV_append (ps qs:List Pr) (n:Int):lessV (ps++qs) n=lessV ps n++lessV qs n:=by
 induction ps with
 |nil=>rfl
 |cons p ps ih=>
  simp only[List.cons_append,lessV]
  split<;>simp[ih]
theorem lessV_len (ps:List Pr) (n:Int):(lessV ps n).length<=ps.length:=by
 induction ps with
 |nil=>simp[lessV]
 |cons p ps ih=>unfold lessV;split<;>simp<;>omega
theorem lessV_succ (ps:List Pr) (k:Nat) (n:Int) (h:k<ps.length):lessV (ps.take (k+1)) n=lessV (ps.take k) n++if n<(pr ps k).2 then [((pr ps k).1,(pr ps k).2 - n)]else []:=by
 rw[take_succ_pr ps k h,lessV_append];simp only[lessV]
theorem l3Less_in (w:World) (x:Option Addr) (n c:Nat) (ps:List Pr) (m:Int) (hl:ps.length=n) (hp:Prs w (.slice x n c) ps) (hn:n<=100) (hm:∀i,i<n->0<=(pr ps i).2/\(pr ps i).2<=100000) (m0:0<=m) (m1:m<=100000):
  Calls Tryz.prog 279 #[.slice x n c,.int .i64 m] w fun e w'=>∃v,e=.returned v/\OwnP w' w.heap.size v (lessV ps m)/\Below w.heap.size w w':=by
 obtain⟨i0,hi,hz0,hz1,hz2⟩:=info_parts pair_info;have HP:=hd_ hp.cells;have HL:=hd_ hl;have HM:=hd_ hm;have E0:=hd_ (pair_empty w w.heap.size lr_);clear hl hp hm;go_enter Tryz.func279,Tryz.ntmps279;go_wp2;go_loopw [5,6] (fun u i wr=>∃(k:Nat) (os:List Pr),k<=n/\i=.int .i64 k/\os=lessV (ps.take k) m/\OwnP wr w.heap.size u os/\Below w.heap.size w wr) (fun _ i _=>n - (intOf i).toNat)
 case atStart=>exact⟨0,[],Nat.zero_le _,rfl,by simp[lessV],E0.out,(Below.refl _ _).alloc lr_ _⟩
 case round=>
  obtain⟨k,os,hk,rfl,hos,hown,hbl⟩:=hrel;obtain⟨y,cp,hu,_,_⟩:=hown.form;obtain⟨no,hno⟩:∃no,no=os.length:=⟨_,rfl⟩
  have hno2:no<=200:=by have:=lessV_len (ps.take k) m;rw[hno,hos];have:=HL.out;simp at *;omega
  rw[<-hno]at hu;subst hu;have HOS:=hd_ hos;have HN:=hd_ hno;have HB:=hd_ hbl;have hsz:=hbl.size;have ho:wr.ownsRow w.heap.size 213 2 (.slice y no cp) no (prs os):=by have h:=hown;unfold OwnP at h;rw[<-hno]at h;exact h
  have HO:=hd_ ho;clear hbl hown hno ho hos
  by_cases hlt:k<n
  ·obtain⟨b,o,rfl,hb,h1,h2⟩:=HP.out k (by rw[HL.out];exact hlt)
   replace h1:=(HB.out.cell (p:=⟨b,o+k * 2,none⟩) hb).trans h1;replace h2:=(HB.out.cell (p:=⟨b,o+k * 2+1,none⟩) hb).trans h2;have hs:=hd_ (lessV_succ ps k m (by rw[HL.out];exact hlt));have hmm:=HM.out k hlt;generalize pr ps k=q at h1 h2 hs hmm;obtain⟨t',m'⟩:=q;simp only at h1 h2 hmm;have k0:(0:Int)<=(k:Int):=by omega
   have kn:(k:Int)<(n:Int):=by omega
   by_cases hlm:m<m'
   ·rw[if_pos (by exact hlm)]at hs
    have ws:IntKind.i64.wrap (m' - m)=m' - m:=IntWalk.i64_in _ (by omega)
    go_wp2_with fail
    go_region_law ((refine step_append_lies _ (by rfl) _ _ _ (by rfl) w.heap.size 213 i0 _ 2 16 Tryz.underlying39 hi hz0 hz1 hz2 rfl (by decide) (.slice y no cp) no (prs os) (by rfl) ((HO.out.alloc _).drew) ⟨wr.heap.size,0,none⟩ 1 1 [.int .i64 t',.int .i64 (m' - m)] (by rfl) (by rfl) (World.news_of_block (cs:=#[.int .i64 t',.int .i64 (m' - m)]) (t:=213) (fr:=(0,0)) (heap_alloc_new wr _)) (by simp[Value.oneCell']) (by omega) (by unfold maxLen;omega) (by omega) (by simp;omega) (wr.heap.size+1) (by simp) ?_;intro g1 cap1 w4 hown4 hgrow4 hat4 hlt4))
    all_goals
     have hg5:(wr.alloc (.cells #[.int .i64 t',.int .i64 (m' - m)] 213)).grownBy w4 (Value.slice y no cp).ownBlock:=grownBy_of_drew' hgrow4;go_wp2;go_roundw
     case rel=>exact⟨k+1,os++[(t',m' - m)],by omega,by go_num,by rw[hs.out,HOS.out],own_snocP hown4 HN.out,below_appendP HB.out hsz HO.out hg5⟩
     case measure=>simp[intOf];omega
   ·rw[if_neg (by exact hlm)]at hs
    go_wp2;go_roundw
    case rel=>exact⟨k+1,os,by omega,by go_num,by rw[hs.out,HOS.out,List.append_nil],by have h:=HO.out;rw[HN.out]at h ⊢;exact h,HB.out⟩
    case measure=>simp[intOf];omega
  ·obtain rfl:k=n:=by omega
   have e1:lessV ps m=os:=by rw[HOS.out,List.take_of_length_le (by rw[HL.out];exact Nat.le_refl _)]
   have E1:=hd_ e1;clear e1;go_wp2;go_ret;exact⟨_,rfl,by rw[E1.out];have h:=HO.out;rw[HN.out]at h ⊢;exact h,HB.out⟩
theorem l3Less_at (w:World) (v:Value) (ps:List Pr) (m:Int) (hp:Prs w v ps) (hn:ps.length<=100) (hm:∀i,i<ps.length->0<=(pr ps i).2/\(pr ps i).2<=100000) (m0:0<=m) (m1:m<=100000):
  Calls Tryz.prog 279 #[v,.int .i64 m] w fun e w'=>∃v,e=.returned v/\OwnP w' w.heap.size v (lessV ps m)/\Below w.heap.size w w':=by
 obtain⟨x,c,rfl,_,_⟩:=hp.form;exact l3Less_in w x _ c ps m rfl hp hn hm m0 m1
theorem l3Cut_at (w:World) (u:Value) (ps:List Pr) (lost all:Int) (hp:Prs w u ps) (hn:ps.length<=100) (hm:∀i,i<ps.length->0<=(pr ps i).2/\(pr ps i).2<=100000) (m0:0<=lost) (m1:lost<=100000):
  Calls Tryz.prog 227 #[.agg #[u,.int .i64 lost,.int .i64 all]] w fun e w'=>∃v,e=.returned (.agg #[v,.int .i64 (lost+overV ps),.int .i64 all])/\OwnP w' w.heap.size v (lessV ps (overV ps))/\Below w.heap.size w w':=by
 have hA:=((Below.refl w.heap.size w).alloc lr_ (.cells #[u,.int .i64 lost,.int .i64 all] 41)).alloc (by simp) (.cells #[.slice none 0 0,.int .i64 0,.int .i64 0] 41);have HA:=hd_ hA;have I0:=hd_ (hp.below hA lr_);have K:=hd_ (l3Over_at _ u ps I0.out hn hm);have ob:=overV_bd (M:=100000) (by omega) hm;obtain⟨ov,hov⟩:∃ov,ov=overV ps:=⟨_,rfl⟩
 rw[<-hov]at K ob ⊢;have KL:Hid (∀W,Prs W u ps->Calls Tryz.prog 279 #[u,.int .i64 ov] W fun e w'=>∃v,e=.returned v/\OwnP w' W.heap.size v (lessV ps ov)/\Below W.heap.size W w'):=fun W hW=>l3Less_at W u ps ov hW hn hm ob.1 ob.2
 obtain⟨x,c,hu,_,_⟩:=hp.form;obtain⟨n,hn'⟩:∃n,n=ps.length:=⟨_,rfl⟩
 rw[<-hn']at hu;subst hu;have K0:=hd_ (K.out);obtain⟨W0,hW0⟩:∃W0,W0=(w.alloc (.cells #[.slice x n c,.int .i64 lost,.int .i64 all] 41)).alloc (.cells #[.slice none 0 0,.int .i64 0,.int .i64 0] 41):=⟨_,rfl⟩
 have X0:Box3 W0 w.heap.size 41 (.slice x n c) (.int .i64 lost) (.int .i64 all):=by rw[hW0];exact (Box3.new _ _ _ _ _).alloc _
 have R0:Box3 W0 (w.heap.size+1) 41 (.slice none 0 0) (.int .i64 0) (.int .i64 0):=by
  have h:=Box3.new (w.alloc (.cells #[.slice x n c,.int .i64 lost,.int .i64 all] 41)) 41 (.slice none 0 0) (.int .i64 0) (.int .i64 0);rw[hW0];simpa using h
 rw[<-hW0]at K HA I0;have HW0:=hd_ hW0;have x0:=X0.cell0;have x1:=X0.cell1;have x2:=X0.cell2;clear hA hW0 hov hn' hp hm K0;go_enter Tryz.func227,Tryz.ntmps227
 go_wp2_with fail
 rw[<-HW0.out]
 go_wp2_with fail
 refine K.out.mono ?_;rintro e w1 ⟨rfl,hb1⟩;have X1:=X0.later hb1;have R1:=R0.later hb1;have B1:=hd_ (HA.out.trans (hb1.mono HA.out.size));have I1:=hd_ (I0.out.below hb1 lr_);clear hb1 X0 R0 x0 x1 x2 K HA I0;have x0:=X1.cell0;have x1:=X1.cell1;have x2:=X1.cell2;have ws:IntKind.i64.wrap (lost+ov)=lost+ov:=IntWalk.i64_in _ (by omega)
 have KD:Hid (Calls Tryz.prog 279 #[.slice x n c,.int .i64 ov] w1.drew fun e w'=>∃v,e=.returned v/\OwnP w' w1.drew.heap.size v (lessV ps ov)/\Below w1.drew.heap.size w1.drew w'):=KL.out w1.drew I1.out
 go_wp2_with fail
 go_region_with (first|(go_at_call 279;refine KD.out.mono ?_;rintro e w2 ⟨v,rfl,ho2,hb2⟩;obtain⟨xv,cv,rfl,_,_⟩:=ho2.form;have X2:=X1.drew.later hb2;have y0:=X2.cell0;have y1:=X2.cell1;have y2:=X2.cell2;have R2:=R1.drew.later hb2;have f2:=R2.free;have z0:=R2.cell0;have z1:=R2.cell1;have z2:=R2.cell2))
 all_goals
  have RZ:=R2.set (.slice xv (lessV ps ov).length cv) (.int .i64 (lost+ov)) (.int .i64 all);have hr0:=RZ.cell0;have hr1:=RZ.cell1;have hr2:=RZ.cell2;have OZ:=hd_ (((ho2.set3 (R2.not_row (by decide) ho2) (.slice xv (lessV ps ov).length cv) (.int .i64 (lost+ov)) (.int .i64 all))).base (B':=w.heap.size) (by have:=B1.out.size;simpa using this))
  have BZ:=hd_ (below_set3 (b:=w.heap.size+1) ((B1.out.trans (Below.drew (Below.refl _ _))).trans (hb2.mono (by have:=B1.out.size;simpa using this))) (Nat.le_succ _) (.slice xv (lessV ps ov).length cv) (.int .i64 (lost+ov)) (.int .i64 all));clear ho2 hb2 X2 R2 RZ y0 y1 y2 f2 z0 z1 z2;go_wp2
  exact bodyPost_ret (v:=.agg #[.slice xv (lessV ps ov).length cv,.int .i64 (lost+ov),.int .i64 all]) (by simp[results,Tryz.results227,go_sem,hr0,hr1,hr2]) rfl ⟨_,rfl,OZ.out,BZ.out⟩
def BdP (M:Int) (ps:List Pr):Prop:=∀p ∈ ps,0<=p.2/\p.2<=M
theorem BdP.at {M:Int} {ps:List Pr} (h:BdP M ps):∀i,i<ps.length->0<=(pr ps i).2/\(pr ps i).2<=M:=fun _ hi=>h _ (pr_mem hi)
theorem BdP.mono {M N:Int} {ps:List Pr} (h:BdP M ps) (hM:M<=N):BdP N ps:=fun p hp=>by have:=h p hp;omega
theorem BdP.put {M:Int} {ps:List Pr} {x:Pr} (h:BdP M ps) (hM:0<=M) (hx:0<=x.2):BdP (M+x.2) (putP ps x):=by
 induction ps with
 |nil=>intro p hp;simp[putP]at hp;subst hp;omega
 |cons q ps ih=>
  have hq:=h q (by simp);have ht:BdP M ps:=fun p hp=>h p (by simp[hp])
  intro p hp;unfold putP at hp
  split at hp
  ·rcases List.mem_cons.1 hp with rfl|hp
   ·omega
   ·exact ih ht p hp
  ·split at hp
   ·rcases List.mem_cons.1 hp with rfl|hp
    ·exact⟨by simp;omega,by simp;omega⟩
    ·have:=ht p hp;omega
   ·rcases List.mem_cons.1 hp with rfl|hp
    ·omega
    ·rcases List.mem_cons.1 hp with rfl|hp
     ·omega
     ·have:=ht p hp;omega
theorem TopP.bd {ps:List Pr} {lost all:Int} (h:TopP ps lost all):BdP 2000 ps:=fun p hp=>by
 obtain⟨i,hi,rfl⟩:=pr_at hp;have:=(h.2.1 i hi).1.2;omega
def cutP (ps:List Pr):List Pr:=lessV ps (overV ps)
abbrev Tp:=List Pr × Int × Int
def noneT:Tp:=([],0,0)
def addOk (ps:List Pr) (lost all t:Int):Bool:=topB ps lost all&&(isT t&&decide (all<2000))
def addT (ps:List Pr) (lost all t:Int):Tp:=if addOk ps lost all t then (cutP (putP ps (t,1)),lost+overV (putP ps (t,1)),all+1)else noneT
theorem addT_no {ps:List Pr} {lost all t:Int} (h:addOk ps lost all t=false):addT ps lost all t=noneT:=by simp[addT,h]
theorem addT_yes {ps:List Pr} {lost all t:Int} (h:addOk ps lost all t=true):addT ps lost all t=(cutP (putP ps (t,1)),lost+overV (putP ps (t,1)),all+1):=by simp[addT,h]
theorem addOk_cases (ps:List Pr) (lost all t:Int):(topB ps lost all=false/\addOk ps lost all t=false)\/(topB ps lost all=true/\(t<0\/63<t)/\addOk ps lost all t=false)\/(topB ps lost all=true/\(0<=t/\t<=63)/\2000<=all/\addOk ps lost all t=false)\/(topB ps lost all=true/\(0<=t/\t<=63)/\all<2000/\addOk ps lost all t=true):=by
 unfold addOk;cases h:topB ps lost all
 ·exact .inl ⟨rfl,rfl⟩
 ·cases h':isT t
  ·exact .inr (.inl ⟨rfl,by have:=isT_no h';omega,rfl⟩)
  ·have:=isT_yes h'
   by_cases ha:all<2000
   ·exact .inr (.inr (.inr ⟨rfl,by omega,ha,by simp[ha]⟩))
   ·exact .inr (.inr (.inl ⟨rfl,by omega,by omega,by simp[ha]⟩))
theorem spTopAdd_no (w:World) (u:Value) (ps:List Pr) (lost all t:Int) (hp:Prs w u ps) (hno:addOk ps lost all t=false):
  Calls Tryz.prog 312 #[.agg #[u,.int .i64 lost,.int .i64 all],.int .i64 t] w fun e w'=>e=.returned (.tuple #[.agg #[.slice none 0 0,.int .i64 0,.int .i64 0],.bool false])/\Below w.heap.size w w':=by
 have hA:=((Below.refl w.heap.size w).alloc lr_ (.cells #[u,.int .i64 lost,.int .i64 all] 41)).alloc (by simp) (.cells #[.slice none 0 0,.int .i64 0,.int .i64 0] 41);have K:=hd_ (spTopOk_at _ u ps lost all (hp.below hA lr_));have HA:=hd_ hA;obtain⟨x,c,hu,_,_⟩:=hp.form;obtain⟨n,hn'⟩:∃n,n=ps.length:=⟨_,rfl⟩
 rw[<-hn']at hu;subst hu;obtain⟨W0,hW0⟩:∃W0,W0=(w.alloc (.cells #[.slice x n c,.int .i64 lost,.int .i64 all] 41)).alloc (.cells #[.slice none 0 0,.int .i64 0,.int .i64 0] 41):=⟨_,rfl⟩
 have X0:Box3 W0 w.heap.size 41 (.slice x n c) (.int .i64 lost) (.int .i64 all):=by rw[hW0];exact (Box3.new _ _ _ _ _).alloc _
 have R0:Box3 W0 (w.heap.size+1) 41 (.slice none 0 0) (.int .i64 0) (.int .i64 0):=by
  have h:=Box3.new (w.alloc (.cells #[.slice x n c,.int .i64 lost,.int .i64 all] 41)) 41 (.slice none 0 0) (.int .i64 0) (.int .i64 0);rw[hW0];simpa using h
 rw[<-hW0]at K HA;have HW0:=hd_ hW0;have x0:=X0.cell0;have x1:=X0.cell1;have x2:=X0.cell2;have HNO:=hd_ (addOk_cases ps lost all t);have HN:=hd_ hno;have EB:=hd_ (rfl:topB ps lost all=topB ps lost all)
 have main:∀ok,topB ps lost all=ok->(ok=true->(t<0\/63<t)\/((0<=t/\t<=63)/\2000<=all))->Calls Tryz.prog 312 #[.agg #[.slice x n c,.int .i64 lost,.int .i64 all],.int .i64 t] w fun e w'=>e=.returned (.tuple #[.agg #[.slice none 0 0,.int .i64 0,.int .i64 0],.bool false])/\Below w.heap.size w w':=by
  intro ok hok hwhy;rw[hok]at K;have HY:=hd_ hwhy;clear hok hwhy hA hW0 hn' hp hno;cases ok with
  |false=>
   go_enter Tryz.func312,Tryz.ntmps312
   go_wp2_with fail
   rw[<-HW0.out]
   go_wp2_with fail
   refine K.out.mono ?_;rintro e w1 ⟨rfl,hb1⟩;have R1:=R0.later hb1;have z0:=R1.cell0;have z1:=R1.cell1;have z2:=R1.cell2;have f2:=R1.free;have RZ:=R1.set (.slice none 0 0) (.int .i64 0) (.int .i64 0);have hr0:=RZ.cell0;have hr1:=RZ.cell1;have hr2:=RZ.cell2
   have BZ:=hd_ (below_set3 (b:=w.heap.size+1) (HA.out.trans (hb1.mono HA.out.size)) (Nat.le_succ _) (.slice none 0 0) (.int .i64 0) (.int .i64 0));clear R1 RZ x0 x1 x2 X0 R0 hb1;go_wp2;exact bodyPost_ret (v:=.tuple #[.agg #[.slice none 0 0,.int .i64 0,.int .i64 0],.bool false]) (by simp[results,Tryz.results312,go_sem,hr0,hr1,hr2]) rfl ⟨rfl,BZ.out⟩
  |true=>
   rcases HY.out rfl with ht|⟨ht,ha⟩
   ·have KT:Hid (∀W,Calls Tryz.prog 66 #[.int .i64 t,.int .i64 0,.int .i64 63] W fun e w'=>e=.returned (.bool false)/\W=w'):=fun W=>l6In_no t 0 63 W ht
    clear ht;go_enter Tryz.func312,Tryz.ntmps312
    go_wp2_with fail
    rw[<-HW0.out]
    go_wp2_with fail
    refine K.out.mono ?_;rintro e w1 ⟨rfl,hb1⟩
    go_wp2_with fail
    refine (KT.out _).mono ?_;rintro e w' ⟨rfl,rfl⟩;have R1:=R0.later hb1;have z0:=R1.cell0;have z1:=R1.cell1;have z2:=R1.cell2;have f2:=R1.free;have RZ:=R1.set (.slice none 0 0) (.int .i64 0) (.int .i64 0);have hr0:=RZ.cell0;have hr1:=RZ.cell1;have hr2:=RZ.cell2
    have BZ:=hd_ (below_set3 (b:=w.heap.size+1) (HA.out.trans (hb1.mono HA.out.size)) (Nat.le_succ _) (.slice none 0 0) (.int .i64 0) (.int .i64 0));clear R1 RZ x0 x1 x2 X0 R0 hb1;go_wp2;exact bodyPost_ret (v:=.tuple #[.agg #[.slice none 0 0,.int .i64 0,.int .i64 0],.bool false]) (by simp[results,Tryz.results312,go_sem,hr0,hr1,hr2]) rfl ⟨rfl,BZ.out⟩
   ·have KT:Hid (∀W,Calls Tryz.prog 66 #[.int .i64 t,.int .i64 0,.int .i64 63] W fun e w'=>e=.returned (.bool true)/\W=w'):=fun W=>l6In_yes t 0 63 W ht.1 ht.2
    clear ht;go_enter Tryz.func312,Tryz.ntmps312
    go_wp2_with fail
    rw[<-HW0.out]
    go_wp2_with fail
    refine K.out.mono ?_;rintro e w1 ⟨rfl,hb1⟩
    go_wp2_with fail
    refine (KT.out _).mono ?_;rintro e w' ⟨rfl,rfl⟩;have X1:=X0.later hb1;have y2:=X1.cell2;have R1:=R0.later hb1;have z0:=R1.cell0;have z1:=R1.cell1;have z2:=R1.cell2;have f2:=R1.free;have RZ:=R1.set (.slice none 0 0) (.int .i64 0) (.int .i64 0);have hr0:=RZ.cell0;have hr1:=RZ.cell1;have hr2:=RZ.cell2
    have BZ:=hd_ (below_set3 (b:=w.heap.size+1) (HA.out.trans (hb1.mono HA.out.size)) (Nat.le_succ _) (.slice none 0 0) (.int .i64 0) (.int .i64 0));clear R1 RZ x0 x1 x2 X0 R0 hb1;go_wp2;exact bodyPost_ret (v:=.tuple #[.agg #[.slice none 0 0,.int .i64 0,.int .i64 0],.bool false]) (by simp[results,Tryz.results312,go_sem,hr0,hr1,hr2]) rfl ⟨rfl,BZ.out⟩
 refine main _ rfl fun hok=>?_
 rcases HNO.out with ⟨h,_⟩|⟨_,h,_⟩|⟨_,h,h',_⟩|⟨_,_,_,h⟩
 ·rw[h]at hok;cases hok
 ·exact .inl h
 ·exact .inr ⟨h,h'⟩
 ·rw[hno]at h;cases h
theorem spTopAdd_yes (w:World) (u:Value) (ps:List Pr) (lost all t:Int) (hp:Prs w u ps) (hok:topB ps lost all=true) (ht:0<=t/\t<=63) (ha:all<2000):
  Calls Tryz.prog 312 #[.agg #[u,.int .i64 lost,.int .i64 all],.int .i64 t] w fun e w'=>∃v,e=.returned (.tuple #[.agg #[v,.int .i64 (lost+overV (putP ps (t,1))),.int .i64 (all+1)],.bool true])/\OwnP w' w.heap.size v (cutP (putP ps (t,1)))/\Below w.heap.size w w':=by
 have hA:=((Below.refl w.heap.size w).alloc lr_ (.cells #[u,.int .i64 lost,.int .i64 all] 41)).alloc (by simp) (.cells #[.slice none 0 0,.int .i64 0,.int .i64 0] 41);have I0:=hd_ (hp.below hA lr_);have K:=hd_ (spTopOk_at _ u ps lost all I0.out);have HA:=hd_ hA;have hP:=(topB_iff _ _ _).1 hok;have hbd:=hP.bd;have hl4:=hP.1.1;have hlo:=hP.1.2.1;have hal:=hP.1.2.2
 have KP:Hid (∀W,Prs W u ps->Calls Tryz.prog 226 #[u,.agg #[.int .i64 t,.int .i64 1]] W fun e w'=>∃v,e=.returned v/\OwnP w' W.heap.size v (putP ps (t,1))/\Below W.heap.size W w'):=fun W hW=>
  l3Put_at W u ps t 1 hW (by omega) (hbd.mono (by omega)).at (by omega) (by omega)
 have hbq:=(hbd.put (x:=(t,1)) (by omega) (by simp)).mono (N:=100000) (by simp);have hlq:=putP_len ps (t,1);rw[hok]at K;obtain⟨qs,hqs⟩:∃qs,qs=putP ps (t,1):=⟨_,rfl⟩
 rw[<-hqs]at KP hbq hlq ⊢;have KC:Hid (∀W v,Prs W v qs->Calls Tryz.prog 227 #[.agg #[v,.int .i64 lost,.int .i64 (all+1)]] W fun e w'=>∃v,e=.returned (.agg #[v,.int .i64 (lost+overV qs),.int .i64 (all+1)])/\OwnP w' W.heap.size v (cutP qs)/\Below W.heap.size W w'):=fun W v hv=>
  l3Cut_at W v qs lost (all+1) hv (by omega) hbq.at (by omega) (by omega)
 obtain⟨x,c,hu,_,_⟩:=hp.form;obtain⟨n,hn'⟩:∃n,n=ps.length:=⟨_,rfl⟩
 rw[<-hn']at hu;subst hu;obtain⟨W0,hW0⟩:∃W0,W0=(w.alloc (.cells #[.slice x n c,.int .i64 lost,.int .i64 all] 41)).alloc (.cells #[.slice none 0 0,.int .i64 0,.int .i64 0] 41):=⟨_,rfl⟩
 have X0:Box3 W0 w.heap.size 41 (.slice x n c) (.int .i64 lost) (.int .i64 all):=by rw[hW0];exact (Box3.new _ _ _ _ _).alloc _
 have R0:Box3 W0 (w.heap.size+1) 41 (.slice none 0 0) (.int .i64 0) (.int .i64 0):=by
  have h:=Box3.new (w.alloc (.cells #[.slice x n c,.int .i64 lost,.int .i64 all] 41)) 41 (.slice none 0 0) (.int .i64 0) (.int .i64 0);rw[hW0];simpa using h
 rw[<-hW0]at K HA I0;have HW0:=hd_ hW0;have x0:=X0.cell0;have x1:=X0.cell1;have x2:=X0.cell2;have KT:Hid (∀W,Calls Tryz.prog 66 #[.int .i64 t,.int .i64 0,.int .i64 63] W fun e w'=>e=.returned (.bool true)/\W=w'):=fun W=>l6In_yes t 0 63 W ht.1 ht.2
 obtain⟨ov,hov⟩:∃ov,ov=overV qs:=⟨_,rfl⟩
 obtain⟨cs,hcs⟩:∃cs,cs=cutP qs:=⟨_,rfl⟩
 rw[<-hov, <-hcs]at KC ⊢;clear hA hW0 hn' hp hP hbd hok hqs hbq hlq hov hcs;go_enter Tryz.func312,Tryz.ntmps312
 go_wp2_with fail
 rw[<-HW0.out]
 go_wp2_with fail
 refine K.out.mono ?_;rintro e w1 ⟨rfl,hb1⟩
 go_wp2_with fail
 refine (KT.out _).mono ?_;rintro e w' ⟨rfl,rfl⟩;have X1:=X0.later hb1;have R1:=R0.later hb1;have B1:=hd_ (HA.out.trans (hb1.mono HA.out.size));have I1:=hd_ (I0.out.below hb1 lr_);clear hb1 X0 R0 x0 x1 x2 K HA I0 KT;have x0:=X1.cell0;have x1:=X1.cell1;have x2:=X1.cell2
 have KD:Hid (Calls Tryz.prog 226 #[.slice x n c,.agg #[.int .i64 t,.int .i64 1]] w1.drew fun e w'=>∃v,e=.returned v/\OwnP w' w1.drew.heap.size v qs/\Below w1.drew.heap.size w1.drew w'):=KP.out w1.drew I1.out;have ws:IntKind.i64.wrap (all+1)=all+1:=IntWalk.i64_in _ (by omega)
 go_wp2_with fail
 go_region_with (first|(go_at_call 226;refine KD.out.mono ?_;rintro e w2 ⟨v,rfl,ho2,hb2⟩;obtain⟨xv,cv,rfl,_,_⟩:=ho2.form;have X2:=X1.drew.later hb2;have y0:=X2.cell0;have y1:=X2.cell1;have y2:=X2.cell2;have R2:=R1.drew.later hb2;have KE:=hd_ (KC.out w2 _ ho2.rd))|(go_at_call 227;refine KE.out.mono ?_;rintro e w3 ⟨v,rfl,ho3,hb3⟩;obtain⟨xz,cz,rfl,_,_⟩:=ho3.form;have R3:=R2.later hb3;have f2:=R3.free;have z0:=R3.cell0;have z1:=R3.cell1;have z2:=R3.cell2))
 all_goals
  have RZ:=R3.set (.slice xz cs.length cz) (.int .i64 (lost+ov)) (.int .i64 (all+1));have hr0:=RZ.cell0;have hr1:=RZ.cell1;have hr2:=RZ.cell2;have s1:w.heap.size<=w1.heap.size:=B1.out.size;have s2:w1.heap.size<=w2.heap.size:=by have:=hb2.size;simpa using this
  have OZ:=hd_ (((ho3.set3 (R3.not_row (by decide) ho3) (.slice xz cs.length cz) (.int .i64 (lost+ov)) (.int .i64 (all+1)))).base (B':=w.heap.size) (by omega))
  have BZ:=hd_ (below_set3 (b:=w.heap.size+1) ((B1.out.trans (Below.drew (Below.refl _ _))).trans ((hb2.trans (hb3.mono (by simpa using s2))).mono (by simpa using s1))) (Nat.le_succ _) (.slice xz cs.length cz) (.int .i64 (lost+ov)) (.int .i64 (all+1)));clear ho2 hb2 X2 R2 ho3 hb3 R3 RZ y0 y1 y2 f2 z0 z1 z2 s1 s2;go_wp2
  exact bodyPost_ret (v:=.tuple #[.agg #[.slice xz cs.length cz,.int .i64 (lost+ov),.int .i64 (all+1)],.bool true]) (by simp[results,Tryz.results312,go_sem,hr0,hr1,hr2]) rfl ⟨_,rfl,OZ.out,BZ.out⟩
theorem spTopAdd_at (w:World) (u:Value) (ps:List Pr) (lost all t:Int) (hp:Prs w u ps):
  Calls Tryz.prog 312 #[.agg #[u,.int .i64 lost,.int .i64 all],.int .i64 t] w fun e w'=>∃v,e=.returned (.tuple #[.agg #[v,.int .i64 (addT ps lost all t).2.1,.int .i64 (addT ps lost all t).2.2],.bool (addOk ps lost all t)])/\OwnP w' w.heap.size v (addT ps lost all t).1/\Below w.heap.size w w':=by
 cases h:addOk ps lost all t with
 |false=>
  rw[addT_no h];exact (spTopAdd_no w u ps lost all t hp h).mono fun e w' ⟨he,hb⟩=>⟨_,he,OwnP.nil _ _,hb⟩
 |true=>
  rw[addT_yes h];rcases addOk_cases ps lost all t with ⟨_,h'⟩|⟨_,_,h'⟩|⟨_,_,_,h'⟩|⟨hk,ht,ha,_⟩
  ·rw[h]at h';cases h'
  ·rw[h]at h';cases h'
  ·rw[h]at h';cases h'
  ·exact spTopAdd_yes w u ps lost all t hp hk ht ha
def mrg (os:List Pr) (p:Pr):List Pr:=if 0<os.length/\(pr os (os.length - 1)).1=p.1 then os.set (os.length - 1) (p.1,(pr os (os.length - 1)).2+p.2)else os++[p]
def mrgV (qs:List Pr):List Pr:=qs.foldl mrg []
theorem overK_ge {ps:List Pr} {k i:Nat} (hi:i<k) (h:4<cntGe ps (pr ps i).2):(pr ps i).2<=overK ps k:=by
 induction k with
 |zero=>omega
 |succ k ih=>
  unfold overK
  by_cases e:i=k
  ·subst e;rw[if_pos h];omega
  ·have:=ih (by omega)
   split<;>omega
theorem overK_is (ps:List Pr) {k:Nat} (hk:k<=ps.length):overK ps k=0\/∃i,i<k/\4<cntGe ps (pr ps i).2/\(pr ps i).2=overK ps k:=by
 induction k with
 |zero=>exact .inl rfl
 |succ k ih=>
  have h:=ih (by omega);unfold overK
  by_cases hc:4<cntGe ps (pr ps k).2
  ·rw[if_pos hc]
   rcases (by omega:max (overK ps k) (pr ps k).2=overK ps k\/max (overK ps k) (pr ps k).2=(pr ps k).2)with e|e
   ·rw[e]
    rcases h with h|⟨i,h1,h2,h3⟩
    ·exact .inl h
    ·exact .inr ⟨i,by omega,h2,h3⟩
   ·exact .inr ⟨k,by omega,hc,e.symm⟩
  ·rw[if_neg hc]
   rcases h with h|⟨i,h1,h2,h3⟩
   ·exact .inl h
   ·exact .inr ⟨i,by omega,h2,h3⟩
def Up (ps:List Pr):Prop:=ps.Pairwise (fun p q=>p.1<q.1)
def Pos (ps:List Pr):Prop:=∀p ∈ ps,0<p.2
theorem Asc.up {ps:List Pr} (h:Asc ps):Up ps:=by
 unfold Up;rw[List.pairwise_iff_getElem];intro i j hi hj hij;have:=h.lt hij hj;simpa[pr,hi,hj]using this
theorem Up.asc {ps:List Pr} (h:Up ps):Asc ps:=fun i h0 hi=>by
 unfold Up at h;rw[List.pairwise_iff_getElem]at h;have:=h (i - 1) i (by omega) hi (by omega);have h1:i - 1<ps.length:=by omega
 simpa[pr,h1,hi]using this
theorem TopP.pos {ps:List Pr} {lost all:Int} (h:TopP ps lost all):Pos ps:=fun p hp=>by
 obtain⟨i,hi,rfl⟩:=pr_at hp;have:=(h.2.1 i hi).1.2;omega
theorem tot_put (ps:List Pr) (x:Pr) (t:Int):tot (putP ps x) t=tot ps t+if x.1=t then x.2 else 0:=by
 induction ps with
 |nil=>simp[putP,tot]
 |cons p ps ih=>
  unfold putP
  split
  ·simp only[tot,ih];omega
  ·split
   ·rename_i h1 h2
    simp only[tot,h2]
    split<;>omega
   ·simp only[tot];omega
theorem put_mem {ps:List Pr} {x q:Pr} (h:q ∈ putP ps x):q.1=x.1\/q ∈ ps:=by
 induction ps with
 |nil=>simp[putP]at h;exact .inl (by rw[h])
 |cons p ps ih=>
  unfold putP at h
  split at h
  ·rcases List.mem_cons.1 h with rfl|h
   ·exact .inr (by simp)
   ·rcases ih h with h|h
    ·exact .inl h
    ·exact .inr (by simp[h])
  ·split at h
   ·rcases List.mem_cons.1 h with rfl|h
    ·exact .inl rfl
    ·exact .inr (by simp[h])
   ·rcases List.mem_cons.1 h with rfl|h
    ·exact .inl rfl
    ·exact .inr h
theorem Up.put {ps:List Pr} {x:Pr} (h:Up ps):Up (putP ps x):=by
 induction ps with
 |nil=>simp[putP,Up]
 |cons p ps ih=>
  have h':=List.pairwise_cons.1 h;unfold putP
  split
  ·rename_i hlt
   refine List.pairwise_cons.2 ⟨fun q hq=>?_,ih h'.2⟩;rcases put_mem hq with e|hq
   ·rw[e];exact hlt
   ·exact h'.1 q hq
  ·split
   ·rename_i h1 h2
    exact List.pairwise_cons.2 ⟨fun q hq=>by have:=h'.1 q hq;show x.1<q.1;omega,h'.2⟩
   ·rename_i h1 h2
    refine List.pairwise_cons.2 ⟨fun q hq=>?_,h⟩;rcases List.mem_cons.1 hq with rfl|hq
    ·omega
    ·have:=h'.1 q hq;omega
theorem Pos.put {ps:List Pr} {x:Pr} (h:Pos ps) (hx:0<x.2):Pos (putP ps x):=by
 induction ps with
 |nil=>intro q hq;simp[putP]at hq;rw[hq];exact hx
 |cons p ps ih=>
  have h1:=h p (by simp);have h2:Pos ps:=fun q hq=>h q (by simp[hq])
  intro q hq;unfold putP at hq
  split at hq
  ·rcases List.mem_cons.1 hq with rfl|hq
   ·exact h1
   ·exact ih h2 q hq
  ·split at hq
   ·rcases List.mem_cons.1 hq with rfl|hq
    ·show 0<x.2+p.2;omega
    ·exact h2 q hq
   ·rcases List.mem_cons.1 hq with rfl|hq
    ·exact hx
    ·exact h q hq
def bothP (ps qs:List Pr):List Pr:=qs.foldl putP ps
theorem bothP_all (ps qs:List Pr) (hu:Up ps) (hp:Pos ps) (hq:Pos qs):Up (bothP ps qs)/\Pos (bothP ps qs)/\(bothP ps qs).length<=ps.length+qs.length/\∀t,tot (bothP ps qs) t=tot ps t+tot qs t:=by
 induction qs generalizing ps with
 |nil=>exact⟨hu,hp,by simp[bothP],fun t=>by simp[bothP,tot]⟩
 |cons q qs ih=>
  have h1:=ih (putP ps q) hu.put (hp.put (hq q (by simp))) (fun p hp=>hq p (by simp[hp]));refine⟨h1.1,h1.2.1,?_,fun t=>?_⟩
  ·have:=h1.2.2.1
   have:=putP_len ps q;show (bothP (putP ps q) qs).length<=_
   simp;omega
  ·show tot (bothP (putP ps q) qs) t=_
   rw[h1.2.2.2 t,tot_put];simp only[tot];omega
def joinOk (ps:List Pr) (la aa:Int) (qs:List Pr) (lb ab:Int):Bool:=topB ps la aa&&(topB qs lb ab&&decide (aa+ab<=2000))
def joinT (ps:List Pr) (la aa:Int) (qs:List Pr) (lb ab:Int):Tp:=if joinOk ps la aa qs lb ab then (cutP (bothP ps qs),la+lb+overV (bothP ps qs),aa+ab)else noneT
theorem joinT_yes {ps qs:List Pr} {la aa lb ab:Int} (h:joinOk ps la aa qs lb ab=true):joinT ps la aa qs lb ab=(cutP (bothP ps qs),la+lb+overV (bothP ps qs),aa+ab):=by simp[joinT,h]
theorem joinOk_cases (ps:List Pr) (la aa:Int) (qs:List Pr) (lb ab:Int):(topB ps la aa=false/\joinOk ps la aa qs lb ab=false)\/(topB ps la aa=true/\topB qs lb ab=false/\joinOk ps la aa qs lb ab=false)\/(topB ps la aa=true/\topB qs lb ab=true/\2000<aa+ab/\joinOk ps la aa qs lb ab=false)\/(topB ps la aa=true/\topB qs lb ab=true/\aa+ab<=2000/\joinOk ps la aa qs lb ab=true):=by
 unfold joinOk;cases h:topB ps la aa
 ·exact .inl ⟨rfl,rfl⟩
 ·cases h':topB qs lb ab
  ·exact .inr (.inl ⟨rfl,rfl,rfl⟩)
  ·by_cases ha:aa+ab<=2000
   ·exact .inr (.inr (.inr ⟨rfl,rfl,ha,by simp[ha]⟩))
   ·exact .inr (.inr (.inl ⟨rfl,rfl,by omega,by simp[ha]⟩))
theorem topB_one (t:Int):topB [(t,1)] 0 1=isT t:=by
 have h:TopP [(t,1)] 0 1↔(0<=t/\t<64):=by
  unfold TopP
  constructor
  ·intro h
   have:=(h.2.1 0 (by simp)).1.1;simp[pr]at this;omega
  ·intro h
   refine⟨⟨by simp,o_,o_⟩,fun i hi=>?_,by simp[sumP]⟩;simp at hi;subst hi;refine⟨⟨?_,?_⟩,fun h=>absurd h (Nat.lt_irrefl _)⟩
   ·simp[pr];omega
   ·simp[pr]
 simp[topB,isT,h]
theorem joinOk_one (ps:List Pr) (lost all t:Int):joinOk ps lost all [(t,1)] 0 1=addOk ps lost all t:=by
 unfold joinOk addOk;rw[topB_one]
 congr 2
theorem joinT_one (ps:List Pr) (lost all t:Int):joinT ps lost all [(t,1)] 0 1=addT ps lost all t:=by
 unfold joinT addT;rw[joinOk_one];simp[bothP]
def sumL:List Pr->Int
 | []=>0
 |p::ps=>p.2+sumL ps
theorem sumL_nonneg {ps:List Pr} (h:∀p ∈ ps,0<=p.2):0<=sumL ps:=by
 induction ps with
 |nil=>simp[sumL]
 |cons p ps ih=>
  have:=h p (by simp);have:=ih (fun q hq=>h q (by simp[hq]));simp only[sumL];omega
theorem sumL_mem {ps:List Pr} (h:∀p ∈ ps,0<=p.2) {p:Pr} (hp:p ∈ ps):p.2<=sumL ps:=by
 induction ps with
 |nil=>cases hp
 |cons q ps ih=>
  have h0:=h q (by simp);have h1:=sumL_nonneg (fun q hq=>h q (by simp[hq]):∀q ∈ ps,0<=q.2);simp only[sumL];rcases List.mem_cons.1 hp with rfl|hp
  ·omega
  ·have:=ih (fun q hq=>h q (by simp[hq])) hp
   omega
theorem sumL_put (ps:List Pr) (x:Pr):sumL (putP ps x)=sumL ps+x.2:=by
 induction ps with
 |nil=>simp[putP,sumL]
 |cons q ps ih=>
  unfold putP
  split
  ·simp only[sumL,ih];omega
  ·split
   ·simp only[sumL];omega
   ·simp only[sumL];omega
theorem sumL_both (ps qs:List Pr):sumL (bothP ps qs)=sumL ps+sumL qs:=by
 unfold bothP
 induction qs generalizing ps with
 |nil=>simp[sumL]
 |cons q qs ih=>
  simp only[List.foldl_cons,sumL,ih,sumL_put];omega
theorem cntGe_cons (p:Pr) (ps:List Pr) (n:Int):cntGe (p::ps) n=cntGe ps n+if n<=p.2 then 1 else 0:=by
 unfold cntGe
 by_cases h:n<=p.2<;>simp[h]
theorem sumL_less {ps:List Pr} {n:Int} (hn:0<=n) (h:∀p ∈ ps,0<=p.2):sumL (lessV ps n)+n * (cntGe ps n:Int)<=sumL ps:=by
 induction ps with
 |nil=>simp[lessV,sumL,cntGe]
 |cons p ps ih=>
  have h0:=h p (by simp);have:=ih (fun q hq=>h q (by simp[hq]));rw[cntGe_cons];unfold lessV
  by_cases h1:n<p.2
  ·rw[if_pos h1,if_pos (by omega)]
   simp only[sumL];rw[show ((cntGe ps n+1:Nat):Int)=(cntGe ps n:Int)+1 by omega,Int.mul_add];omega
  ·rw[if_neg h1]
   simp only[sumL]
   by_cases h2:n<=p.2
   ·rw[if_pos h2,show ((cntGe ps n+1:Nat):Int)=(cntGe ps n:Int)+1 by omega,Int.mul_add]
    omega
   ·rw[if_neg h2,Nat.add_zero];omega
theorem less_mem {ps:List Pr} {n:Int} {p:Pr} (h:p ∈ lessV ps n):∃q ∈ ps,q.1=p.1/\n<q.2/\p.2=q.2 - n:=by
 induction ps with
 |nil=>cases h
 |cons q ps ih=>
  unfold lessV at h
  split at h
  ·rcases List.mem_cons.1 h with rfl|h
   ·exact⟨q,by simp,rfl,by assumption,rfl⟩
   ·obtain⟨q',hq,r⟩:=ih h
    exact⟨q',by simp[hq],r⟩
  ·obtain⟨q',hq,r⟩:=ih h
   exact⟨q',by simp[hq],r⟩
theorem Up.less {ps:List Pr} (h:Up ps) (n:Int):Up (lessV ps n):=by
 unfold Up at h ⊢
 induction ps with
 |nil=>simp[lessV]
 |cons p ps ih=>
  rw[List.pairwise_cons]at h;unfold lessV
  split
  ·rw[List.pairwise_cons]
   refine⟨fun q hq=>?_,ih h.2⟩;obtain⟨q',hq',e,_⟩:=less_mem hq;have:=h.1 q' hq';simp only;omega
  ·exact ih h.2
theorem less_len (ps:List Pr) (n:Int):(lessV ps n).length<=cntGe ps (n+1):=by
 induction ps with
 |nil=>simp[lessV]
 |cons p ps ih=>
  rw[cntGe_cons];unfold lessV
  split
  ·rw[if_pos (by omega)];simp;omega
  ·omega
theorem cntGe_mono (ps:List Pr) {m n:Int} (h:m<=n):cntGe ps n<=cntGe ps m:=by
 induction ps with
 |nil=>simp[cntGe]
 |cons p ps ih=>
  rw[cntGe_cons,cntGe_cons]
  split<;>split<;>omega
theorem cntGe_least {ps:List Pr} {n:Int} (h:0<cntGe ps n):∃i,i<ps.length/\n<=(pr ps i).2/\cntGe ps (pr ps i).2=cntGe ps n:=by
 -- the least number of those that have at least n
 have h':∃l:List Pr,l=ps.filter fun p=>decide (n<=p.2):=⟨_,rfl⟩
 obtain⟨l,hl⟩:=h';have key:∀l:List Pr,l≠[]->∃p ∈ l,∀q ∈ l,p.2<=q.2:=by
  intro l
  induction l with
  |nil=>intro h;exact absurd rfl h
  |cons x l ih=>
   intro _
   by_cases e:l=[]
   ·subst e;exact⟨x,by simp,by simp⟩
   ·obtain⟨p,hp,hq⟩:=ih e
    by_cases hx:x.2<=p.2
    ·refine⟨x,by simp,fun q hq'=>?_⟩
     rcases List.mem_cons.1 hq' with rfl|hq'
     ·omega
     ·have:=hq q hq';omega
    ·refine⟨p,by simp[hp],fun q hq'=>?_⟩
     rcases List.mem_cons.1 hq' with rfl|hq'
     ·omega
     ·exact hq q hq'
 have hne:l≠[]:=by
  intro e;unfold cntGe at h;rw[<-hl,e]at h;simp at h
 obtain⟨p,hp,hq⟩:=key l hne;rw[hl]at hp;have hp2:=List.mem_filter.1 hp;obtain⟨i,hi,rfl⟩:=pr_at hp2.1;have hn:n<=(pr ps i).2:=by simpa using hp2.2
 refine⟨i,hi,hn,Nat.le_antisymm (cntGe_mono ps hn) ?_⟩;unfold cntGe;have:∀ms:List Pr,(∀q ∈ ms,n<=q.2->(pr ps i).2<=q.2)->(ms.filter fun p=>decide (n<=p.2)).length<=(ms.filter fun p=>decide ((pr ps i).2<=p.2)).length:=by
  intro ms
  induction ms with
  |nil=>intro _;simp
  |cons x ms ih=>
   intro hm;have:=ih (fun q hq=>hm q (by simp[hq]));have hx:=hm x (by simp)
   by_cases h1:n<=x.2
   ·have:=hx h1
    simp[h1,this];omega
   ·by_cases h2:(pr ps i).2<=x.2
    ·simp[h1,h2];omega
    ·simp[h1,h2];omega
 exact this ps (fun q hqm hqn=>hq q (by rw[hl];exact List.mem_filter.2 ⟨hqm,by simpa using hqn⟩))
theorem cut_four {ps:List Pr} (h:∀p ∈ ps,0<=p.2):(cutP ps).length<=4:=by
 refine Decidable.byContradiction fun hc=>?_
 have h1:=less_len ps (overV ps);unfold cutP at hc;have h2:4<cntGe ps (overV ps+1):=by omega
 obtain⟨i,hi,hn,he⟩:=cntGe_least (ps:=ps) (n:=overV ps+1) (by omega);have:=overK_ge (ps:=ps) (k:=ps.length) (i:=i) hi (by omega);have e:overV ps=overK ps ps.length:=rfl;omega
theorem cut_five {ps:List Pr} (h:∀p ∈ ps,0<=p.2):sumL (cutP ps)+overV ps * 5<=sumL ps/\0<=overV ps:=by
 have ov:0<=overV ps/\(0<overV ps->5<=cntGe ps (overV ps)):=by
  rcases overK_is ps (k:=ps.length) lr_ with e|⟨i,hi,hc,e⟩
  ·have e':overV ps=0:=e
   omega
  ·have e':(pr ps i).2=overV ps:=e
   have:=h _ (pr_mem hi);rw[e']at hc this;omega
 refine⟨?_,ov.1⟩;have hs:=sumL_less ov.1 h
 by_cases h0:0<overV ps
 ·have h5:=ov.2 h0
  have:overV ps * 5<=overV ps * (cntGe ps (overV ps):Int):=Int.mul_le_mul_of_nonneg_left (by omega) ov.1;unfold cutP;omega
 ·have e0:overV ps=0:=by omega
  unfold cutP;rw[e0]at hs ⊢;omega
theorem sumP_sumL (ps:List Pr):sumP ps=sumL ps:=by
 induction ps with
 |nil=>rfl
 |cons p ps ih=>simp[sumP,sumL]at ih ⊢;omega
theorem both_thing {ps qs:List Pr} {la aa lb ab:Int} (A:TopP ps la aa) (B:TopP qs lb ab) {q:Pr} (h:q ∈ bothP ps qs):0<=q.1/\q.1<=63:=by
 have key:∀(qs ps:List Pr),(∀p ∈ ps,0<=p.1/\p.1<=63)->(∀p ∈ qs,0<=p.1/\p.1<=63)->∀q ∈ bothP ps qs,0<=q.1/\q.1<=63:=by
  intro qs
  induction qs with
  |nil=>intro ps h1 _ q hq;exact h1 q hq
  |cons x qs ih=>
   intro ps h1 h2 q hq;refine ih (putP ps x) (fun p hp=>?_) (fun p hp=>h2 p (by simp[hp])) q hq;rcases put_mem hp with e|hp
   ·rw[e];exact h2 x (by simp)
   ·exact h1 p hp
 refine key qs ps (fun p hp=>?_) (fun p hp=>?_) q h
 ·obtain⟨i,hi,rfl⟩:=pr_at hp
  exact (A.2.1 i hi).1.1
 ·obtain⟨i,hi,rfl⟩:=pr_at hp
  exact (B.2.1 i hi).1.1
theorem join_top {ps qs:List Pr} {la aa lb ab:Int} (h:joinOk ps la aa qs lb ab=true):topB (joinT ps la aa qs lb ab).1 (joinT ps la aa qs lb ab).2.1 (joinT ps la aa qs lb ab).2.2=true:=by
 rcases joinOk_cases ps la aa qs lb ab with ⟨_,h'⟩|⟨_,_,h'⟩|⟨_,_,_,h'⟩|⟨ha,hb,hs,_⟩
 ·rw[h]at h';cases h'
 ·rw[h]at h';cases h'
 ·rw[h]at h';cases h'
 rw[joinT_yes h];have A:=(topB_iff _ _ _).1 ha;have B:=(topB_iff _ _ _).1 hb;obtain⟨bu,bp,_,bt⟩:=bothP_all ps qs A.asc.up A.pos B.pos;have nn:∀p ∈ bothP ps qs,0<=p.2:=fun p hp=>by have:=bp p hp;omega
 have c4:=cut_four nn;obtain⟨c5,o0⟩:=cut_five nn;have sb:=sumL_both ps qs;have fa:=A.2.2;have fb:=B.2.2;have a1:=A.1.2;have b1:=B.1.2;rw[sumP_sumL]at fa fb;have cn:∀p ∈ cutP (bothP ps qs),0<p.2:=fun p hp=>by
  obtain⟨q,_,_,h1,h2⟩:=less_mem hp;omega
 have cu:Up (cutP (bothP ps qs)):=bu.less _;have cs:=sumL_nonneg (fun p hp=>by have:=cn p hp;omega:∀p ∈ cutP (bothP ps qs),0<=p.2);show topB (cutP (bothP ps qs)) (la+lb+overV (bothP ps qs)) (aa+ab)=true
 refine (topB_iff _ _ _).2 ⟨⟨c4,⟨by omega,by omega⟩,by omega,by omega⟩,fun i hi=>⟨⟨?_,?_⟩,fun h0=>cu.asc i h0 hi⟩,by rw[sumP_sumL];omega⟩
 ·obtain⟨q,hq,e,_⟩:=less_mem (pr_mem hi)
  have:=both_thing A B hq;rw[e]at this;exact this
 ·have m1:=cn _ (pr_mem hi)
  have m2:=sumL_mem (fun p hp=>by have:=cn p hp;omega:∀p ∈ cutP (bothP ps qs),0<=p.2) (pr_mem hi);omega
theorem putP_two (ps:List Pr) (t n:Int) (hn:2<=n):cntGe (putP ps (t,1)) n<=ps.length:=by
 induction ps with
 |nil=>simp[putP,cntGe,List.filter_cons];omega
 |cons q ps ih=>
  have:=cntGe_le ps n;unfold putP
  split
  ·rw[cntGe_cons];split<;>simp<;>omega
  ·split
   ·rw[cntGe_cons];split<;>simp<;>omega
   ·rw[cntGe_cons,cntGe_cons];split<;>split<;>simp_all<;>omega
theorem tot_less {ps:List Pr} (h:Up ps) {n:Int} (hn:0<=n) (hp:∀p ∈ ps,0<=p.2) (t:Int):tot (lessV ps n) t<=tot ps t/\tot ps t<=tot (lessV ps n) t+n:=by
 unfold Up at h
 induction ps with
 |nil=>simp[lessV,tot];omega
 |cons p ps ih=>
  rw[List.pairwise_cons]at h;have i:=ih h.2 (fun q hq=>hp q (by simp[hq]));have p0:=hp p (by simp)
  by_cases e:p.1=t
  ·have z:tot ps t=0:=tot_none fun q hq=>by have:=h.1 q hq;omega
   have z':tot (lessV ps n) t=0:=tot_none fun q hq=>by
    obtain⟨q',hq',e',_⟩:=less_mem hq;have:=h.1 q' hq';omega
   unfold lessV
   split<;>simp only[tot,e,if_true,z,z']<;>omega
  ·unfold lessV
   split<;>simp only[tot,if_neg e]<;>omega
theorem add_more {ps:List Pr} {lost all t:Int} (h:addOk ps lost all t=true):topB (addT ps lost all t).1 (addT ps lost all t).2.1 (addT ps lost all t).2.2=true/\(addT ps lost all t).2.2=all+1/\(0<=(addT ps lost all t).2.1 - lost/\(addT ps lost all t).2.1 - lost<=1)/\tot (addT ps lost all t).1 t<=tot ps t+1/\tot ps t+lost<=tot (addT ps lost all t).1 t+(addT ps lost all t).2.1:=by
 refine⟨?_,?_⟩
 ·have:=join_top (ps:=ps) (la:=lost) (aa:=all) (qs:=[(t,1)]) (lb:=0) (ab:=1) (by rw[joinOk_one];exact h)
  rwa[joinT_one]at this
 rcases addOk_cases ps lost all t with ⟨_,h'⟩|⟨_,_,h'⟩|⟨_,_,_,h'⟩|⟨ha,ht,hs,_⟩
 ·rw[h]at h';cases h'
 ·rw[h]at h';cases h'
 ·rw[h]at h';cases h'
 rw[addT_yes h];have A:=(topB_iff _ _ _).1 ha;have up:Up (putP ps (t,1)):=A.asc.up.put;have pp:Pos (putP ps (t,1)):=A.pos.put (by simp);have nn:∀p ∈ putP ps (t,1),0<=p.2:=fun p hp=>by have:=pp p hp;omega
 have o0:=(cut_five nn).2;have o1:overV (putP ps (t,1))<=1:=by
  refine Decidable.byContradiction fun hc=>?_
  rcases overK_is (putP ps (t,1)) (k:=(putP ps (t,1)).length) lr_ with e|⟨i,hi,hk,e⟩
  ·have e':overV (putP ps (t,1))=0:=e
   omega
  ·have e':(pr (putP ps (t,1)) i).2=overV (putP ps (t,1)):=e
   have:=putP_two ps t (pr (putP ps (t,1)) i).2 (by omega);have:=A.1.1;omega
 obtain⟨t1,t2⟩:=tot_less up o0 nn t;have tp:=tot_put ps (t,1) t;simp only[if_true]at tp;refine⟨rfl,⟨by simp only;omega,by simp only;omega⟩,?_,?_⟩
 ·show tot (lessV (putP ps (t,1)) (overV (putP ps (t,1)))) t<=_
  omega
 ·show _<=tot (lessV (putP ps (t,1)) (overV (putP ps (t,1)))) t+(lost+overV (putP ps (t,1)))
  omega
structure AddMore (ps:List Pr) (lost all t:Int) (ns:List Pr) (nl na:Int):Prop where
 was:topB ps lost all=true
 top:topB ns nl na=true
 thing:0<=t/\t<64
 all':0<=all/\all<2000
 na':na=all+1
 nl':0<=nl - lost/\nl - lost<=1
 ge:tot ns t<=tot ps t+1
 le:tot ps t+lost<=tot ns t+nl
 old:0<=tot ps t/\tot ps t<=2000
 new:0<=tot ns t/\tot ns t<=2000
 lost':0<=lost/\lost<=2000
theorem addMore {ps:List Pr} {lost all t:Int} (h:addOk ps lost all t=true):AddMore ps lost all t (addT ps lost all t).1 (addT ps lost all t).2.1 (addT ps lost all t).2.2:=by
 obtain⟨a,b,c,d,e⟩:=add_more h;rcases addOk_cases ps lost all t with ⟨_,h'⟩|⟨_,_,h'⟩|⟨_,_,_,h'⟩|⟨ha,ht,hs,_⟩
 ·rw[h]at h';cases h'
 ·rw[h]at h';cases h'
 ·rw[h]at h';cases h'
 have A:=(topB_iff _ _ _).1 ha;have B:=(topB_iff _ _ _).1 a;exact⟨ha,a,by omega,⟨A.1.2.2.1,hs⟩,b,c,d,e,tot_bd A.2.1 A.asc,tot_bd B.2.1 B.asc,A.1.2.1⟩
end Go.Proofs.YtcblbdpdbggkbaaGreat.T

namespace Go.Proofs.YtcblbdpdbggkbaaGreat.K
open Go.RowKit Go.Sort
abbrev Pr:=Int × Int
def pr (ps:List Pr) (i:Nat):Pr:=ps.getD i (0,0)
def prs (ps:List Pr):List Value:=ps.flatMap fun p=>[.int .i64 p.1,.int .i64 p.2]
theorem prs_cons (p:Pr) (ps:List Pr):prs (p::ps)=.int .i64 p.1::.int .i64 p.2::prs ps:=rfl
theorem prs_snoc (ps:List Pr) (p:Pr):prs (ps++[p])=prs ps++[.int .i64 p.1,.int .i64 p.2]:=by simp[prs]
theorem prs_get (ps:List Pr) (i:Nat) (h:i<ps.length):(prs ps)[i * 2]? =some (.int .i64 (pr ps i).1)/\(prs ps)[i * 2+1]? =some (.int .i64 (pr ps i).2):=by
 induction ps generalizing i with
 |nil=>cases h
 |cons p ps ih=>
  rw[prs_cons];cases i with
  |zero=>exact⟨rfl,rfl⟩
  |succ i=>
   have:=ih i (by simpa using h);rw[show (i+1) * 2=i * 2+1+1 by omega];simp only[List.getElem?_cons_succ];exact this
theorem pr_mem {ps:List Pr} {i:Nat} (h:i<ps.length):pr ps i ∈ ps:=getD_mem ps i (0,0) h
theorem pr_at {ps:List Pr} {p:Pr} (h:p ∈ ps):∃i,i<ps.length/\pr ps i=p:=by
 obtain⟨i,hi,rfl⟩:=List.getElem_of_mem h;exact⟨i,hi,by simp[pr,hi]⟩
def Prs (w:World) (v:Value) (ps:List Pr):Prop:=
 (v=.slice none 0 0/\ps=[])\/
 ∃b o cap,v=.slice (some ⟨b,o,none⟩) ps.length cap/\ps.length<=cap/\cap<=maxLen/\b<w.heap.size/\
  ∀i,i<ps.length->w.cell? ⟨b,o+i * 2,none⟩=some (.int .i64 (pr ps i).1)/\w.cell? ⟨b,o+i * 2+1,none⟩=some (.int .i64 (pr ps i).2)
theorem Prs.below {w w':World} {v:Value} {ps:List Pr} (h:Prs w v ps) {B:Nat} (hb:Below B w w') (hB:w.heap.size<=B):Prs w' v ps:=by
 rcases h with h|⟨b,o,cap,rfl,h1,h2,h3,h4⟩
 ·exact .inl h
 ·exact .inr ⟨b,o,cap,rfl,h1,h2,Nat.lt_of_lt_of_le h3 hb.size,fun i hi=>by
      rw[hb.cell (by show b<B;omega),hb.cell (by show b<B;omega)];exact h4 i hi⟩
theorem Prs.form {w:World} {v:Value} {ps:List Pr} (h:Prs w v ps):∃x c,v=.slice x ps.length c/\ps.length<=c/\c<=maxLen:=by
 rcases h with ⟨rfl,rfl⟩|⟨b,o,cap,rfl,h1,h2,_⟩
 ·exact⟨none,0,rfl,Nat.le_refl _,Nat.zero_le _⟩
 ·exact⟨_,_,rfl,h1,h2⟩
theorem Prs.cells {w:World} {x:Option Addr} {n c:Nat} {ps:List Pr} (h:Prs w (.slice x n c) ps):∀i,i<ps.length->∃b o,x=some ⟨b,o,none⟩/\b<w.heap.size/\w.cell? ⟨b,o+i * 2,none⟩=some (.int .i64 (pr ps i).1)/\w.cell? ⟨b,o+i * 2+1,none⟩=some (.int .i64 (pr ps i).2):=fun i hi=>by
 rcases h with ⟨_,rfl⟩|⟨b,o,cap,e,h1,h2,h3,h4⟩
 ·cases hi
 ·exact⟨b,o,(Value.slice.inj e).1,h3,h4 i hi⟩
def OwnP (w:World) (B:Nat) (v:Value) (ps:List Pr):Prop:=w.ownsRow B 152 2 v ps.length (prs ps)
theorem addr_plus (b o i:Nat):(⟨b,o,none⟩:Addr).add i=⟨b,o+i,none⟩:=by unfold Addr.add;split<;>simp_all
theorem OwnP.rd {w:World} {B:Nat} {v:Value} {ps:List Pr} (h:OwnP w B v ps):Prs w v ps:=by
 rcases h.2 with ⟨rfl,h0⟩|⟨g,cap,cur,rfl,hb,hg,hn,hc,hs,ht⟩
 ·exact .inl ⟨rfl,List.eq_nil_of_length_eq_zero h0⟩
 ·refine .inr ⟨g,0,cap,rfl,hn,hc,(Array.getElem?_eq_some_iff.1 hg).1,fun i hi=>?_⟩
  have e:=prs_get ps i hi;have a:=World.ownsRow.cells h (g:=g) rfl _ _ e.1;have b:=World.ownsRow.cells h (g:=g) rfl _ _ e.2;rw[addr_plus]at a b;exact⟨a,by rw[Nat.add_assoc];exact b⟩
theorem OwnP.base {w:World} {B B':Nat} {v:Value} {ps:List Pr} (h:OwnP w B v ps) (hB:B'<=B):OwnP w B' v ps:=ownsRow_base h hB
theorem OwnP.kept {w w':World} {B:Nat} {v:Value} {ps:List Pr} {row:Option Nat} (h:OwnP w B v ps) (hg:w.grownBy w' row) (hr:∀k,row=some k->k<B):OwnP w' B v ps:=by
 refine World.ownsRow.kept h hg ?_;cases hv:v.ownBlock with
 |none=>exact .inl rfl
 |some k=>exact .inr (fun e=>by have:=(World.ownsRow.lt h k hv).1;have:=hr k e.symm;omega)
theorem OwnP.keep {w w':World} {B:Nat} {v:Value} {ps:List Pr} {row:Option Nat} (h:OwnP w B v ps) (hg:w.grownBy w' row) (hr:v.ownBlock≠row):OwnP w' B v ps:=World.ownsRow.kept h hg (.inr hr)
theorem OwnP.below {w w':World} {B:Nat} {v:Value} {ps:List Pr} (h:OwnP w B v ps) (hb:Below w.heap.size w w'):OwnP w' B v ps:=h.kept (row:=none) (grownBy_below hb) (fun _ e=>by cases e)
theorem OwnP.nil (w:World) (B:Nat):OwnP w B (.slice none 0 0) []:=World.ownsRow_nil w B _ 2
theorem OwnP.form {w:World} {B:Nat} {v:Value} {ps:List Pr} (h:OwnP w B v ps):∃x c,v=.slice x ps.length c/\ps.length<=c/\c<=maxLen:=h.rd.form
theorem pair_info:(Tryz.prog.info? 152).map (fun i=>(i.zero,i.size,i.bytes))=some (some (.agg #[.int .i64 0,.int .i64 0]),2,16):=by kernel_rfl
theorem pair_empty (w:World) (B:Nat) (hB:B<=w.heap.size):OwnP (w.alloc (.cells #[] 152)) B (.slice (some ⟨w.heap.size,0,none⟩) 0 0) []:=
 World.ownsRow_lit (base:=B) (e:=152) (size:=2) w #[] 0 hB (by simp[maxLen]) (by simp)
def Box2 (W:World) (b:Nat) (t:TypeId) (x y:Value):Prop:=W.heap[b]? =some (.cells #[x,y] t (0,0))
section
variable {W W':World} {b:Nat} {t:TypeId} {x y:Value}
theorem Box2.lt (h:Box2 W b t x y):b<W.heap.size:=(Array.getElem?_eq_some_iff.1 h).1
theorem Box2.new (W:World) (t:TypeId) (x y:Value):Box2 (W.alloc (.cells #[x,y] t)) W.heap.size t x y:=heap_alloc_new W _
theorem Box2.below (h:Box2 W b t x y) {B:Nat} (hb:Below B W W') (hB:b<B):Box2 W' b t x y:=(hb.block b hB).trans h
theorem Box2.later (h:Box2 W b t x y) (hb:Below W.heap.size W W'):Box2 W' b t x y:=h.below hb h.lt
theorem Box2.drew (h:Box2 W b t x y):Box2 W.drew b t x y:=h
theorem Box2.alloc (h:Box2 W b t x y) (o:Obj):Box2 (W.alloc o) b t x y:=h.later ((Below.refl _ _).alloc lr_ o)
theorem Box2.kept {row:Option Nat} (h:Box2 W b t x y) (hg:W.grownBy W' row) (hr:row≠some b):Box2 W' b t x y:=(hg.block b h.lt (fun e=>hr e.symm)).trans h
theorem Box2.cell0 (h:Box2 W b t x y):W.cell? ⟨b,0,none⟩=some x:=by unfold Box2 at h;simp[World.cell?,h]
theorem Box2.cell1 (h:Box2 W b t x y):W.cell? ⟨b,1,none⟩=some y:=by unfold Box2 at h;simp[World.cell?,h]
theorem Box2.free (h:Box2 W b t x y) (i:Nat):W.frozen? ⟨b,i,none⟩=false:=by unfold Box2 at h;simp[World.frozen?,h]
theorem Box2.set0 (h:Box2 W b t x y) (u:Value):Box2 (W.setCell ⟨b,0,none⟩ u) b t u y:=by unfold Box2 at h ⊢;rw[heap_setCell_same W b 0 _ _ _ h];rfl
theorem Box2.set1 (h:Box2 W b t x y) (u:Value):Box2 (W.setCell ⟨b,1,none⟩ u) b t x u:=by unfold Box2 at h ⊢;rw[heap_setCell_same W b 1 _ _ _ h];rfl
theorem Box2.set (h:Box2 W b t x y) (x' y':Value):Box2 ((W.setCell ⟨b,0,none⟩ x').setCell ⟨b,1,none⟩ y') b t x' y':=(h.set0 x').set1 y'
theorem Box2.not_row {B:Nat} {e:TypeId} {size n:Nat} {v:Value} {xs:List Value} (h:Box2 W b t x y) (ht:t≠e) (ho:W.ownsRow B e size v n xs):v.ownBlock≠some b:=fun hb=>by
 rcases ho.2 with ⟨rfl,_⟩|⟨g,cap,cur,rfl,_,hg,_⟩
 ·cases hb
 ·obtain rfl:g=b:=by simpa[Value.ownBlock]using hb
  unfold Box2 at h;rw[hg]at h;cases h;exact ht rfl
end
theorem below_set2 {B b:Nat} {w W:World} (h:Below B w W) (hb:B<=b) (x y:Value):Below B w ((W.setCell ⟨b,0,none⟩ x).setCell ⟨b,1,none⟩ y):=(h.setCell hb _).setCell hb _
theorem OwnP.set2 {W:World} {B b:Nat} {v:Value} {ps:List Pr} (h:OwnP W B v ps) (hv:v.ownBlock≠some b) (x y:Value):OwnP ((W.setCell ⟨b,0,none⟩ x).setCell ⟨b,1,none⟩ y) B v ps:=
 (h.keep (grownBy_setCell W ⟨b,0,none⟩ x) hv).keep (grownBy_setCell _ ⟨b,1,none⟩ y) hv
theorem int_info:(Tryz.prog.info? 3).map (fun i=>(i.zero,i.size,i.bytes))=some (some (.int .i64 0),1,8):=by kernel_rfl
def OwnI (w:World) (B:Nat) (v:Value) (zs:List Int):Prop:=w.ownsRow B 3 1 v zs.length (ints zs)
theorem OwnI.kept {w w':World} {B:Nat} {v:Value} {zs:List Int} {row:Option Nat} (h:OwnI w B v zs) (hg:w.grownBy w' row) (hr:∀k,row=some k->k<B):OwnI w' B v zs:=by
 refine World.ownsRow.kept h hg ?_;cases hv:v.ownBlock with
 |none=>exact .inl rfl
 |some k=>exact .inr (fun e=>by have:=(World.ownsRow.lt h k hv).1;have:=hr k e.symm;omega)
theorem OwnI.below {w w':World} {B:Nat} {v:Value} {zs:List Int} (h:OwnI w B v zs) (hb:Below w.heap.size w w'):OwnI w' B v zs:=h.kept (row:=Option.none) (grownBy_below hb) (fun _ e=>by cases e)
theorem ints_set (zs:List Int) (k:Nat) (x:Int):(ints zs).set k (.int .i64 x)=ints (zs.set k x):=by simp[ints,List.map_set]
def RowI (w:World) (B g n c:Nat) (zs:List Int):Prop:=zs.length=n/\w.ownsRow B 3 1 (.slice (some ⟨g,0,none⟩) n c) n (ints zs)
section
variable {w w':World} {B g n c:Nat} {zs:List Int}
theorem RowI.own (h:RowI w B g n c zs):OwnI w B (.slice (some ⟨g,0,none⟩) n c) zs:=by unfold OwnI;rw[h.1];exact h.2
theorem RowI.cell (h:RowI w B g n c zs) {i:Nat} (hi:i<n):w.cell? ⟨g,i,none⟩=some (.int .i64 (zs.getD i 0)):=by
 rw[h.2.cellAt i (by omega)];exact ints_get _ _ (by rw[h.1];exact hi)
theorem RowI.free (h:RowI w B g n c zs) (i:Nat):w.frozen? ⟨g,i,none⟩=false:=h.2.frozenAt i
theorem RowI.set (h:RowI w B g n c zs) (i:Nat) (x:Int):RowI (w.setCell ⟨g,i,none⟩ (.int .i64 x)) B g n c (zs.set i x):=by
 have hs:=(h.2.stored i (.int .i64 x)).1;rw[ints_set]at hs;exact⟨by simpa using h.1,hs⟩
theorem RowI.grown (h:RowI w B g n c zs) (i:Nat) (x:Int):w.grownBy (w.setCell ⟨g,i,none⟩ (.int .i64 x)) (some g):=(h.2.stored i (.int .i64 x)).2
theorem RowI.below (h:RowI w B g n c zs) (hb:Below w.heap.size w w'):RowI w' B g n c zs:=by
 have h2:=h.own.below hb;unfold OwnI at h2;rw[h.1]at h2;exact⟨h.1,h2⟩
theorem RowI.drewN (h:RowI w B g n c zs) (k:Nat):RowI (w.drewN k) B g n c zs:=h
theorem RowI.lt (h:RowI w B g n c zs):B<=g/\g<w.heap.size:=World.ownsRow.lt h.2 g rfl
end
theorem made_ints (w:World) (n:Nat) (hn:n<=1048576):RowI (w.alloc (.cells (madeCells #[.int .i64 0] n) 3)) w.heap.size w.heap.size n n (List.replicate n 0):=by
 have:=World.ownsRow_lit (base:=w.heap.size) (e:=3) (size:=1) w (madeCells #[.int .i64 0] n) n lr_ (by unfold maxLen;omega) (by rw[size_madeCells];omega);rw[toList_madeCells_one]at this;exact⟨by simp,by simpa[ints]using this⟩
def dblL:Nat->Int->Int
 | 0,x=>x
 |f+1,x=>if x<64 then dblL f (2 * x)else x
def dblH:Nat->Int->Int->Int
 | 0,_,h=>h
 |f+1,x,h=>if x<64 then dblH f (2 * x) (2 * h+1)else h
def lowT (a:Int):Int:=dblL 7 a - 64
def highT (a:Int):Int:=dblH 7 a a - 64
theorem span_all:∀n:Nat,n<127->(0<=lowT ((n:Int)+1)/\lowT ((n:Int)+1)<=highT ((n:Int)+1)/\highT ((n:Int)+1)<=63)/\(63<=n->lowT ((n:Int)+1)=(n:Int)+1 - 64/\highT ((n:Int)+1)=(n:Int)+1 - 64)/\
  (n<63->lowT (2 * ((n:Int)+1))=lowT ((n:Int)+1)/\highT (2 * ((n:Int)+1))+1=lowT (2 * ((n:Int)+1)+1)/\highT (2 * ((n:Int)+1)+1)=highT ((n:Int)+1)/\highT (2 * ((n:Int)+1)) - lowT (2 * ((n:Int)+1))=highT ((n:Int)+1) - highT (2 * ((n:Int)+1)) - 1):=by decide+kernel
def sumP (ps:List Pr):Int:=(ps.map (·.2)).sum
theorem sumP_append (ps qs:List Pr):sumP (ps++qs)=sumP ps+sumP qs:=by simp[sumP]
theorem take_succ_pr (ps:List Pr) (k:Nat) (h:k<ps.length):ps.take (k+1)=ps.take k++[pr ps k]:=by
 rw[List.take_succ_eq_append_getElem h];simp[pr,h]
theorem sumP_succ (ps:List Pr) (k:Nat) (h:k<ps.length):sumP (ps.take (k+1))=sumP (ps.take k)+(pr ps k).2:=by
 rw[take_succ_pr ps k h,sumP_append];simp[sumP]
def KnG (ps:List Pr) (all:Int) (i:Nat):Prop:=((1<=(pr ps i).1/\(pr ps i).1<=127)/\1<=(pr ps i).2/\(pr ps i).2<=2000)/\(0<i->(pr ps (i - 1)).1<(pr ps i).1)/\((pr ps i).1<64->(pr ps i).2<=all / 8)
instance (ps:List Pr) (all:Int) (i:Nat):Decidable (KnG ps all i):=by unfold KnG;infer_instance
def RankP (ps:List Pr) (all:Int):Prop:=(0<=all/\all<=2000)/\(∀i,i<ps.length->KnG ps all i)/\sumP ps=all
instance (ps:List Pr) (all:Int):Decidable (RankP ps all):=by unfold RankP;infer_instance
def rankB (ps:List Pr) (all:Int):Bool:=decide (RankP ps all)
theorem rankB_iff (ps:List Pr) (all:Int):rankB ps all=true↔RankP ps all:=by simp[rankB]
theorem rankB_no {ps:List Pr} {all:Int} (h:¬RankP ps all):rankB ps all=false:=by simpa[rankB]using h
theorem knG_at {ps:List Pr} {all:Int} {k:Nat} (h:∀i,i<k->KnG ps all i):∀i,i<k->(i:Int)+1<=(pr ps i).1:=fun i hi=>by
 induction i with
 |zero=>have:=(h 0 hi).1.1.1;omega
 |succ i ih=>
  have:=ih (by omega);have:=(h (i+1) hi).2.1 (by omega);simp only[Nat.add_sub_cancel]at this;omega
theorem knG_few {ps:List Pr} {all:Int} {k:Nat} (h:∀i,i<k->KnG ps all i):k<=127:=by
 cases k with
 |zero=>omega
 |succ k=>
  have:=knG_at h k (by omega);have:=(h k (by omega)).1.1.2;omega
theorem sumK_bd {ps:List Pr} {all:Int} {k:Nat} (hk:k<=ps.length) (h:∀i,i<k->KnG ps all i):0<=sumP (ps.take k)/\sumP (ps.take k)<=2000 * k:=by
 induction k with
 |zero=>simp[sumP]
 |succ k ih=>
  have:=ih (by omega) (fun i hi=>h i (by omega));have g:=(h k (by omega)).1.2;rw[sumP_succ ps k (by omega)];omega
theorem spRankOk_in (w:World) (x:Option Addr) (n c:Nat) (ps:List Pr) (all:Int) (hl:ps.length=n) (hp:Prs w (.slice x n c) ps) (hn:n<=maxLen):
  Calls Tryz.prog 222 #[.agg #[.slice x n c,.int .i64 all]] w fun e w'=>e=.returned (.bool (rankB ps all))/\Below w.heap.size w w':=by
 unfold maxLen at hn;have HPR:=hd_ hp;have HP:=hd_ hp.cells;have HL:=hd_ hl;obtain⟨W,hW⟩:∃W,W=w.alloc (.cells #[.slice x n c,.int .i64 all] 44):=⟨_,rfl⟩
 have hA:Below w.heap.size w W:=by rw[hW];exact (Below.refl w.heap.size w).alloc lr_ _
 have sW:W.heap.size=w.heap.size+1:=by rw[hW];simp
 have X:Box2 W w.heap.size 44 (.slice x n c) (.int .i64 all):=by rw[hW];exact Box2.new _ _ _ _
 have HA:=hd_ hA;have HS:=hd_ sW;have HX:=hd_ X;have x0:=X.cell0;have x1:=X.cell1;clear hl hp hA sW X
 by_cases ha:all<0\/2000<all
 ·have bd:Hid (rankB ps all=false):=rankB_no (fun q=>by have:=q.1;omega)
  go_enter Tryz.func222,Tryz.ntmps222
  go_wp2_with fail
  rw[<-hW];clear hW;refine (l6In_no _ _ _ _ ha).mono ?_;rintro e w' ⟨rfl,rfl⟩;go_wp2;go_ret;exact⟨ret_bool bd.out.symm,HA.out⟩
 have ha0:0<=all:=by omega
 have ha1:all<=2000:=by omega
 have hD:all.tdiv 8=all / 8:=Int.tdiv_eq_ediv_of_nonneg ha0;obtain⟨D,hDD⟩:∃D,D=all / 8:=⟨_,rfl⟩
 rw[<-hDD]at hD;have HDD:=hd_ hDD;have d0:0<=D:=by omega
 have d1:D<=250:=by omega
 clear hDD;go_enter Tryz.func222,Tryz.ntmps222
 go_wp2_with fail
 rw[<-hW];clear hW;refine (l6In_yes _ _ _ _ ha0 ha1).mono ?_;rintro e w' ⟨rfl,rfl⟩;go_wp2;go_loopw [3,4] (fun q i wr=>∃k:Nat,k<=n/\i=.int .i64 k/\q=.int .i64 (sumP (ps.take k))/\(∀i,i<k->KnG ps all i)/\Below (w.heap.size+1) W wr) (fun _ i _=>n - (intOf i).toNat)
 case atStart=>exact⟨0,Nat.zero_le _,rfl,rfl,fun _ h=>absurd h (Nat.not_lt_zero _),Below.refl _ _⟩
 case round=>
  obtain⟨k,hk,rfl,rfl,hg,hbl⟩:=hrel;have G:=hd_ hg;have HB:=hd_ hbl;have kf:=knG_few hg;have hsb:=sumK_bd (by rw[HL.out];exact hk) hg;have hX1:=HX.out.below HB.out (Nat.lt_succ_self _);have cw0:=hX1.cell0;have cw1:=hX1.cell1;have FIN:=hd_ (HA.out.trans (HB.out.mono (Nat.le_succ _)));have sw:w.heap.size+1<=wr.heap.size:=by have:=HB.out.size;have:=HS.out;omega
  by_cases hlt:k<n
  ·obtain⟨b,o,rfl,hb,h1,h2⟩:=HP.out k (by rw[HL.out];exact hlt)
   have tr:∀j v,w.cell? ⟨b,j,none⟩=some v->wr.cell? ⟨b,j,none⟩=some v:=fun j v h=>by
    rw[HB.out.cell (p:=⟨b,j,none⟩) (by show b<_;omega),HA.out.cell (p:=⟨b,j,none⟩) hb];exact h
   have TR:=hd_ tr;replace h1:=tr _ _ h1;replace h2:=tr _ _ h2;have lb:b<wr.heap.size:=by omega
   have HQ:Hid (KnG ps all k↔(((1<=(pr ps k).1/\(pr ps k).1<=127)/\1<=(pr ps k).2/\(pr ps k).2<=2000)/\(0<k->(pr ps (k - 1)).1<(pr ps k).1)/\((pr ps k).1<64->(pr ps k).2<=all / 8))):=Iff.rfl;rw[<-HDD.out]at HQ;have bad:Hid (¬KnG ps all k->rankB ps all=false):=fun h=>rankB_no (fun q=>h (q.2.1 k (by rw[HL.out];exact hlt)))
   have hs:=hd_ (sumP_succ ps k (by rw[HL.out];exact hlt));generalize pr ps k=q at h1 h2 HQ hs;obtain⟨t,m⟩:=q;have k0:(0:Int)<=(k:Int):=by omega
   have kn:(k:Int)<(n:Int):=by omega
   -- the world with this round's box
   obtain⟨wk,hwk⟩:∃wk,wk=wr.alloc (.cells #[.int .i64 t,.int .i64 m] 152):=⟨_,rfl⟩
   have hK:Below wr.heap.size wr wk:=by rw[hwk];exact (Below.refl _ _).alloc lr_ _
   have bK:Box2 wk wr.heap.size 152 (.int .i64 t) (.int .i64 m):=by rw[hwk];exact Box2.new _ _ _ _
   have y0:=bK.cell0;have y1:=bK.cell1;have yX:=hX1.later hK;have xk0:=yX.cell0;have xk1:=yX.cell1;have HB2:=hd_ (HB.out.trans (hK.mono sw));have FIN2:=hd_ (FIN.out.trans (hK.mono FIN.out.size));have HK:=hd_ hK;generalize hSS:sumP (ps.take k)=S at *;clear hg hbl tr hX1 bK yX hSS hK
   go_wp2_with fail
   rw[<-hwk];clear hwk
   by_cases ht:t<1\/127<t
   ·skip
    have bd:=hd_ (bad.out (fun q=>by have:=(HQ.out.1 q).1.1;(try simp at this);omega));clear HQ bad
    go_quiet (first|(with_reducible exact quiet_same' (l6In_no _ _ _ _ ht)))
    go_wp2;go_ret;exact⟨ret_bool bd.out.symm,below_drewN FIN2.out _⟩
   have ht0:1<=t:=by omega
   have ht1:t<=127:=by omega
   by_cases hm:m<1\/2000<m
   ·skip
    have bd:=hd_ (bad.out (fun q=>by have:=(HQ.out.1 q).1.2;(try simp at this);omega));clear HQ bad
    go_quiet (first|(with_reducible exact quiet_same' (l6In_yes _ _ _ _ ht0 ht1))|(with_reducible exact quiet_same' (l6In_no _ _ _ _ hm)))
    go_wp2;go_ret;exact⟨ret_bool bd.out.symm,below_drewN FIN2.out _⟩
   have hm0:1<=m:=by omega
   have hm1:m<=2000:=by omega
   rcases Nat.eq_zero_or_pos k with h0|h0
   ·subst h0
    by_cases h64:t<64
    ·have e64:decide (t<64)=true:=decide_eq_true h64
     by_cases hD8:D<m
     ·have eD:decide (D<m)=true:=decide_eq_true hD8
      have bd:=hd_ (bad.out (fun q=>by have:=(HQ.out.1 q).2.2 h64;(try simp at this);omega));clear HQ bad
      go_quiet (first|(with_reducible exact quiet_same' (l6In_yes _ _ _ _ ht0 ht1))|(with_reducible exact quiet_same' (l6In_yes _ _ _ _ hm0 hm1)))
      go_wp2;go_ret;exact⟨ret_bool bd.out.symm,below_drewN FIN2.out _⟩
     ·have eD:decide (D<m)=false:=decide_eq_false hD8
      have good:=hd_ (HQ.out.2 ⟨⟨⟨ht0,ht1⟩,hm0,hm1⟩,fun h=>absurd h (Nat.lt_irrefl _),fun _=>by (try simp);omega⟩);clear HQ bad
      go_quiet (first|(with_reducible exact quiet_same' (l6In_yes _ _ _ _ ht0 ht1))|(with_reducible exact quiet_same' (l6In_yes _ _ _ _ hm0 hm1)))
      go_wp2;go_roundw
      case rel=>exact⟨0+1,by omega,by go_num,by rw[hs.out],fun i hi=>by
              by_cases h:i<0
              · exact G.out i h
              · obtain rfl:i=0:=by omega
                exact good.out,below_drewN HB2.out _⟩
      case measure=>simp[intOf];omega
    ·have e64:decide (t<64)=false:=decide_eq_false h64
     have good:=hd_ (HQ.out.2 ⟨⟨⟨ht0,ht1⟩,hm0,hm1⟩,fun h=>absurd h (Nat.lt_irrefl _),fun h=>absurd h h64⟩);clear HQ bad
     go_quiet (first|(with_reducible exact quiet_same' (l6In_yes _ _ _ _ ht0 ht1))|(with_reducible exact quiet_same' (l6In_yes _ _ _ _ hm0 hm1)))
     go_wp2;go_roundw
     case rel=>exact⟨0+1,by omega,by go_num,by rw[hs.out],fun i hi=>by
            by_cases h:i<0
            · exact G.out i h
            · obtain rfl:i=0:=by omega
              exact good.out,below_drewN HB2.out _⟩
     case measure=>simp[intOf];omega
   ·obtain⟨j,rfl⟩:∃j,k=j+1:=⟨k - 1,by omega⟩
    obtain⟨b',o',e',hb',h3,_⟩:=HP.out j (by rw[HL.out];omega);cases e';replace h3:=(HK.out.cell (p:=⟨b,o+j * 2,none⟩) lb).trans (TR.out _ _ h3);rw[Nat.add_sub_cancel]at HQ;generalize pr ps j=q' at h3 HQ;obtain⟨t',m'⟩:=q';have p0:(0:Int)<((j+1:Nat):Int):=by omega
    have e1:((j+1:Nat):Int) - 1=(j:Int):=by omega
    have j0:(0:Int)<=(j:Int):=by omega
    have jn:(j:Int)<(n:Int):=by omega
    by_cases hyx:t<=t'
    ·have hd:decide (t<=t')=true:=decide_eq_true hyx
     have bd:=hd_ (bad.out (fun q=>by have:=(HQ.out.1 q).2.1 h0;(try simp at this);omega));clear HQ bad
     go_quiet (first|(with_reducible exact quiet_same' (l6In_yes _ _ _ _ ht0 ht1))|(with_reducible exact quiet_same' (l6In_yes _ _ _ _ hm0 hm1)))
     go_wp2;go_ret;exact⟨ret_bool bd.out.symm,below_drewN FIN2.out _⟩
    have hd:decide (t<=t')=false:=decide_eq_false hyx
    by_cases h64:t<64
    ·have e64:decide (t<64)=true:=decide_eq_true h64
     by_cases hD8:D<m
     ·have eD:decide (D<m)=true:=decide_eq_true hD8
      have bd:=hd_ (bad.out (fun q=>by have:=(HQ.out.1 q).2.2 h64;(try simp at this);omega));clear HQ bad
      go_quiet (first|(with_reducible exact quiet_same' (l6In_yes _ _ _ _ ht0 ht1))|(with_reducible exact quiet_same' (l6In_yes _ _ _ _ hm0 hm1)))
      go_wp2;go_ret;exact⟨ret_bool bd.out.symm,below_drewN FIN2.out _⟩
     ·have eD:decide (D<m)=false:=decide_eq_false hD8
      have good:=hd_ (HQ.out.2 ⟨⟨⟨ht0,ht1⟩,hm0,hm1⟩,fun _=>by (try simp);omega,fun _=>by (try simp);omega⟩);clear HQ bad
      go_quiet (first|(with_reducible exact quiet_same' (l6In_yes _ _ _ _ ht0 ht1))|(with_reducible exact quiet_same' (l6In_yes _ _ _ _ hm0 hm1)))
      go_wp2;go_roundw
      case rel=>exact⟨(j+1)+1,by omega,by go_num,by rw[hs.out],fun i hi=>by
              by_cases h:i<(j+1)
              · exact G.out i h
              · obtain rfl:i=(j+1):=by omega
                exact good.out,below_drewN HB2.out _⟩
      case measure=>simp[intOf];omega
    ·have e64:decide (t<64)=false:=decide_eq_false h64
     have good:=hd_ (HQ.out.2 ⟨⟨⟨ht0,ht1⟩,hm0,hm1⟩,fun _=>by (try simp);omega,fun h=>absurd h h64⟩);clear HQ bad
     go_quiet (first|(with_reducible exact quiet_same' (l6In_yes _ _ _ _ ht0 ht1))|(with_reducible exact quiet_same' (l6In_yes _ _ _ _ hm0 hm1)))
     go_wp2;go_roundw
     case rel=>exact⟨(j+1)+1,by omega,by go_num,by rw[hs.out],fun i hi=>by
            by_cases h:i<(j+1)
            · exact G.out i h
            · obtain rfl:i=(j+1):=by omega
              exact good.out,below_drewN HB2.out _⟩
     case measure=>simp[intOf];omega
  ·obtain rfl:k=n:=by omega
   have e1:ps.take k=ps:=List.take_of_length_le (by rw[HL.out];exact Nat.le_refl _);rw[e1]at hsb ⊢;have HF:Hid (sumP ps=all->rankB ps all=true):=fun h=>(rankB_iff _ _).2 ⟨⟨ha0,ha1⟩,fun i hi=>G.out i (by rw[HL.out]at hi;exact hi),h⟩
   have HN:Hid (¬sumP ps=all->rankB ps all=false):=fun h=>rankB_no (fun q=>h q.2.2)
   generalize sumP ps=S at *;clear hg hbl hX1 e1
   by_cases he:S=all
   ·have fv:=hd_ (HF.out he)
    have e2:(S==all)=true:=by simpa using he
    go_wp2;go_ret;exact⟨ret_bool (by first|(rw[fv.out];done)|(rw[fv.out];simp[he])),FIN.out⟩
   ·have fv:=hd_ (HN.out he)
    have e2:(S==all)=false:=by simpa using he
    go_wp2;go_ret;exact⟨ret_bool (by first|(rw[fv.out];done)|(rw[fv.out];simp[he])),FIN.out⟩
theorem spRankOk_at (w:World) (u:Value) (ps:List Pr) (all:Int) (hp:Prs w u ps):
  Calls Tryz.prog 222 #[.agg #[u,.int .i64 all]] w fun e w'=>e=.returned (.bool (rankB ps all))/\Below w.heap.size w w':=by
 obtain⟨x,c,rfl,hc0,hc⟩:=hp.form;exact spRankOk_in w x _ c ps all rfl hp (by omega)
def addN (a:List Int) (p:Pr):List Int:=a.set p.1.toNat (a.getD p.1.toNat 0+p.2)
def numsV (ps:List Pr):List Int:=ps.foldl addN (List.replicate 128 0)
theorem numsV_len (ps:List Pr):(numsV ps).length=128:=by
 unfold numsV;have:∀(ps:List Pr) (a:List Int),a.length=128->(ps.foldl addN a).length=128:=by
  intro ps
  induction ps with
  |nil=>intro a h;exact h
  |cons p ps ih=>intro a h;exact ih _ (by simpa[addN]using h)
 exact this ps _ (by simp)
theorem numsV_succ (ps:List Pr) (k:Nat) (h:k<ps.length):numsV (ps.take (k+1))=addN (numsV (ps.take k)) (pr ps k):=by
 rw[take_succ_pr ps k h];simp[numsV]
def KnB (ps:List Pr):Prop:=∀i,i<ps.length->(0<=(pr ps i).1/\(pr ps i).1<=127)/\0<=(pr ps i).2/\(pr ps i).2<=2000
theorem numsV_bd {ps:List Pr} (h:KnB ps):∀k,k<=ps.length->∀i,0<=(numsV (ps.take k)).getD i 0/\(numsV (ps.take k)).getD i 0<=2000 * (k:Int):=by
 intro k
 induction k with
 |zero=>
  intro _ i;have e0:∀n,(List.replicate n (0:Int)).getD i 0=0:=fun n=>by
   by_cases hi:i<n<;>simp[hi]
  have e:=e0 128;show 0<=(List.replicate 128 (0:Int)).getD i 0/\(List.replicate 128 (0:Int)).getD i 0<=_
  rw[e];omega
 |succ k ih=>
  intro hk i;have h1:=ih (by omega) i;have h2:=ih (by omega) (pr ps k).1.toNat;have h3:=(h k (by omega)).2;rw[numsV_succ ps k (by omega)];unfold addN
  by_cases e:(pr ps k).1.toNat=i
  ·subst e
   by_cases hl:(pr ps k).1.toNat<(numsV (ps.take k)).length
   ·rw[List.getD_eq_getElem?_getD,List.getElem?_set_self hl]
    simp only[Option.getD_some];omega
   ·rw[List.set_eq_of_length_le (by omega)];omega
  ·have e1:((numsV (ps.take k)).set (pr ps k).1.toNat ((numsV (ps.take k)).getD (pr ps k).1.toNat 0+(pr ps k).2)).getD i 0=(numsV (ps.take k)).getD i 0:=by simp[e]
   rw[e1];omega
theorem l4Nums_in (w:World) (x:Option Addr) (n c:Nat) (ps:List Pr) (hl:ps.length=n) (hp:Prs w (.slice x n c) ps) (hn:n<=300) (hk:KnB ps):
  Calls Tryz.prog 228 #[.slice x n c] w fun e w'=>e=.returned (.slice (some ⟨w.heap.size,0,none⟩) 128 128)/\RowI w' w.heap.size w.heap.size 128 128 (numsV ps)/\Below w.heap.size w w':=by
 have hmk:∀w,(Instr.makeSlice 23 (.int .i64 128) (.int .i64 128)).run Tryz.prog w=.ok (.slice (some ⟨w.heap.size,0,none⟩) 128 128) (w.alloc (.cells (madeCells #[.int .i64 0] 128) 3)):=fun w=>
  run_make_row' (P:=Tryz.prog) 23 3 (.int .i64 0) 8 Tryz.underlying23 int_info rfl .i64 .i64 128 (by omega) (by omega) w
 have R0:=hd_ (made_ints w 128 (by omega));have HP:=hd_ hp.cells;have HL:=hd_ hl;have KB:=hd_ hk;clear hl hp hk;go_enter Tryz.func228,Tryz.ntmps228;go_wp2;go_loopw [4] (fun i wr=>∃k:Nat,k<=n/\i=.int .i64 k/\RowI wr w.heap.size w.heap.size 128 128 (numsV (ps.take k))/\Below w.heap.size w wr) (fun i _=>n - (intOf i).toNat)
 case atStart=>exact⟨0,Nat.zero_le _,rfl,R0.out,(Below.refl _ _).alloc lr_ _⟩
 case round=>
  obtain⟨k,hk,rfl,hrow,hbl⟩:=hrel;have HR:=hd_ hrow;have HB:=hd_ hbl
  by_cases hlt:k<n
  ·obtain⟨b,o,rfl,hb,h1,h2⟩:=HP.out k (by rw[HL.out];exact hlt)
   rw[<-HB.out.cell (p:=⟨b,o+k * 2,none⟩) hb]at h1;rw[<-HB.out.cell (p:=⟨b,o+k * 2+1,none⟩) hb]at h2;have g:=KB.out k (by rw[HL.out];exact hlt);have bd:=numsV_bd KB.out k (by rw[HL.out];omega);have hs:=hd_ (numsV_succ ps k (by rw[HL.out];exact hlt));generalize pr ps k=q at h1 h2 hs g;obtain⟨t,m⟩:=q;simp only at h1 h2 g;obtain⟨⟨t0,t1⟩,m0,m1⟩:=g;obtain⟨T,rfl⟩:∃T:Nat,t=(T:Int):=⟨t.toNat,by omega⟩
   have T1:(T:Int)<128:=by omega
   have bT:=bd T;have c0:=hrow.cell (i:=T) (by omega);have f0:=hrow.free T;unfold addN at hs;simp only[Int.toNat_natCast]at hs;generalize numsV (ps.take k)=N at *;obtain⟨V,hV⟩:∃V,V=N.getD T 0:=⟨_,rfl⟩
   rw[<-hV]at c0 bT hs;have k0:(0:Int)<=(k:Int):=by omega
   have kn:(k:Int)<(n:Int):=by omega
   have ws:IntKind.i64.wrap (V+m)=V+m:=IntWalk.i64_in _ (by omega);have r0:=cell_regrown c0;have r1:=cell_regrown h1;have r2:=cell_regrown h2;have gl:=hrow.lt.2;clear hrow hbl bd hV;go_wp2
   refine wp_region_last (C:=fun w'=>∃p:Regrown,w'=grow (redrawn wr p.d) p.os) 21 _ rfl rfl rfl (by kernel_rfl) (by kernel_rfl) (by kernel_rfl) (by kernel_rfl) (by kernel_rfl) ⟨⟨wr.drawn+1,#[]⟩,by rw[grow_empty];rfl⟩ ?_;simp only[List.take_succ_cons,List.take_zero]
   repeat (refine boxed_step (fun K hK=>?_);go_simp;first|(refine hK _ ?_;clear hK K)|(apply Exists.intro;refine⟨fun _=>?_,hK _ ?_⟩;(fail);clear hK K))
   refine boxed_nil ?_;intro _ hw';obtain⟨⟨dq,oq⟩,hw''⟩:=hw';subst hw'';have hb_w4:=below_regrown wr dq oq;obtain⟨w4,hq_w4⟩:∃x,x=grow (redrawn wr dq) oq:=⟨_,rfl⟩
   rw[<-hq_w4]at hb_w4 ⊢;clear hq_w4;have R4:=HR.out.below hb_w4;have d0:=R4.cell (i:=T) (by omega);have d1:=R4.free T;have RS:=hd_ (R4.set T (V+m));have B4:=hd_ (HB.out.trans (hb_w4.mono HB.out.size));clear R4 hb_w4 r0 r1 r2 c0 f0 h1 h2 ws;go_wp2;go_roundw
   case rel=>exact⟨k+1,by omega,by go_num,by rw[hs.out];exact RS.out,B4.out.setCell lr_ _⟩
   case measure=>simp[intOf];omega
  ·obtain rfl:k=n:=by omega
   have e1:ps.take k=ps:=List.take_of_length_le (by rw[HL.out];exact Nat.le_refl _);rw[e1]at HR;clear hrow hbl;go_wp2;go_ret;exact⟨rfl,HR.out,HB.out⟩
def sq1 (N:List Int) (D:Int) (j:Nat):List Int:=
 if 0<N.getD (2 * j) 0+N.getD (2 * j+1) 0/\N.getD (2 * j) 0+N.getD (2 * j+1) 0+N.getD j 0<=D then ((N.set j (N.getD j 0+(N.getD (2 * j) 0+N.getD (2 * j+1) 0))).set (2 * j) 0).set (2 * j+1) 0 else N
def sqz (N:List Int) (D:Int):Nat->List Int
 | 0=>N
 |s+1=>sq1 (sqz N D s) D (63 - s)
theorem sq1_len (N:List Int) (D:Int) (j:Nat):(sq1 N D j).length=N.length:=by unfold sq1;split<;>simp
def BdN (N:List Int) (M:Int):Prop:=∀i,0<=N.getD i 0/\N.getD i 0<=M
theorem BdN.set {N:List Int} {M:Int} (h:BdN N M) (i:Nat) {x:Int} (h0:0<=x) (h1:x<=M):BdN (N.set i x) M:=fun j=>by
 have:=h j
 by_cases e:i=j
 ·subst e
  by_cases hl:i<N.length
  ·rw[List.getD_eq_getElem?_getD,List.getElem?_set_self hl];exact⟨h0,h1⟩
  ·rw[List.set_eq_of_length_le (by omega)];exact this
 ·have e1:(N.set i x).getD j 0=N.getD j 0:=by simp[e]
  rw[e1];exact this
theorem sq1_bd {N:List Int} {M D:Int} (h:BdN N M) (hD:D<=M) (hM:0<=M) (j:Nat):BdN (sq1 N D j) M:=by
 unfold sq1
 split
 ·rename_i hc
  have a:=h j;have b:=h (2 * j);have c:=h (2 * j+1);exact ((h.set j (by omega) (by omega)).set _ (Int.le_refl _) hM).set _ (Int.le_refl _) hM
 ·exact h
theorem sqz_bd {N:List Int} {M D:Int} (h:BdN N M) (hD:D<=M) (hM:0<=M) (s:Nat):BdN (sqz N D s) M:=by
 induction s with
 |zero=>exact h
 |succ s ih=>exact sq1_bd ih hD hM _
theorem l4Squeeze_at (w:World) (B g c:Nat) (N:List Int) (all M:Int) (h:RowI w B g 128 c N) (hb:BdN N M) (a0:0<=all) (hD:all / 8<=M) (hM:M<=10000000):
  Calls Tryz.prog 230 #[.slice (some ⟨g,0,none⟩) 128 c,.int .i64 all] w fun e w'=>e=.returned (.slice (some ⟨g,0,none⟩) 128 c)/\RowI w' B g 128 c (sqz N (all / 8) 63)/\w.grownBy w' (some g):=by
 have ht:all.tdiv 8=all / 8:=Int.tdiv_eq_ediv_of_nonneg a0;obtain⟨D,hDD⟩:∃D,D=all / 8:=⟨_,rfl⟩
 rw[<-hDD]at ht hD ⊢;have d0:0<=D:=by omega
 have HR0:=hd_ h;have HB0:=hd_ hb;clear h hb hDD;go_enter Tryz.func230,Tryz.ntmps230;go_wp2;go_loopw [5] (fun i wr=>∃(j I:Nat),j<=63/\I=2 * j/\i=.int .i64 I/\RowI wr B g 128 c (sqz N D (63 - j))/\w.grownBy wr (some g)) (fun i _=>(intOf i).toNat)
 case atStart=>exact⟨63,126,Nat.le_refl _,rfl,by first|rfl|go_num,HR0.out,grownBy_refl _ _⟩
 case round=>
  obtain⟨j,I,hj,hI,rfl,hrow,hgr⟩:=hrel;have HG:=hd_ hgr;clear hgr
  by_cases h1:1<=j
  ·have bd:=sqz_bd HB0.out hD (by omega) (63 - j)
   have hs:=hd_ (show sqz N D (63 - (j - 1))=sq1 (sqz N D (63 - j)) D j by rw[show 63 - (j - 1)=(63 - j)+1 by omega,sqz,show 63 - (63 - j)=j by omega]);generalize sqz N D (63 - j)=Z at *;obtain⟨I1,hI1⟩:∃I1:Nat,(I:Int)+1=(I1:Int):=⟨I+1,by omega⟩
   have hI2:I1=2 * j+1:=by omega
   have cI:=hrow.cell (i:=I) (by omega);have cI1:=hrow.cell (i:=I1) (by omega);have cJ:=hrow.cell (i:=j) (by omega);have fI:=hrow.free I;have fI1:=hrow.free I1;have fJ:=hrow.free j;have bI:=bd I;have bI1:=bd I1;have bJ:=bd j
   have HSQ:Hid (∀V0 V1 VJ:Int,V0=Z.getD I 0->V1=Z.getD I1 0->VJ=Z.getD j 0->sq1 Z D j=if 0<V0+V1/\V0+V1+VJ<=D then ((Z.set j (VJ+(V0+V1))).set I 0).set I1 0 else Z):=fun V0 V1 VJ e0 e1 e2=>by
    subst e0 e1 e2 hI2 hI;rfl
   obtain⟨V0,hV0⟩:∃V,V=Z.getD I 0:=⟨_,rfl⟩
   obtain⟨V1,hV1⟩:∃V,V=Z.getD I1 0:=⟨_,rfl⟩
   obtain⟨VJ,hVJ⟩:∃V,V=Z.getD j 0:=⟨_,rfl⟩
   have SQ:=hd_ (HSQ.out V0 V1 VJ hV0 hV1 hVJ);rw[<-hV0]at cI bI;rw[<-hV1]at cI1 bI1;rw[<-hVJ]at cJ bJ;have HR:=hd_ hrow;have q2:(I:Int).tdiv 2=(j:Int):=by rw[Int.tdiv_eq_ediv_of_nonneg (by omega)];omega
   have i0:(0:Int)<=(I:Int):=by omega
   have i1:(I:Int)<128:=by omega
   have i2:(2:Int)<=(I:Int):=by omega
   have i3:(I1:Int)<128:=by omega
   have j0:(j:Int)<128:=by omega
   have w1:IntKind.i64.wrap (V0+V1)=V0+V1:=IntWalk.i64_in _ (by omega);have w2:IntKind.i64.wrap (V0+V1+VJ)=V0+V1+VJ:=IntWalk.i64_in _ (by omega);have w3:IntKind.i64.wrap (VJ+(V0+V1))=VJ+(V0+V1):=IntWalk.i64_in _ (by omega);have HI:=hd_ hI;have HI2:=hd_ hI2;clear hV0 hV1 hVJ HSQ bd hrow hI hI2
   by_cases c1:0<V0+V1
   ·by_cases c2:V0+V1+VJ<=D
    ·have e:=hd_ (SQ.out.trans (if_pos ⟨c1,c2⟩))
     have ne1:I≠j:=by have:=HI.out;omega
     have ne2:I1≠j:=by have:=HI2.out;omega
     have ne3:I1≠I:=by have:=HI2.out;have:=HI.out;omega
     have RA:=fun q=>(HR.out.drewN q).set j (VJ+(V0+V1))
     have RB:=fun q=>(RA q).set I 0
     have RC:=hd_ (fun q=>(RB q).set I1 0);have GC:=hd_ (fun q=>grownBy_trans (grownBy_drewN HG.out q) (grownBy_trans ((HR.out.drewN q).grown j (VJ+(V0+V1))) (grownBy_trans ((RA q).grown I 0) ((RB q).grown I1 0))));clear RA RB;go_wp2
     go_quiet (fail)
     go_wp2;go_roundw
     case rel=>exact⟨j - 1,I - 2,by omega,by have:=HI.out;omega,by congr 1;omega,by rw[hs.out,e.out];exact RC.out _,GC.out _⟩
     case measure=>simp[intOf];omega
    ·have e:=hd_ (SQ.out.trans (if_neg (fun h=>c2 h.2)))
     go_wp2
     go_quiet (fail)
     go_wp2;go_roundw
     case rel=>exact⟨j - 1,I - 2,by omega,by have:=HI.out;omega,by congr 1;omega,by rw[hs.out,e.out];exact HR.out.drewN _,grownBy_drewN HG.out _⟩
     case measure=>simp[intOf];omega
   ·have e:=hd_ (SQ.out.trans (if_neg (fun h=>c1 h.1)))
    go_wp2
    go_quiet (fail)
    go_wp2;go_roundw
    case rel=>exact⟨j - 1,I - 2,by omega,by have:=HI.out;omega,by congr 1;omega,by rw[hs.out,e.out];exact HR.out.drewN _,grownBy_drewN HG.out _⟩
    case measure=>simp[intOf];omega
  ·obtain rfl:j=0:=by omega
   obtain rfl:I=0:=by omega
   have HR:=hd_ hrow;clear hrow hI h1 hj;go_wp2;go_ret;exact⟨rfl,HR.out,HG.out⟩
theorem cell_two_new (w:World) (x y:Value) (t:TypeId):∀j u,[x,y][j]? =some u->(w.alloc (.cells #[x,y] t)).cell? ((⟨w.heap.size,0,none⟩:Addr).add j)=some u:=by
 intro j u hj
 match j,hj with
 | 0,hj=>simp at hj;subst hj;simp[Addr.add]
 | 1,hj=>simp at hj;subst hj;simp[Addr.add]
theorem own_snocP {w:World} {B no:Nat} {v:Value} {os:List Pr} {t m:Int} (h:w.ownsRow B 152 2 v (no+1) (prs os++[.int .i64 t,.int .i64 m])) (hn:no=os.length):OwnP w B v (os++[(t,m)]):=by
 unfold OwnP;rw[prs_snoc,List.length_append, <-hn];exact h
theorem below_appendP {B:Nat} {w wr w':World} {o:Obj} {e:TypeId} {size:Nat} {v:Value} {n:Nat} {xs:List Value} (hb:Below B w wr) (hB:B<=wr.heap.size) (ho:wr.ownsRow B e size v n xs) (hg:(wr.alloc o).grownBy w' v.ownBlock):Below B w w':=
 (hb.alloc hB o).grown hg (Nat.le_trans hB (by simp)) (fun k e=>(ho.lt k e).1)
def listK (N:List Int):Nat->List Pr
 | 0=>[]
 |k+1=>listK N k++if 0<N.getD (k+1) 0 then [(((k+1:Nat):Int),N.getD (k+1) 0)]else []
def listV (N:List Int):List Pr:=listK N 127
theorem listK_len (N:List Int) (k:Nat):(listK N k).length<=k:=by
 induction k with
 |zero=>exact Nat.le_refl _
 |succ k ih=>unfold listK;split<;>simp<;>omega
theorem l4List_at (w:World) (B g c:Nat) (N:List Int) (h:RowI w B g 128 c N):
  Calls Tryz.prog 229 #[.slice (some ⟨g,0,none⟩) 128 c] w fun e w'=>∃v,e=.returned v/\OwnP w' w.heap.size v (listV N)/\Below w.heap.size w w':=by
 obtain⟨i0,hi,hz0,hz1,hz2⟩:=info_parts pair_info;have HR:=hd_ h;have HG:=hd_ h.lt.2;have HE:=hd_ (pair_empty w w.heap.size lr_);clear h;go_enter Tryz.func229,Tryz.ntmps229;go_wp2
 go_loopw [3,4] (fun o i wr=>∃(k no:Nat) (x:Option Addr) (co:Nat),k<=127/\i=.int .i64 ((k+1:Nat):Int)/\o=.slice x no co/\no=(listK N k).length/\OwnP wr w.heap.size (.slice x no co) (listK N k)/\Below w.heap.size w wr) (fun _ i _=>128 - (intOf i).toNat)
 case atStart=>exact⟨0,0,_,_,Nat.zero_le _,by first|rfl|go_num,rfl,rfl,HE.out,(Below.refl _ _).alloc lr_ _⟩
 case round=>
  obtain⟨k,no,x,co,hk,rfl,rfl,hno,hown,hbl⟩:=hrel;have HB:=hd_ hbl;have szr:=hbl.size;have ho:wr.ownsRow w.heap.size 152 2 (.slice x no co) no (prs (listK N k)):=by have h:=hown;unfold OwnP at h;rw[<-hno]at h;exact h
  have HO:=hd_ ho;have HN:=hd_ hno;have ln:=listK_len N k;have nb:no<=127:=by omega
  have hs:=hd_ (show listK N (k+1)=listK N k++if 0<N.getD (k+1) 0 then [(((k+1:Nat):Int),N.getD (k+1) 0)]else []from rfl);have hfin:Hid (k=127->listK N k=listV N):=fun e=>by rw[e];rfl
  generalize listK N k=os at *;obtain⟨K,hK⟩:∃K,K=k+1:=⟨_,rfl⟩
  rw[<-hK]at hs ⊢;have HKK:=hd_ hK;clear hbl ho hno hown ln
  by_cases hlt:k<127
  ·have cN:=(HR.out.below (by have:=HB.out;exact this.mono lr_)).cell (i:=K) (by omega)
   obtain⟨V,hV⟩:∃V,V=N.getD K 0:=⟨_,rfl⟩
   rw[<-hV]at hs cN;have k0:(0:Int)<=(K:Int):=by omega
   have kn:(K:Int)<128:=by omega
   clear hV hK
   by_cases hp:0<V
   ·have e:=hd_ (hs.out.trans (by rw[if_pos hp]))
    go_wp2_with (first|(at_builtin;refine wpList_append_own _ rfl _ _ 42 rfl w.heap.size 152 i0 (.agg #[.int .i64 0,.int .i64 0]) 2 16 Tryz.underlying42 hi hz0 hz1 hz2 rfl (by decide) _ _ _ rfl (HO.out.alloc _) ⟨wr.heap.size,0,none⟩ 1 1 [.int .i64 K,.int .i64 V] rfl rfl (cell_two_new _ _ _ _) (by simp[Value.oneCell']) (by unfold maxLen;omega) (by omega) (by simp;omega) ?_;intro v1 w3 ho1 hg1 _;obtain⟨g_v1,c_v1,rfl,_,_⟩:=World.ownsRow.form ho1 (Nat.succ_pos _)))
    go_roundw
    case rel=>exact⟨K,no+1,_,_,by omega,by go_num,rfl,by rw[HKK.out, <-HKK.out,e.out];simp[HN.out],by rw[e.out];exact own_snocP ho1 HN.out,below_appendP HB.out szr HO.out hg1⟩
    case measure=>simp[intOf];omega
   ·have e:=hd_ (hs.out.trans (by rw[if_neg hp,List.append_nil]))
    have OW:Hid (OwnP wr w.heap.size (.slice x no co) os):=by show OwnP _ _ _ _;unfold OwnP;rw[<-HN.out];exact HO.out
    go_wp2;go_roundw
    case rel=>exact⟨K,no,_,_,by omega,by go_num,rfl,by rw[e.out];exact HN.out,by rw[e.out];exact OW.out,HB.out⟩
    case measure=>simp[intOf];omega
  ·have ef:=hd_ (hfin.out (by omega))
   clear hfin;obtain rfl:k=127:=by omega
   obtain rfl:K=128:=by omega
   have OW:Hid (OwnP wr w.heap.size (.slice x no co) os):=by show OwnP _ _ _ _;unfold OwnP;rw[<-HN.out];exact HO.out
   clear hK hlt hk;go_wp2;go_ret;exact⟨_,rfl,ef.out ▸ OW.out,HB.out⟩
def leastP:List Pr->Int->Int
 | [],_=>0
 |p::ps,t=>(if highT p.1<=t then p.2 else 0)+leastP ps t
def mostP:List Pr->Int->Int
 | [],_=>0
 |p::ps,t=>(if lowT p.1<=t then p.2 else 0)+mostP ps t
end Go.Proofs.YtcblbdpdbggkbaaGreat.K
