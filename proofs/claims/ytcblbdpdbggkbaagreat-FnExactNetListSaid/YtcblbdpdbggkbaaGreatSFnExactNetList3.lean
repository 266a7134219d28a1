/-
  What the law FnExactNetList needs of the texts before it, part 3.
-/
import Derived.ArgAppend
import Derived.Below
import Derived.BigQuiet
import Derived.Carry
import Derived.ChangeAt
import Derived.ChangeOld
import Derived.ChangeSame
import Derived.Deep.Cut
import Derived.Deep.DeepCutAuto
import Derived.Deep.Fields
import Derived.Deep.Matrix
import Derived.Deep.MidRow
import Derived.Deep.OwnRows
import Derived.Deep.RegionHeld3
import Derived.Deep.RegionLaw
import Derived.Deep.RegionWith
import Derived.Deep.Slices
import Derived.Deep.WholeRow
import Derived.DeepKeys5
import Derived.KernelRfl
import Derived.Laws.AppendOwnNone
import Derived.Laws.ResultCell
import Derived.Lib.AppendZerosOnto
import Derived.Lib.SliceRun
import Derived.Lib.SmallJoins
import Derived.Lib.Walk
import Derived.Maps.AppendAt
import Derived.Maps.Keyed
import Derived.OpenShut
import Derived.OrdersHeld
import Derived.RangeFuncBox
import Derived.RegionTactic
import Derived.WalkKit
import Derived.Test.YtcblbdpdbggkbaaGreatSFnExactNetList2
set_option maxRecDepth 100000
set_option maxHeartbeats 16000000
set_option linter.unusedVariables false
set_option linter.unusedSectionVars false
set_option linter.unusedSimpArgs false
set_option linter.unusedVariables false
namespace Go.Proofs.YtcblbdpdbggkbaaGreat.K
open Go.RowKit Go.Sort
theorem isCount_yes (a:Int) (w:World) (h0:0<=a) (h1:a<=2000):
  Calls Tryz.prog 180 #[.int .i64 a] w fun e w'=>e=.returned (.bool true)/\w=w':=by
 go_enter Tryz.func180,Tryz.ntmps180;go_wp2;go_ret;exact⟨rfl,rfl⟩
theorem isCount_no (a:Int) (w:World) (h:a<0\/2000<a):
  Calls Tryz.prog 180 #[.int .i64 a] w fun e w'=>e=.returned (.bool false)/\w=w':=by
 rcases h with h|h
 ·have h':¬ 0<=a:=by omega
  go_enter Tryz.func180,Tryz.ntmps180;go_wp2;go_ret;exact⟨rfl,rfl⟩
 ·have h':¬a<=2000:=by omega
  have h'':0<=a:=by omega
  go_enter Tryz.func180,Tryz.ntmps180;go_wp2;go_ret;exact⟨rfl,rfl⟩
def mostK (a all:Int):Int:=if a<64 then all / 8 else all
theorem knotMost_at (a all:Int) (w:World) (h0:0<=all) (h1:all<=2000):
  Calls Tryz.prog 181 #[.int .i64 a,.int .i64 all] w fun e w'=>e=.returned (.int .i64 (mostK a all))/\w=w':=by
 have hD:all.tdiv 8=all / 8:=Int.tdiv_eq_ediv_of_nonneg h0;have hw:IntKind.i64.wrap (all / 8)=all / 8:=IntWalk.i64_in _ (by omega);unfold mostK
 by_cases h:a<64
 ·rw[if_pos h]
  go_enter Tryz.func181,Tryz.ntmps181;go_wp2;go_ret;exact⟨rfl,rfl⟩
 ·rw[if_neg h]
  clear hD hw;go_enter Tryz.func181,Tryz.ntmps181;go_wp2;go_ret;exact⟨rfl,rfl⟩
def lastV (ps:List Pr) (k:Nat):Int:=if k=0 then 0 else (pr ps (k - 1)).1
theorem RankP.le_all {ps:List Pr} {all:Int} (h:RankP ps all) (k:Nat) (hk:k<ps.length):(pr ps k).2<=all:=by
 have g:∀(m:Nat),m<=ps.length->k<m->(pr ps k).2<=sumP (ps.take m)/\0<=sumP (ps.take m):=by
  intro m
  induction m with
  |zero=>intro _ h;omega
  |succ m ih=>
   intro hm hkm;have b:=sumK_bd (k:=m) (by omega) (fun i hi=>h.2.1 i (by omega));have g:=(h.2.1 m (by omega)).1.2;rw[sumP_succ ps m (by omega)]
   by_cases e:k=m
   ·subst e;omega
   ·have:=ih (by omega) (by omega);omega
 have:=(g ps.length lr_ hk).1;rw[List.take_of_length_le lr_,h.2.2]at this;exact this
theorem imRankOk_in (w:World) (x:Option Addr) (n c:Nat) (ps:List Pr) (all:Int) (hl:ps.length=n) (hp:Prs w (.slice x n c) ps) (hn:n<=maxLen):
  Calls Tryz.prog 110 #[.agg #[.slice x n c,.int .i64 all]] w fun e w'=>e=.returned (.bool (rankB ps all))/\Below w.heap.size w w':=by
 unfold maxLen at hn;have HPR:=hd_ hp;have HP:=hd_ hp.cells;have HL:=hd_ hl;obtain⟨W,hW⟩:∃W,W=w.alloc (.cells #[.slice x n c,.int .i64 all] 44):=⟨_,rfl⟩
 have hA:Below w.heap.size w W:=by rw[hW];exact (Below.refl w.heap.size w).alloc lr_ _
 have sW:W.heap.size=w.heap.size+1:=by rw[hW];simp
 have X:Box2 W w.heap.size 44 (.slice x n c) (.int .i64 all):=by rw[hW];exact Box2.new _ _ _ _
 have HA:=hd_ hA;have HS:=hd_ sW;have HX:=hd_ X;have x0:=X.cell0;have x1:=X.cell1;clear hl hp hA sW X
 by_cases ha:all<0\/2000<all
 ·have bd:Hid (rankB ps all=false):=rankB_no (fun q=>by have:=q.1;omega)
  go_enter Tryz.func110,Tryz.ntmps110
  go_wp2_with fail
  rw[<-hW];clear hW
  go_wp2_with fail
  refine (isCount_no _ _ ha).mono ?_;rintro e w' ⟨rfl,rfl⟩;go_wp2;go_ret;exact⟨ret_bool bd.out.symm,HA.out⟩
 have ha0:0<=all:=by omega
 have ha1:all<=2000:=by omega
 go_enter Tryz.func110,Tryz.ntmps110
 go_wp2_with fail
 rw[<-hW];clear hW
 go_wp2_with fail
 refine (isCount_yes _ _ ha0 ha1).mono ?_;rintro e w' ⟨rfl,rfl⟩;go_wp2;go_loopw [3,4,14] (fun q l i wr=>∃k:Nat,k<=n/\i=.int .i64 k/\q=.int .i64 (sumP (ps.take k))/\l=.int .i64 (lastV ps k)/\(∀i,i<k->KnG ps all i)/\Below (w.heap.size+1) W wr) (fun _ _ i _=>n - (intOf i).toNat)
 case atStart=>exact⟨0,Nat.zero_le _,rfl,rfl,rfl,fun _ h=>absurd h (Nat.not_lt_zero _),Below.refl _ _⟩
 case round=>
  obtain⟨k,hk,rfl,rfl,rfl,hg,hbl⟩:=hrel;have G:=hd_ hg;have HB:=hd_ hbl;have kf:=knG_few hg;have hsb:=sumK_bd (by rw[HL.out];exact hk) hg;have hX1:=HX.out.below HB.out (Nat.lt_succ_self _);have cw0:=hX1.cell0;have cw1:=hX1.cell1;have FIN:=hd_ (HA.out.trans (HB.out.mono (Nat.le_succ _)));have sw:w.heap.size+1<=wr.heap.size:=by have:=HB.out.size;have:=HS.out;omega
  by_cases hlt:k<n
  ·obtain⟨b,o,rfl,hb,h1,h2⟩:=HP.out k (by rw[HL.out];exact hlt)
   have tr:∀j v,w.cell? ⟨b,j,none⟩=some v->wr.cell? ⟨b,j,none⟩=some v:=fun j v h=>by
    rw[HB.out.cell (p:=⟨b,j,none⟩) (by show b<_;omega),HA.out.cell (p:=⟨b,j,none⟩) hb];exact h
   replace h1:=tr _ _ h1;replace h2:=tr _ _ h2;have HQ:Hid (KnG ps all k↔(((1<=(pr ps k).1/\(pr ps k).1<=127)/\1<=(pr ps k).2/\(pr ps k).2<=2000)/\(0<k->(pr ps (k - 1)).1<(pr ps k).1)/\((pr ps k).1<64->(pr ps k).2<=all / 8))):=Iff.rfl;have bad:Hid (¬KnG ps all k->rankB ps all=false):=fun h=>rankB_no (fun q=>h (q.2.1 k (by rw[HL.out];exact hlt)))
   have badM:Hid (all<(pr ps k).2->rankB ps all=false):=fun h=>rankB_no (fun q=>by have:=q.le_all k (by rw[HL.out];exact hlt);omega)
   have hs:=hd_ (sumP_succ ps k (by rw[HL.out];exact hlt));have hlv:Hid (lastV ps (k+1)=(pr ps k).1):=by show lastV ps (k+1)=_;simp[lastV]
   -- the knot ahead
   have hL0:Hid (k=0->lastV ps k=0):=fun h=>by simp[lastV,h]
   have hL1:Hid (0<k->lastV ps k=(pr ps (k - 1)).1):=fun h=>by simp[lastV,show k≠0 by omega]
   have hLG:Hid (0<=lastV ps k/\lastV ps k<=127):=by
    show _/\_
    by_cases h:k=0
    ·rw[hL0.out h];omega
    ·rw[hL1.out (by omega)];have:=(G.out (k - 1) (by omega)).1.1;omega
   generalize pr ps k=q at h1 h2 HQ hs badM hlv;generalize pr ps (k - 1)=q' at HQ hL1;obtain⟨t,m⟩:=q;generalize lastV ps k=L at *;have k0:(0:Int)<=(k:Int):=by omega
   have kn:(k:Int)<(n:Int):=by omega
   -- the world with this round's box
   obtain⟨wk,hwk⟩:∃wk,wk=wr.alloc (.cells #[.int .i64 t,.int .i64 m] 152):=⟨_,rfl⟩
   have hK:Below wr.heap.size wr wk:=by rw[hwk];exact (Below.refl _ _).alloc lr_ _
   have bK:Box2 wk wr.heap.size 152 (.int .i64 t) (.int .i64 m):=by rw[hwk];exact Box2.new _ _ _ _
   have y0:=bK.cell0;have y1:=bK.cell1;have yX:=hX1.later hK;have xk1:=yX.cell1;have HB2:=hd_ (HB.out.trans (hK.mono sw));have FIN2:=hd_ (FIN.out.trans (hK.mono FIN.out.size));generalize hSS:sumP (ps.take k)=S at *;obtain⟨M,hM⟩:∃M,M=mostK t all:=⟨_,rfl⟩
   have HM:=hd_ hM;have KM:Hid (∀W,Calls Tryz.prog 181 #[.int .i64 t,.int .i64 all] W fun e w'=>e=.returned (.int .i64 M)/\W=w'):=fun W=>by rw[hM];exact knotMost_at t all W ha0 ha1
   clear hg hbl tr hX1 bK yX hSS hK hM
   by_cases hlo:t<=L
   ·have eL:decide (t<=L)=true:=decide_eq_true hlo
    have bd:=hd_ (bad.out (fun q=>by
          have g:=HQ.out.1 q
          by_cases h:k=0
          · have:=hL0.out h;have:=g.1.1.1;(try simp at this);omega
          · have:=hL1.out (by omega);have:=g.2.1 (by omega);(try simp at this);omega))
    clear HQ bad badM hs hlv hL0 hL1 hLG HM KM
    go_wp2_with fail
    rw[<-hwk];clear hwk
    go_quiet (fail)
    go_wp2;go_ret;exact⟨ret_bool bd.out.symm,below_drewN FIN2.out _⟩
   have eL:decide (t<=L)=false:=decide_eq_false hlo
   by_cases hhi:128<=t
   ·have eH:decide (128<=t)=true:=decide_eq_true hhi
    have bd:=hd_ (bad.out (fun q=>by have:=(HQ.out.1 q).1.1.2;(try simp at this);omega));clear HQ bad badM hs hlv hL0 hL1 hLG HM KM
    go_wp2_with fail
    rw[<-hwk];clear hwk
    go_quiet (fail)
    go_wp2;go_ret;exact⟨ret_bool bd.out.symm,below_drewN FIN2.out _⟩
   have eH:decide (128<=t)=false:=decide_eq_false hhi
   by_cases hm:m<1
   ·have eM:decide (m<1)=true:=decide_eq_true hm
    have bd:=hd_ (bad.out (fun q=>by have:=(HQ.out.1 q).1.2.1;(try simp at this);omega));clear HQ bad badM hs hlv hL0 hL1 hLG HM KM
    go_wp2_with fail
    rw[<-hwk];clear hwk
    go_quiet (fail)
    go_wp2;go_ret;exact⟨ret_bool bd.out.symm,below_drewN FIN2.out _⟩
   have eM:decide (m<1)=false:=decide_eq_false hm
   by_cases hmm:M<m
   ·have eMM:decide (M<m)=true:=decide_eq_true hmm
    have bd:Hid (rankB ps all=false):=by
     show _=_
     have e:=HM.out;unfold mostK at e
     by_cases h64:t<64
     ·rw[if_pos h64]at e
      exact bad.out (fun q=>by have:=(HQ.out.1 q).2.2 h64;(try simp at this);omega)
     ·rw[if_neg h64]at e
      exact badM.out (by show all<m;omega)
    clear HQ bad badM hs hlv hL0 hL1 hLG HM
    go_wp2_with fail
    rw[<-hwk];clear hwk
    go_quiet (with_reducible exact quiet_same' (KM.out _))
    go_wp2;go_ret;exact⟨ret_bool bd.out.symm,below_drewN FIN2.out _⟩
   have eMM:decide (M<m)=false:=decide_eq_false hmm;have good:Hid (KnG ps all k):=by
    refine HQ.out.2 ?_;have hLG':=hLG.out;have e:=HM.out;unfold mostK at e;refine⟨⟨⟨?_,?_⟩,?_,?_⟩,fun h=>?_,fun h=>?_⟩
    ·show 1<=t;omega
    ·show t<=127;omega
    ·show 1<=m;omega
    ·show m<=2000
     split at e<;>omega
    ·show q'.1<t
     have:=hL1.out h;omega
    ·have h':t<64:=h
     rw[if_pos h']at e;show m<=all / 8;omega
   have mle:m<=2000:=by have:=HQ.out.1 good.out;exact this.1.2.2
   have LV:=hlv.out;simp only at LV;have HLV:=hd_ LV;clear HQ bad badM hlv hL0 hL1 hLG HM LV
   go_wp2_with fail
   rw[<-hwk];clear hwk
   go_quiet (with_reducible exact quiet_same' (KM.out _))
   go_wp2;go_roundw
   case rel=>exact⟨k+1,by omega,by go_num,by rw[hs.out],by rw[HLV.out],fun i hi=>by
        by_cases h:i<k
        · exact G.out i h
        · obtain rfl:i=k:=by omega
          exact good.out,below_drewN HB2.out _⟩
   case measure=>simp[intOf];omega
  ·obtain rfl:k=n:=by omega
   have e1:ps.take k=ps:=List.take_of_length_le (by rw[HL.out];exact Nat.le_refl _);rw[e1]at hsb ⊢;have HF:Hid (sumP ps=all->rankB ps all=true):=fun h=>(rankB_iff _ _).2 ⟨⟨ha0,ha1⟩,fun i hi=>G.out i (by rw[HL.out]at hi;exact hi),h⟩
   have HN:Hid (¬sumP ps=all->rankB ps all=false):=fun h=>rankB_no (fun q=>h q.2.2)
   generalize sumP ps=S at *;clear hg hbl hX1 e1
   by_cases he:S=all
   ·have fv:=hd_ (HF.out he)
    have e2:(S==all)=true:=by simpa using he
    go_wp2;go_ret;exact⟨ret_bool (by first|(rw[fv.out];done)|(rw[fv.out];simp[he])),FIN.out⟩
   ·have fv:=hd_ (HN.out he)
    have e2:(S==all)=false:=by simpa using he
    go_wp2;go_ret;exact⟨ret_bool (by first|(rw[fv.out];done)|(rw[fv.out];simp[he])),FIN.out⟩
theorem imRankOk_at (w:World) (u:Value) (ps:List Pr) (all:Int) (hp:Prs w u ps):
  Calls Tryz.prog 110 #[.agg #[u,.int .i64 all]] w fun e w'=>e=.returned (.bool (rankB ps all))/\Below w.heap.size w w':=by
 obtain⟨x,c,rfl,hc0,hc⟩:=hp.form;exact imRankOk_in w x _ c ps all rfl hp (by omega)
end Go.Proofs.YtcblbdpdbggkbaaGreat.K
set_option linter.unusedVariables false
namespace Go.Proofs.YtcblbdpdbggkbaaGreat.K
open Go.RowKit Go.Sort
def arrC (N:List Int):Array Value:=(ints N).toArray
theorem arrC_size (N:List Int):(arrC N).size=N.length:=by simp[arrC,ints]
theorem arr_info:(Tryz.prog.info? 281).map (fun i=>(i.zero,i.size))=some (some (.agg (arrC (List.replicate 128 0))),128):=by kernel_rfl
theorem arr_size:(Tryz.prog.info? 281).map (·.size)=some 128:=(zero_of_info arr_info).2
theorem arr_zero (w:World):(zeroValue 281).run Tryz.prog w=.ok (.agg (arrC (List.replicate 128 0))) w:=(zero_of_info arr_info).1 w
def ArrI (W:World) (b:Nat) (N:List Int):Prop:=N.length=128/\W.heap[b]? =some (.cells (arrC N) 281 (0,0))
section
variable {W W':World} {b:Nat} {N:List Int}
theorem ArrI.lt (h:ArrI W b N):b<W.heap.size:=(Array.getElem?_eq_some_iff.1 h.2).1
theorem ArrI.new (W:World) (N:List Int) (hl:N.length=128):ArrI (W.alloc (.cells (arrC N) 281)) W.heap.size N:=⟨hl,heap_alloc_new W _⟩
theorem ArrI.below (h:ArrI W b N) {B:Nat} (hb:Below B W W') (hB:b<B):ArrI W' b N:=⟨h.1,(hb.block b hB).trans h.2⟩
theorem ArrI.later (h:ArrI W b N) (hb:Below W.heap.size W W'):ArrI W' b N:=h.below hb h.lt
theorem ArrI.drewN (h:ArrI W b N) (n:Nat):ArrI (W.drewN n) b N:=h
theorem ArrI.alloc (h:ArrI W b N) (o:Obj):ArrI (W.alloc o) b N:=h.later ((Below.refl _ _).alloc lr_ o)
theorem ArrI.kept {row:Option Nat} (h:ArrI W b N) (hg:W.grownBy W' row) (hr:row≠some b):ArrI W' b N:=⟨h.1,(hg.block b h.lt (fun e=>hr e.symm)).trans h.2⟩
theorem ArrI.cell (h:ArrI W b N) {i:Nat} (hi:i<128):W.cell? ⟨b,i,none⟩=some (.int .i64 (N.getD i 0)):=by
 rw[cell_of_row W b i _ _ _ h.2];unfold arrC;rw[List.getElem?_toArray];exact ints_get N i (by rw[h.1];exact hi)
theorem ArrI.free (h:ArrI W b N) (i:Nat):W.frozen? ⟨b,i,none⟩=false:=by simp[World.frozen?,h.2]
theorem ArrI.set (h:ArrI W b N) (i:Nat) (x:Int):ArrI (W.setCell ⟨b,i,none⟩ (.int .i64 x)) b (N.set i x):=by
 refine⟨by simpa using h.1,?_⟩;rw[heap_setCell_same W b i _ _ _ h.2];unfold arrC;simp[ints,List.map_set]
theorem ArrI.grown (W:World) (b i:Nat) (x:Value):W.grownBy (W.setCell ⟨b,i,none⟩ x) (some b):=grownBy_setCell W ⟨b,i,none⟩ x
theorem ArrI.loadVar (h:ArrI W b N):(loadVar 281 ⟨b,0,none⟩).run Tryz.prog W=.ok (.agg (arrC N)) W:=
 run_loadVar_row W b _ _ _ _ _ h.2 Tryz.underlying281 rfl (by rw[arrC_size,h.1];exact arr_size)
theorem ArrI.load (h:ArrI W b N):(Instr.loadAt 281 (.pointer (some ⟨b,0,none⟩))).run Tryz.prog W=.ok (.agg (arrC N)) W:=by
 simp only[Instr.loadAt,Instr.sureAddr,Sem.run_bind,Sem.run_pure,Result.andThen];exact run_loadVar_row W b _ _ _ _ _ h.2 Tryz.underlying281 rfl (by rw[arrC_size,h.1];exact arr_size)
end
theorem arrC_one (N:List Int):(arrC N).all (·.oneCell')=true:=by
 unfold arrC;exact all_oneCell_toArray (fun v hv=>by
    unfold ints at hv
    obtain⟨z,_,rfl⟩:=List.mem_map.1 hv
    rfl)
section
variable {ops:Array Oper} {rest:List Oper} {o:Oper} {a:Act} {w:World} {Q:Exit->Act->World->Prop}
theorem wpList_box_arr (hgd:o.guard=none) (x:Operand) (ho:o.op=.box 281 x) (N:List Int) (hx:a.eval x=.agg (arrC N))
  (h:wpList Tryz.prog ops Q rest (a.put o.dst (.pointer (some ⟨w.heap.size,0,none⟩))) (w.alloc (.cells (arrC N) 281))):wpList Tryz.prog ops Q (o::rest) a w:=by
 refine wpList_plain hgd fun K hK=>?_
 unfold Oper.wp execOp;simp only[ho,hx,Instr.box,newVar,Value.cells,Sem.run_bind,Sem.run_pure];exact hK _ _ h
theorem wpList_alloc_arr (hgd:o.guard=none) (ho:o.op=.alloc 281)
  (h:wpList Tryz.prog ops Q rest (a.put o.dst (.pointer (some ⟨w.heap.size,0,none⟩))) (w.alloc (.cells (arrC (List.replicate 128 0)) 281))):wpList Tryz.prog ops Q (o::rest) a w:=by
 refine wpList_plain hgd fun K hK=>?_
 unfold Oper.wp execOp;simp only[ho,Instr.alloc,newVar,Value.cells,Sem.run_bind,Sem.run_pure,Result.andThen_ok,arr_zero];exact hK _ _ h
theorem wpList_load_arr (hgd:o.guard=none) (x:Operand) (ho:o.op=.load 281 x) (b:Nat) (N:List Int) (hx:a.eval x=.pointer (some ⟨b,0,none⟩)) (hA:ArrI w b N)
  (h:wpList Tryz.prog ops Q rest (a.put o.dst (.agg (arrC N))) w):wpList Tryz.prog ops Q (o::rest) a w:=by
 refine wpList_plain hgd fun K hK=>?_
 have hl:=hA.load;unfold Oper.wp execOp;simp only[ho,hx,Sem.run_bind,Sem.run_pure,hl,Result.andThen_ok];exact hK _ _ h
theorem wpList_index_arr (hgd:o.guard=none) (x y:Operand) (ho:o.op=.index 281 x y) (N:List Int) (k:Nat) (hx:a.eval x=.agg (arrC N)) (hy:a.eval y=.int .i64 (k:Int)) (hl:N.length=128) (hk:k<128)
  (h:wpList Tryz.prog ops Q rest (a.put o.dst (.int .i64 (N.getD k 0))) w):wpList Tryz.prog ops Q (o::rest) a w:=by
 refine wpList_plain hgd fun K hK=>?_
 have hg:(arrC N)[k]? =some (.int .i64 (N.getD k 0)):=by unfold arrC;rw[List.getElem?_toArray];exact ints_get N k (by omega)
 have hr:(Instr.index 281 (.agg (arrC N)) (.int .i64 (k:Int))).run Tryz.prog w=.ok (.int .i64 (N.getD k 0)) w:=by
  have h1:(0:Int)<=(k:Int)/\(k:Int)<(128:Nat):=by omega
  unfold Instr.index;simp only[asIntOf,Sem.run_bind,Sem.run_pure,Result.andThen_ok,run_underlying Tryz.underlying281,if_pos h1];have hz:(sizeOf 3).run Tryz.prog w=.ok 1 w:=by
   cases hq:Tryz.prog.info? 3 with
   |none=>have:=int_info;simp[hq]at this
   |some i=>have:=int_info;simp[hq]at this;simp[sizeOf,typeInfo,hq,this]
  simp[part,hz,hg]
 unfold Oper.wp execOp;simp only[ho,hx,hy,Sem.run_bind,Sem.run_pure,hr,Result.andThen_ok];exact hK _ _ h
theorem wpList_store_arr (hgd:o.guard=none) (x y:Operand) (ho:o.op=.store 281 x y) (b:Nat) (M N:List Int) (hx:a.eval x=.pointer (some ⟨b,0,none⟩)) (hy:a.eval y=.agg (arrC N)) (hA:ArrI w b M) (hl:N.length=128)
  (h:wpList Tryz.prog ops Q rest (a.put o.dst undef) (w.setRow b (arrC N))):wpList Tryz.prog ops Q (o::rest) a w:=by
 refine wpList_plain hgd fun K hK=>?_
 have hs:=run_storeVar_row (P:=Tryz.prog) w b 281 281 (arrC M) (arrC N) hA.2 (by rw[arrC_size,hl];exact arr_size) (by rw[arrC_size,arrC_size,hA.1,hl]) (arrC_one N);unfold Oper.wp execOp;simp only[ho,hx,hy,Instr.storeAt,Instr.sureAddr,Sem.run_bind,Sem.run_pure,Result.andThen_ok,hs];exact hK _ _ h
end
theorem ArrI.setRow {W:World} {b:Nat} {M N:List Int} (h:ArrI W b M) (hl:N.length=128):ArrI (W.setRow b (arrC N)) b N:=⟨hl,setRow_heap W b _ _ _ _ h.2⟩
theorem grownBy_setRow (W:World) (b:Nat) (c:Array Value):W.grownBy (W.setRow b c) (some b):=⟨rfl,rfl,rfl,by simp,fun k _ hk=>setRow_other W b k c (fun e=>hk (by rw[e]))⟩
theorem knotsOf_at (w:World) (N:List Int) (hl:N.length=128) (h0:N.getD 0 0=0):
  Calls Tryz.prog 253 #[.agg (arrC N)] w fun e w'=>∃v,e=.returned v/\OwnP w' w.heap.size v (listV N)/\Below w.heap.size w w':=by
 obtain⟨i0,hi,hz0,hz1,hz2⟩:=info_parts pair_info;have HA:=hd_ (ArrI.new w N hl);obtain⟨W,hW⟩:∃W,W=w.alloc (.cells (arrC N) 281):=⟨_,rfl⟩
 have hB:Below w.heap.size w W:=by rw[hW];exact (Below.refl _ _).alloc lr_ _
 have HB0:=hd_ hB;rw[<-hW]at HA;clear hB;go_enter Tryz.func253,Tryz.ntmps253;go_upto_region 0 with fail
 go_step
 refine wpList_box_arr rfl _ rfl N rfl ?_;rw[<-hW];clear hW
 go_wp2_with (refine wpList_load_arr rfl _ rfl _ N rfl HA.out ?_)
 go_loopw [3,7] (fun o i wr=>∃(k no:Nat) (x:Option Addr) (co:Nat),k<=128/\i=.int .i64 ((k:Nat):Int)/\o=.slice x no co/\no=(listK N (k - 1)).length/\OwnP wr W.heap.size (.slice x no co) (listK N (k - 1))/\Below W.heap.size W wr) (fun _ i _=>128 - (intOf i).toNat)
 case atStart=>exact⟨0,0,none,0,Nat.zero_le _,rfl,rfl,rfl,OwnP.nil _ _,Below.refl _ _⟩
 case round=>
  obtain⟨k,no,x,co,hk,rfl,rfl,hno,hown,hbl⟩:=hrel
  by_cases hlt:k<128
  ·have k0:(0:Int)<=(k:Int):=by omega
   have kn:(k:Int)<128:=by omega
   have ho:wr.ownsRow W.heap.size 152 2 (.slice x no co) no (prs (listK N (k - 1))):=by have h:=hown;unfold OwnP at h;rw[<-hno]at h;exact h
   have HO:=hd_ ho;have HN:=hd_ hno;have HB:=hd_ hbl;have HL:=hd_ hl;have szr:=hbl.size;have nb:no<=127:=by have:=listK_len N (k - 1);omega
   have hs:Hid (listK N (k+1 - 1)=listK N (k - 1)++if 0<N.getD k 0 then [((k:Int),N.getD k 0)]else []):=by
    show _=_
    by_cases hk0:k=0
    ·subst hk0;rw[h0];simp[listK]
    ·obtain⟨j,rfl⟩:∃j,k=j+1:=⟨k - 1,by omega⟩
     rfl
   have step:∀V,V=N.getD k 0->Hid (V=N.getD k 0):=fun V h=>h
   clear h0 hown hno hbl hl ho;go_upto_region 4 with fail
   go_step
   go_step
   go_step
   go_step
   refine wpList_index_arr rfl _ _ rfl N k rfl rfl HL.out hlt ?_;generalize listK N (k - 1)=os at *;generalize N.getD k 0=V at *
   by_cases hp:0<V
   ·have e:=hd_ (hs.out.trans (by rw[if_pos hp]))
    go_wp2_with (first|(at_builtin;refine wpList_append_own _ rfl _ _ 42 rfl W.heap.size 152 i0 (.agg #[.int .i64 0,.int .i64 0]) 2 16 Tryz.underlying42 hi hz0 hz1 hz2 rfl (by decide) _ _ _ rfl (HO.out.alloc _) ⟨wr.heap.size,0,none⟩ 1 1 [.int .i64 k,.int .i64 V] rfl rfl (cell_two_new _ _ _ _) (by simp[Value.oneCell']) (by unfold maxLen;omega) (by omega) (by simp;omega) ?_;intro v1 w3 ho1 hg1 _;obtain⟨g_v1,c_v1,rfl,_,_⟩:=World.ownsRow.form ho1 (Nat.succ_pos _)))
    go_roundw
    case rel=>exact⟨k+1,no+1,_,_,by omega,by go_num,rfl,by rw[e.out];simp[HN.out],by rw[e.out];exact own_snocP ho1 HN.out,below_appendP HB.out szr HO.out hg1⟩
    case measure=>simp[intOf];omega
   ·have e:=hd_ (hs.out.trans (by rw[if_neg hp,List.append_nil]))
    have OW:Hid (OwnP wr W.heap.size (.slice x no co) os):=by show OwnP _ _ _ _;unfold OwnP;rw[<-HN.out];exact HO.out
    go_wp2;go_roundw
    case rel=>exact⟨k+1,no,_,_,by omega,by go_num,rfl,by rw[e.out];exact HN.out,by rw[e.out];exact OW.out,HB.out⟩
    case measure=>simp[intOf];omega
  ·obtain rfl:k=128:=by omega
   have HO:=hd_ hown;have HB:=hd_ (HB0.out.trans (hbl.mono HB0.out.size));have HS:=hd_ HB0.out.size;clear h0 hno hbl hl HA hlt hk hown;go_wp2;go_ret;exact⟨_,rfl,HO.out.base HS.out,HB.out⟩
def Que (w:World) (B:Nat) (x:Option Addr) (c:Nat) (zs:List Int):Prop:=
 ∃g o,x=some ⟨g,o,none⟩/\B<=g/\g<w.heap.size/\zs.length<=c/\c<=maxLen/\
  (∀i,i<zs.length->w.cell? ⟨g,o+i,none⟩=some (.int .i64 (zs.getD i 0)))/\
  ∀i,i<c->(w.cell? ⟨g,o+i,none⟩).isSome=true/\w.frozen? ⟨g,o+i,none⟩=false
section
variable {w w':World} {B c:Nat} {x:Option Addr} {zs:List Int}
theorem Que.of_own {n:Nat} (h:w.ownsRow B 3 1 (.slice x n c) n (ints zs)) (hn:n=zs.length) (h0:0<n):Que w B x c zs:=by
 rcases h.2 with ⟨_,h00⟩|⟨g,cap,cur,e,hb,hg,hnc,hcm,hcs,ht⟩
 ·omega
 ·obtain⟨rfl,_,rfl⟩:=Value.slice.inj e
  refine⟨g,0,rfl,hb,(Array.getElem?_eq_some_iff.1 hg).1,by omega,hcm,fun i hi=>?_,fun i hi=>⟨?_,by simp[World.frozen?,hg]⟩⟩
  ·rw[Nat.zero_add]
   exact (World.ownsRow.cellAt h i (by omega)).trans (ints_get _ _ hi)
  ·rw[cell_of_row w g (0+i) cur _ _ hg,Array.getElem?_eq_getElem (by omega)]
   rfl
theorem Que.keep (h:Que w B x c zs) (hb:∀g,B<=g->g<w.heap.size->w'.heap[g]? =w.heap[g]?) (hs:w.heap.size<=w'.heap.size):Que w' B x c zs:=by
 obtain⟨g,o,rfl,h1,h2,h3,h4,h5,h6⟩:=h;have e:=hb g h1 h2;refine⟨g,o,rfl,h1,Nat.lt_of_lt_of_le h2 hs,h3,h4,fun i hi=>?_,fun i hi=>?_⟩
 ·rw[World.cell?_of_block (a:=⟨g,o+i,none⟩) e];exact h5 i hi
 ·rw[World.cell?_of_block (a:=⟨g,o+i,none⟩) e,World.frozen?_of_block (a:=⟨g,o+i,none⟩) e];exact h6 i hi
theorem Que.alloc (h:Que w B x c zs) (o:Obj):Que (w.alloc o) B x c zs:=h.keep (fun g _ hg=>heap_alloc_old w o hg) (by simp)
theorem Que.drewN (h:Que w B x c zs) (n:Nat):Que (w.drewN n) B x c zs:=h
theorem Que.set (h:Que w B x c zs) (b i:Nat) (v:Value) (hb:b<B):Que (w.setCell ⟨b,i,none⟩ v) B x c zs:=h.keep (fun g hg _=>heap_setCell_other w ⟨b,i,none⟩ g v (by show g≠b;omega)) (by simp)
theorem Que.at (h:Que w B x c zs):∃g o,x=some ⟨g,o,none⟩/\B<=g/\g<w.heap.size/\zs.length<=c/\c<=maxLen/\∀i,i<zs.length->w.cell? ⟨g,o+i,none⟩=some (.int .i64 (zs.getD i 0)):=by
 obtain⟨g,o,rfl,h1,h2,h3,h4,h5,h6⟩:=h;exact⟨g,o,rfl,h1,h2,h3,h4,h5⟩
theorem Que.drop2 {g o:Nat} {a b:Int} (h:Que w B (some ⟨g,o,none⟩) c (a::b::zs)):Que w B (some (if c=2 then⟨g,o,none⟩else⟨g,o+2,none⟩)) (c - 2) zs:=by
 obtain⟨g',o',e,h1,h2,h3,h4,h5,h6⟩:=h;cases e;simp only[List.length_cons]at h3 h5
 by_cases hc:c=2
 ·rw[if_pos hc]
  have hz:zs.length=0:=by omega
  exact⟨g,o,rfl,h1,h2,by omega,by omega,fun i hi=>by omega,fun i hi=>by omega⟩
 ·rw[if_neg hc]
  refine⟨g,o+2,rfl,h1,h2,by omega,by omega,fun i hi=>?_,fun i hi=>?_⟩
  ·have:=h5 (i+2) (by omega)
   rw[show o+2+i=o+(i+2) by omega];first|(simp;done)|simpa using this
  ·rw[show o+2+i=o+(i+2) by omega]
   exact h6 (i+2) (by omega)
end
section
variable {ops:Array Oper} {rest:List Oper} {o:Oper} {a:Act} {w:World} {Q:Exit->Act->World->Prop}
theorem wpList_append_que (hgd:o.guard=none) (s x:Operand) (ho:o.op=.call { callee:=.builtin .append,args:=#[s,x],argTypes:=#[ 23,23 ] })
  (B n c:Nat) (y:Option Addr) (zs:List Int) (hs:a.eval s=.slice y n c) (hq:Que w B y c zs) (hn:n=zs.length) (z:Int) (ad:Addr) (hx:a.eval x=.slice (some ad) 1 1) (hc:∀j u,[Value.int .i64 z][j]? =some u->w.cell? (ad.add j)=some u)
  (hB:B<=w.heap.size) (hsm:n<=1000)
  (h:∀y' c' w' row,Que w' B y' c' (zs++[z])->w.grownBy w' row->(∀k,row=some k->B<=k)->wpList Tryz.prog ops Q rest (a.put o.dst (.slice y' (n+1) c')) w'):
  wpList Tryz.prog ops Q (o::rest) a w:=by
 obtain⟨i0,hi,hz0,hz1,hz2⟩:=info_parts int_info;have hq':=hq;obtain⟨g,off,rfl,h1,h2,h3,h4,h5,h6⟩:=hq;have getl:∀i,i<zs.length+1->(zs++[z]).getD i 0=if i<zs.length then zs.getD i 0 else z:=fun i hi=>by
  by_cases e:i<zs.length
  ·rw[if_pos e];simp[List.getD_eq_getElem?_getD,List.getElem?_append_left e]
  ·rw[if_neg e]
   obtain rfl:i=zs.length:=by omega
   simp
 refine wpList_append_arg w hgd s x 23 ho 3 i0 (.int .i64 0) 1 8 Tryz.underlying23 hi hz0 hz1 hz2 rfl (by decide) g off n c (ints zs) hs (by rw[ints_len,hn];omega) (fun j u hj=>?_) ad 1 1 [.int .i64 z] hx rfl hc (by simp[Value.oneCell']) (fun hr j hj=>?_) (by unfold maxLen;omega) (by omega) (fun hr=>?_) (fun hg v' w' ho' hgr=>?_)
 ·have hj':j<zs.length:=by have:=(List.getElem?_eq_some_iff.1 hj).1;rwa[ints_len]at this
  rw[h5 j hj', <-ints_get zs j hj',hj]
 ·obtain rfl:j=0:=by simpa using hj
  exact h6 (n * 1) (by omega)
 ·have e1:off+n * 1=off+n:=by omega
  have hcell:=h6 n (by omega);have eq:w.setCells g (off+n * 1) [.int .i64 z]=w.setCell ⟨g,off+n,none⟩ (.int .i64 z):=by rw[e1];rfl
  rw[eq];refine h _ _ _ (some g) ⟨g,off,rfl,h1,by simpa using h2,by simp;omega,h4,fun i hi=>?_,fun i hi=>?_⟩ (grownBy_setCell w ⟨g,off+n,none⟩ _) (fun k e=>by cases e;exact h1)
  ·simp only[List.length_append,List.length_cons,List.length_nil]at hi
   rw[getl i (by omega)]
   by_cases e:i<zs.length
   ·rw[if_pos e,World.cell?_setCell_other _ _ _ _ (fun q=>by have:=congrArg Addr.off q;simp at this;omega)];exact h5 i e
   ·rw[if_neg e,show i=n by omega]
    exact World.cell?_setCell_same' _ _ _ hcell.1
  ·rw[World.frozen?_setCell]
   refine⟨?_,(h6 i hi).2⟩
   by_cases e:i=n
   ·subst e;rw[World.cell?_setCell_same' _ _ _ hcell.1];rfl
   ·rw[World.cell?_setCell_other _ _ _ _ (fun q=>by have:=congrArg Addr.off q;simp at this;omega)];exact (h6 i hi).1
 ·have f:=ho'
  rw[show ints zs++[Value.int .i64 z]=ints (zs++[z]) by simp[ints]]at f;rcases f.2 with ⟨_,h00⟩|⟨g',cap,cur,rfl,hb,hg',_⟩
  ·omega
  ·have q:=Que.of_own (ownsRow_base f hB) (by simp[hn]) (Nat.succ_pos _)
   exact h _ _ _ none q hgr (fun k e=>by cases e)
end
theorem ArrI.keep {w w':World} {b B:Nat} {N:List Int} {row:Option Nat} (h:ArrI w b N) (hg:w.grownBy w' row) (hr:∀k,row=some k->B<=k) (hb:b<B):ArrI w' b N:=h.kept hg (fun e=>by have:=hr b e;omega)
theorem below_keep {w0 w w':World} {B C:Nat} {row:Option Nat} (h:Below C w0 w) (hg:w.grownBy w' row) (hr:∀k,row=some k->B<=k) (hC:C<=B) (hw:C<=w.heap.size):Below C w0 w':=
 h.trans ⟨hg.os,hg.tape,hg.output,hg.size,fun k hk=>hg.block k (by omega) (fun e=>by have:=hr k e.symm;omega)⟩
def down (p:Int):Nat->List Int
 | 0=>[]
 |n+1=>p::down (p - 1) n
theorem down_len (p:Int) (n:Nat):(down p n).length=n:=by
 induction n generalizing p with
 |zero=>rfl
 |succ n ih=>simp[down,ih]
theorem down_snoc (p:Int) (n:Nat):down p n++[p - n]=down p (n+1):=by
 induction n generalizing p with
 |zero=>simp[down]
 |succ n ih=>
  have:=ih (p - 1);rw[show p - 1 - (n:Int)=p - ((n+1:Nat):Int) by omega]at this;rw[down,List.cons_append,this]
  rfl
def lenQ:Value->Nat
 | .slice _ n _=>n
 |_=>0
theorem down_two (p:Int) (n:Nat):down p (n+2)=p::(p - 1)::down (p - 1 - 1) n:=rfl
theorem quiet_sameN {P:Program} {f:FuncId} {args:Array Value} {w:World} {m n:Nat} {v:Value}
  (h:∀W,Calls P f args W fun e w'=>e=.returned v/\W=w'):Calls P f args (w.drewN (m+n)) fun e w''=>e=.returned v/\∃k,w''=w.drewN (m+k):=
 (h _).mono fun _ _ ⟨he,hm⟩=>⟨he,n,hm.symm⟩
theorem squeezed_at (w:World) (N:List Int) (all:Int) (hl:N.length=128) (hb:BdN N 600000) (a0:0<=all) (a1:all<=2000):
  Calls Tryz.prog 254 #[.agg (arrC N),.int .i64 all] w fun e w'=>e=.returned (.agg (arrC (sqz N (all / 8) 63)))/\Below w.heap.size w w':=by
 obtain⟨i0,hi,hz0,hz1,hz2⟩:=info_parts int_info;obtain⟨D,hDD⟩:∃D,D=all / 8:=⟨_,rfl⟩
 have hD0:0<=D:=by omega
 have hD1:D<=250:=by omega
 rw[<-hDD];have HDD:=hd_ hDD;obtain⟨Z0,hZ0⟩:∃Z0,Z0=List.replicate 128 (0:Int):=⟨_,rfl⟩
 have hz128:Z0.length=128:=by rw[hZ0];simp
 obtain⟨W,hW⟩:∃W,W=(w.alloc (.cells (arrC N) 281)).alloc (.cells (arrC Z0) 281):=⟨_,rfl⟩
 have hA:Below w.heap.size w W:=by rw[hW];exact ((Below.refl _ _).alloc lr_ _).alloc (by simp) _
 have sW:W.heap.size=w.heap.size+2:=by rw[hW];simp
 have R0:ArrI W w.heap.size N:=by rw[hW];exact (ArrI.new w N hl).alloc _
 have R1:ArrI W (w.heap.size+1) Z0:=by rw[hW];have:=ArrI.new (w.alloc (.cells (arrC N) 281)) Z0 hz128;rwa[World.size_alloc]at this
 have HA:=hd_ hA;have HS:=hd_ sW;have HR0:=hd_ R0;have HR1:=hd_ R1;have HB:=hd_ hb;have HL:=hd_ hl;have HZ:=hd_ hZ0;clear hA sW R0 R1 hb hl hDD hz128 hZ0;go_enter Tryz.func254,Tryz.ntmps254;go_upto_region 0 with fail
 go_step
 refine wpList_box_arr rfl _ rfl N rfl ?_;refine wpList_alloc_arr rfl rfl ?_;rw[<-HZ.out];rw[<-hW];clear hW;rw[World.size_alloc]
 go_wp2_with fail
 go_loopw [5,6] (fun q i wr=>∃(j:Nat) (I:Int) (x:Option Addr) (c:Nat),j<=64/\I=127 - (j:Int)/\i=.int .i64 I/\q=.slice x j c/\wr.ownsRow W.heap.size 3 1 (.slice x j c) j (ints (down 127 j))/\Below W.heap.size W wr) (fun _ i _=>(intOf i).toNat)
 case atStart=>exact⟨0,127,none,0,by omega,rfl,rfl,rfl,World.ownsRow_nil _ _ _ 1,Below.refl _ _⟩
 case round=>
  obtain⟨j,I,x,c,hj,hI,rfl,rfl,ho,hbl⟩:=hrel;have HO:=hd_ ho;have HBL:=hd_ hbl;have szr:=hbl.size;have hdn:=hd_ (down_snoc 127 j)
  by_cases hlt:j<64
  ·have I0:64<=I:=by omega
   have I1:I<=127:=by omega
   have e:Hid (ints (down 127 j)++[Value.int .i64 I]=ints (down 127 (j+1))):=by
    show _=_
    rw[<-hdn.out,hI];simp[ints]
   have HI:=hd_ hI;clear ho hbl hI
   go_wp2_with (first|(at_builtin;refine wpList_append_own _ rfl _ _ 23 rfl W.heap.size 3 i0 (.int .i64 0) 1 8 Tryz.underlying23 hi hz0 hz1 hz2 rfl (by decide) _ _ _ rfl (HO.out.alloc _) ⟨wr.heap.size,0,none⟩ 1 1 [.int .i64 I] rfl rfl (cell_one_new _ _ _) (by simp[Value.oneCell']) (by unfold maxLen;omega) (by omega) (by simp;omega) ?_;intro v1 w3 ho1 hg1 _;obtain⟨g_v1,c_v1,rfl,_,_⟩:=World.ownsRow.form ho1 (Nat.succ_pos _)))
   go_roundw
   case rel=>exact⟨j+1,I - 1,_,_,by omega,by have:=HI.out;omega,rfl,rfl,by rw[<-e.out];exact ho1,below_appendP HBL.out szr HO.out hg1⟩
   case measure=>simp[intOf];omega
  ·obtain rfl:j=64:=by omega
   obtain rfl:I=63:=by omega
   have HQ0:=hd_ (Que.of_own ho (by rw[down_len]) (by omega));have HX0:=hd_ (HR0.out.below hbl HR0.out.lt);have HX1:=hd_ (HR1.out.below hbl HR1.out.lt);have HB0:=hd_ (HA.out.trans (hbl.mono HA.out.size));clear ho hbl hI HO HBL hlt hj hdn
   go_wp2_with fail
   go_loopw [5] (fun q wx=>∃(J n:Nat) (y:Option Addr) (c:Nat),J<=63/\n=J+1/\q=.slice y n c/\Que wx W.heap.size y c (down (2 * (J:Int)+1) (J+1))/\ArrI wx w.heap.size (sqz N D (63 - J))/\ArrI wx (w.heap.size+1) Z0/\Below w.heap.size w wx/\W.heap.size<=wx.heap.size) (fun q _=>lenQ q)
   case atStart=>exact⟨63,64,_,_,Nat.le_refl _,rfl,rfl,HQ0.out,HX0.out,HX1.out,HB0.out,szr⟩
   case round=>
    clear HQ0 HX0 HX1 HB0 HA HR0 HR1 szr;obtain⟨J,n,y,c,hJ,hn,rfl,hq,hx0,hx1,hbl,szr⟩:=hrel;have HQ:=hd_ hq;have HX1:=hd_ hx1;have HBL:=hd_ hbl
    by_cases h1:1<=J
    ·obtain⟨m,hm⟩:∃m,m=J - 1:=⟨_,rfl⟩
     obtain⟨g,o,rfl,hg0,hg1,hc0,hc1,hcells⟩:=hq.at;rw[down_len]at hc0 hcells;have q0:=hcells 0 (by omega);have q1:=hcells 1 (by omega);rw[show J+1=m+2 by omega,down_two]at q0 q1 HQ;simp only[Nat.add_zero,List.getD_cons_zero,List.getD_cons_succ]at q0 q1;obtain⟨I,hI⟩:∃I:Nat,I=2 * J:=⟨_,rfl⟩
     obtain⟨I1,hI1⟩:∃I1:Nat,I1=2 * J+1:=⟨_,rfl⟩
     have eI1:2 * (J:Int)+1=(I1:Int):=by omega
     have eI:(I1:Int) - 1=(I:Int):=by omega
     rw[eI1,eI]at q1 HQ;rw[eI1]at q0;have bd:=sqz_bd HB.out (show D<=600000 by omega) (by omega) (63 - J);have hs:=hd_ (show sqz N D (63 - (J - 1))=sq1 (sqz N D (63 - J)) D J by rw[show 63 - (J - 1)=(63 - J)+1 by omega,sqz,show 63 - (63 - J)=J by omega]);have lZ:(sqz N D (63 - J)).length=128:=by rw[sqz_len];exact HL.out
     have hany:=sq1_any (D:=D) (fun i=>(bd i).1) lZ J h1 hJ;generalize sqz N D (63 - J)=Z at *;have cI:=hx0.cell (i:=I) (by omega);have cI1:=hx0.cell (i:=I1) (by omega);have cJ:=hx0.cell (i:=J) (by omega);have fI:=hx0.free I;have fI1:=hx0.free I1;have fJ:=hx0.free J;have bI:=bd I;have bI1:=bd I1;have bJ:=bd J;rw[<-hI1, <-hI]at hany;obtain⟨V0,hV0⟩:∃V,V=Z.getD I 0:=⟨_,rfl⟩
     obtain⟨V1,hV1⟩:∃V,V=Z.getD I1 0:=⟨_,rfl⟩
     obtain⟨VJ,hVJ⟩:∃V,V=Z.getD J 0:=⟨_,rfl⟩
     rw[<-hV0, <-hV1, <-hVJ]at hany;rw[<-hV0]at cI bI;rw[<-hV1]at cI1 bI1;rw[<-hVJ]at cJ bJ;have HANY:=hd_ hany;have HR:=hd_ hx0;have w1:IntKind.i64.wrap (V0+V1)=V0+V1:=IntWalk.i64_in _ (by omega);have w2:IntKind.i64.wrap (VJ+(V0+V1))=VJ+(V0+V1):=IntWalk.i64_in _ (by omega);have j0:(J:Int)<64:=by omega
     have j128:(J:Int)<128:=by omega
     have jj:(0:Int)<=(J:Int):=by omega
     have i0':(I:Int)<128:=by omega
     have i1':(I1:Int)<128:=by omega
     have n2:(1:Int)<(n:Int):=by omega
     have hsh:(I1:Int) / 2=(J:Int):=by omega
     have KM:Hid (∀W,Calls Tryz.prog 181 #[.int .i64 J,.int .i64 all] W fun e w'=>e=.returned (.int .i64 D)/\W=w'):=fun W=>by
      have h:=knotMost_at J all W a0 a1;unfold mostK at h;rw[if_pos (by omega), <-HDD.out]at h;exact h
     have HI:=hd_ hI;have HI1:=hd_ hI1;have HM:=hd_ hm;have HN:=hd_ hn;clear hn hm hcells hV0 hV1 hVJ hany hx0 hx1 hbl hq eI eI1 hI hI1 bd lZ;have hge:(1:Int)<=(J:Int):=by omega
     have HB2:Hid (w.heap.size<W.heap.size/\w.heap.size+1<W.heap.size):=by show _/\_;have:=HS.out;omega
     have nc:n<=c:=by have:=HN.out;omega
     have n22:(2:Int)<=(n:Int):=by omega
     have LST:Hid (down ((I:Int) - 1) m++[(J:Int)]=down (2 * ((J - 1:Nat):Int)+1) (J - 1+1)):=by
      show _=_
      have h:=down_snoc ((I:Int) - 1) m;have e1:=HI.out;have e2:=HM.out;rw[show (I:Int) - 1 - (m:Int)=(J:Int) by omega]at h;rw[h,show 2 * ((J - 1:Nat):Int)+1=(I:Int) - 1 by omega,show J - 1+1=m+1 by omega]
     by_cases c2:VJ+(V0+V1)<=D
     ·have e:=hd_ (HANY.out.symm.trans (if_pos c2))
      have dc:decide (VJ+(V0+V1)<=D)=true:=decide_eq_true c2;have ne1:I≠J:=by have:=HI.out;omega
      have ne2:I1≠J:=by have:=HI1.out;omega
      have ne3:I1≠I:=by have:=HI1.out;have:=HI.out;omega
      obtain⟨F,hF⟩:∃F:Nat->World,F=fun q=>(((wr.drewN q).setCell ⟨w.heap.size,J,none⟩ (.int .i64 (VJ+(V0+V1)))).setCell ⟨w.heap.size,I,none⟩ (.int .i64 0)).setCell ⟨w.heap.size,I1,none⟩ (.int .i64 0):=⟨_,rfl⟩
      have FA:Hid (∀q,ArrI (F q) w.heap.size (((Z.set J (VJ+(V0+V1))).set I 0).set I1 0)):=fun q=>by rw[hF];exact (((HR.out.drewN q).set J _).set I 0).set I1 0
      have FX:Hid (∀q,ArrI (F q) (w.heap.size+1) Z0):=fun q=>by rw[hF];exact (((HX1.out.drewN q).kept (ArrI.grown _ _ _ _) (by simp)).kept (ArrI.grown _ _ _ _) (by simp)).kept (ArrI.grown _ _ _ _) (by simp)
      have FB:Hid (∀q,Below w.heap.size w (F q)):=fun q=>by rw[hF];exact (((below_drewN HBL.out q).setCell lr_ _).setCell lr_ _).setCell lr_ _
      have FS:Hid (∀q,(F q).heap.size=wr.heap.size):=fun q=>by rw[hF];simp
      have FQ:Hid (∀q,Que (F q) W.heap.size (some ⟨g,o,none⟩) c (↑I1:: ↑I::down (↑I - 1) m)):=fun q=>by rw[hF];exact (((HQ.out.drewN q).set _ _ _ HB2.out.1).set _ _ _ HB2.out.1).set _ _ _ HB2.out.1
      have GOF:Hid (∀q,(((wr.drewN q).setCell ⟨w.heap.size,J,none⟩ (.int .i64 (VJ+(V0+V1)))).setCell ⟨w.heap.size,I,none⟩ (.int .i64 0)).setCell ⟨w.heap.size,I1,none⟩ (.int .i64 0)=F q):=fun q=>by rw[hF]
      clear hF
      go_wp2_with fail
      go_quiet (fail)
      go_wp2_with fail
      go_quiet (fail)
      go_wp2_with fail
      go_quiet (with_reducible exact quiet_sameN KM.out)
      go_upto_region 13 with fail
      rw[GOF.out]
      by_cases hc2:c=2
      ·subst hc2
       obtain rfl:n=2:=by omega
       have QD:=hd_ (fun q=>(FQ.out q).drop2);rw[if_pos rfl]at QD;simp only[Nat.sub_self]at QD
       go_wp2_with (first|(at_builtin;refine wpList_append_que rfl _ _ rfl W.heap.size 0 0 _ _ rfl (Que.alloc (QD.out _) _) (by rw[down_len];have:=HN.out;have:=HM.out;omega) (J:Int) ⟨(F _).heap.size,0,none⟩ rfl (cell_one_new _ _ _) (by have:=FS.out;simp[FS.out];omega) (by have:=HN.out;omega) ?_;intro y' c' w' row hq' hgr hrow))
       rw[LST.out]at hq';go_roundw
       case rel=>exact⟨J - 1,1,y',c',by omega,by have:=HN.out;omega,rfl,hq',by rw[hs.out,e.out];exact ((FA.out _).alloc _).keep hgr hrow HB2.out.1,((FX.out _).alloc _).keep hgr hrow HB2.out.2,below_keep ((FB.out _).alloc (FB.out _).size _) hgr hrow (by have:=HB2.out.1;omega) (by have:=(FB.out 0).size;simp[FS.out]at this ⊢;omega),by have:=hgr.size;simp[FS.out]at this;omega⟩
       case measure=>simp[lenQ]
      ·have QD:=hd_ (fun q=>(FQ.out q).drop2)
       rw[if_neg hc2]at QD
       go_wp2_with (first|(at_builtin;refine wpList_append_que rfl _ _ rfl W.heap.size (n - 2) (c - 2) _ _ rfl (Que.alloc (QD.out _) _) (by rw[down_len];have:=HN.out;have:=HM.out;omega) (J:Int) ⟨(F _).heap.size,0,none⟩ rfl (cell_one_new _ _ _) (by have:=FS.out;simp[FS.out];omega) (by have:=HN.out;omega) ?_;intro y' c' w' row hq' hgr hrow))
       rw[LST.out]at hq';go_roundw
       case rel=>exact⟨J - 1,n - 2+1,y',c',by omega,by have:=HN.out;omega,rfl,hq',by rw[hs.out,e.out];exact ((FA.out _).alloc _).keep hgr hrow HB2.out.1,((FX.out _).alloc _).keep hgr hrow HB2.out.2,below_keep ((FB.out _).alloc (FB.out _).size _) hgr hrow (by have:=HB2.out.1;omega) (by have:=(FB.out 0).size;simp[FS.out]at this ⊢;omega),by have:=hgr.size;simp[FS.out]at this;omega⟩
       case measure=>simp[lenQ];omega
     ·have e:=hd_ (HANY.out.symm.trans (if_neg c2))
      have dc:decide (VJ+(V0+V1)<=D)=false:=decide_eq_false c2;obtain⟨F,hF⟩:∃F:Nat->World,F=fun q=>wr.drewN q:=⟨_,rfl⟩
      have FA:Hid (∀q,ArrI (F q) w.heap.size Z):=fun q=>by rw[hF];exact HR.out.drewN q
      have FX:Hid (∀q,ArrI (F q) (w.heap.size+1) Z0):=fun q=>by rw[hF];exact HX1.out.drewN q
      have FB:Hid (∀q,Below w.heap.size w (F q)):=fun q=>by rw[hF];exact below_drewN HBL.out q
      have FS:Hid (∀q,(F q).heap.size=wr.heap.size):=fun q=>by rw[hF];simp
      have FQ:Hid (∀q,Que (F q) W.heap.size (some ⟨g,o,none⟩) c (↑I1:: ↑I::down (↑I - 1) m)):=fun q=>by rw[hF];exact HQ.out.drewN q
      have GOF:Hid (∀a b c,((wr.drewN a).drewN b).drewN c=F (a+b+c)):=fun a b c=>by rw[hF,World.drewN_drewN,World.drewN_drewN];show wr.drewN _=wr.drewN _;rw[Nat.add_assoc]
      clear hF
      go_wp2_with fail
      go_quiet (fail)
      go_wp2_with fail
      go_quiet (fail)
      go_wp2_with fail
      go_quiet (with_reducible exact quiet_sameN KM.out)
      go_upto_region 13 with fail
      rw[GOF.out]
      by_cases hc2:c=2
      ·subst hc2
       obtain rfl:n=2:=by omega
       have QD:=hd_ (fun q=>(FQ.out q).drop2);rw[if_pos rfl]at QD;simp only[Nat.sub_self]at QD
       go_wp2_with (first|(at_builtin;refine wpList_append_que rfl _ _ rfl W.heap.size 0 0 _ _ rfl (Que.alloc (QD.out _) _) (by rw[down_len];have:=HN.out;have:=HM.out;omega) (J:Int) ⟨(F _).heap.size,0,none⟩ rfl (cell_one_new _ _ _) (by have:=FS.out;simp[FS.out];omega) (by have:=HN.out;omega) ?_;intro y' c' w' row hq' hgr hrow))
       rw[LST.out]at hq';go_roundw
       case rel=>exact⟨J - 1,1,y',c',by omega,by have:=HN.out;omega,rfl,hq',by rw[hs.out,e.out];exact ((FA.out _).alloc _).keep hgr hrow HB2.out.1,((FX.out _).alloc _).keep hgr hrow HB2.out.2,below_keep ((FB.out _).alloc (FB.out _).size _) hgr hrow (by have:=HB2.out.1;omega) (by have:=(FB.out 0).size;simp[FS.out]at this ⊢;omega),by have:=hgr.size;simp[FS.out]at this;omega⟩
       case measure=>simp[lenQ]
      ·have QD:=hd_ (fun q=>(FQ.out q).drop2)
       rw[if_neg hc2]at QD
       go_wp2_with (first|(at_builtin;refine wpList_append_que rfl _ _ rfl W.heap.size (n - 2) (c - 2) _ _ rfl (Que.alloc (QD.out _) _) (by rw[down_len];have:=HN.out;have:=HM.out;omega) (J:Int) ⟨(F _).heap.size,0,none⟩ rfl (cell_one_new _ _ _) (by have:=FS.out;simp[FS.out];omega) (by have:=HN.out;omega) ?_;intro y' c' w' row hq' hgr hrow))
       rw[LST.out]at hq';go_roundw
       case rel=>exact⟨J - 1,n - 2+1,y',c',by omega,by have:=HN.out;omega,rfl,hq',by rw[hs.out,e.out];exact ((FA.out _).alloc _).keep hgr hrow HB2.out.1,((FX.out _).alloc _).keep hgr hrow HB2.out.2,below_keep ((FB.out _).alloc (FB.out _).size _) hgr hrow (by have:=HB2.out.1;omega) (by have:=(FB.out 0).size;simp[FS.out]at this ⊢;omega),by have:=hgr.size;simp[FS.out]at this;omega⟩
       case measure=>simp[lenQ];omega
    ·obtain rfl:J=0:=by omega
     obtain rfl:n=1:=by omega
     obtain⟨y',c',hy⟩:∃y' c',y=y'/\c=c':=⟨_,_,rfl,rfl⟩
     have HA0:=hd_ hx0;have z63:Hid (sqz N D (63 - 0)=sqz N D 63):=hd_ rfl;have lQ:Hid ((sqz N D 63).length=128):=by show _=_;rw[sqz_len];exact HL.out
     rw[z63.out]at HA0;obtain⟨S,hS⟩:∃S,S=sqz N D 63:=⟨_,rfl⟩
     rw[<-hS]at HA0 lQ;have HSS:=hd_ hS;have HA1:=hd_ (HX1.out.setRow lQ.out);have hld:=HA1.out.loadVar;have FIN:=hd_ (HBL.out.trans (below_grown (grownBy_setRow wr (w.heap.size+1) (arrC S)) (show w.heap.size<=w.heap.size+1 by omega) HBL.out.size));clear hq hx0 hx1 hbl hy hJ h1 hn hS
     go_wp2_with (first|(refine wpList_load_arr rfl _ rfl _ S rfl HA0.out ?_)|(refine wpList_store_arr rfl _ _ rfl _ Z0 S rfl rfl HX1.out lQ.out ?_))
     exact bodyPost_ret (v:=.agg (arrC S)) (by simp[results,Tryz.results254,asAddr,hld]) rfl ⟨by rw[HSS.out],FIN.out⟩
theorem row_form {w:World} {B:Nat} {e:TypeId} {size n:Nat} {v:Value} {xs:List Value} (h:w.ownsRow B e size v n xs):∃x c,v=.slice x n c:=by
 rcases h.2 with ⟨rfl,h0⟩|⟨g,cap,cur,rfl,_⟩
 ·exact⟨none,0,by rw[h0]⟩
 ·exact⟨_,_,rfl⟩
theorem prs_one (ps:List Pr):∀u ∈ prs ps,u.oneCell'=true:=by
 induction ps with
 |nil=>intro u hu;cases hu
 |cons p ps ih=>
  intro u hu;rw[prs_cons]at hu;simp only[List.mem_cons]at hu;rcases hu with rfl|rfl|hu
  ·rfl
  ·rfl
  ·exact ih u hu
theorem Prs.news {w:World} {b o n c:Nat} {ps:List Pr} (h:Prs w (.slice (some ⟨b,o,none⟩) n c) ps):∀j u,(prs ps)[j]? =some u->w.cell? ((⟨b,o,none⟩:Addr).add j)=some u:=fun j u hu=>by
 have hj:j<(prs ps).length:=(List.getElem?_eq_some_iff.1 hu).1;rw[prs_len]at hj;obtain⟨b',o',e,_,h1,h2⟩:=h.cells (j / 2) (by omega);cases e;have hg:=prs_get ps (j / 2) (by omega);rw[addr_plus];rcases (by omega:j % 2=0\/j % 2=1)with h0|h0
 ·have e:j=j / 2 * 2:=by omega
  rw[e]at hu ⊢;rw[hg.1]at hu;rw[h1, <-hu]
 ·have e:j=j / 2 * 2+1:=by omega
  rw[e]at hu ⊢;rw[hg.2]at hu;rw[<-Nat.add_assoc,h2, <-hu]
theorem growNil_at (n:Nat) (w:World) (hn:n<=300):Calls Tryz.prog 291 #[.slice none 0 0,.int .i64 n] w fun e w'=>∃v,e=.returned v/\OwnP w' w.heap.size v []/\Below w.heap.size w w':=by
 obtain⟨i0,hi,hz0,hz1,hz2⟩:=info_parts pair_info
 by_cases h0:n=0
 ·subst h0
  go_enter Tryz.func291,Tryz.ntmps291;go_wp2;go_ret;exact⟨_,rfl,OwnP.nil _ _,Below.refl _ _⟩
 ·have h1:¬((n:Int)<0):=by omega
  have h4:(0:Int)<(n:Int):=by omega
  have hrz:∀ty,(Builtin.append_ #[42,3 ] ty #[.slice none 0 0,.int .i64 (n:Int)]).run Tryz.prog w=
    .ok (.slice (some ⟨w.heap.size,0,none⟩) n (grownCap w n 0 152)) (w.drew.alloc (.cells ((([]:List Value).toArray++Builtin.zeroCells (Value.agg #[.int .i64 0,.int .i64 0]).cells n)++Builtin.zeroCells (Value.agg #[.int .i64 0,.int .i64 0]).cells (grownCap w n 0 152 - n)) 152)):=fun ty=>by
   have h:=Lib.run_append_grow_zeros w 42 3 ty 152 i0 _ .i64 .i64 Tryz.underlying42 Tryz.underlying3 hi hz0 none 0 0 [] (run_firstCells_none w.drew i0.size 0 0 0) n (by omega) (by rw[hz1];omega) (by omega) (by omega) (by rw[hz2];omega)
    (by rw[Nat.zero_add];exact growslice_fits (by omega) (by rw[hz2];omega))
   rw[Nat.zero_add]at h;exact h
  have hGn:n<=grownCap w n 0 152:=grownCap_ge w _ _ _;have hG63:=grownCap_le_maxLen w n 0 152 (by unfold maxLen;omega);have hsz:∀G,n<=G->((([]:List Value).toArray++Builtin.zeroCells (Value.agg #[.int .i64 0,.int .i64 0]).cells n)++Builtin.zeroCells (Value.agg #[.int .i64 0,.int .i64 0]).cells (G - n)).size=G * 2:=fun G hG=>by
   simp only[Array.size_append,size_zeroCells,Value.cells];simp;omega
  obtain⟨G,hG⟩:∃G,G=grownCap w n 0 152:=⟨_,rfl⟩
  rw[<-hG]at hrz hGn hG63;obtain⟨CS,hCS⟩:∃CS,CS=((([]:List Value).toArray++Builtin.zeroCells (Value.agg #[.int .i64 0,.int .i64 0]).cells n)++Builtin.zeroCells (Value.agg #[.int .i64 0,.int .i64 0]).cells (G - n)):=⟨_,rfl⟩
  have hs:=hsz G hGn;rw[<-hCS]at hrz hs;have FIN:Hid (OwnP (w.drew.alloc (.cells CS 152)) w.heap.size (.slice (some ⟨w.heap.size,0,none⟩) 0 G) []/\Below w.heap.size w (w.drew.alloc (.cells CS 152))):=
   ⟨World.ownsRow_made w.drew CS G lr_ hG63 hs,(Below.drew (Below.refl _ _)).alloc lr_ _⟩
  have hGi:(n:Int)<=(G:Int):=by omega
  have hG0:(0:Int)<=(G:Int):=by omega
  have hG64:(G:Int)<=9223372036854775807:=by unfold maxLen at hG63;omega
  clear hG hCS hsz hs;go_enter Tryz.func291,Tryz.ntmps291
  go_wp2_with (at_builtin;refine Lib.wpList_append_run _ rfl _ _ _ _ rfl _ _ rfl rfl _ _ (hrz _) ?_)
  go_ret;exact⟨_,rfl,FIN.out.1,FIN.out.2⟩
theorem concat_at (w:World) (g na nb ca cb:Nat) (x y:Option Addr) (ps qs:List Pr) (ha:ps.length=na) (hb:qs.length=nb) (la:na<=127) (lb:nb<=127) (hp:Prs w (.slice x na ca) ps) (hq:Prs w (.slice y nb cb) qs)
  (c0:w.cell? ⟨g,0,none⟩=some (.slice x na ca)) (c1:w.cell? ⟨g,1,none⟩=some (.slice y nb cb)):
  Calls Tryz.prog 252 #[.slice (some ⟨g,0,none⟩) 2 2] w fun e w'=>∃v,e=.returned v/\OwnP w' w.heap.size v (ps++qs)/\Below w.heap.size w w':=by
 obtain⟨i0,hi,hz0,hz1,hz2⟩:=info_parts pair_info;have HA:=hd_ ha;have HB:=hd_ hb;have HP:=hd_ hp;have HQ:=hd_ hq;have C0:=hd_ c0;have C1:=hd_ c1;have n0:¬(na:Int)<0:=by omega
 have n1:¬(na:Int)+(nb:Int)<0:=by omega
 have KG:Hid (Calls Tryz.prog 291 #[.slice none 0 0,.int .i64 ((na:Int)+(nb:Int))] w fun e w'=>∃v,e=.returned v/\OwnP w' w.heap.size v []/\Below w.heap.size w w'):=by
  have h:=growNil_at (na+nb) w (by omega);rw[Int.natCast_add]at h;exact h
 have NP:Hid (x=none->ps=[]/\na=0/\ca=0):=fun e=>by
  subst e;rcases HP.out with ⟨e,h0⟩|⟨b,o,c,e,_⟩
  ·injection e with e1 e2 e3;exact⟨h0,e2,e3⟩
  ·cases e
 have NQ:Hid (y=none->qs=[]/\nb=0/\cb=0):=fun e=>by
  subst e;rcases HQ.out with ⟨e,h0⟩|⟨b,o,c,e,_⟩
  ·injection e with e1 e2 e3;exact⟨h0,e2,e3⟩
  ·cases e
 have SX:Hid (∀a,x=some a->∃b o,a=⟨b,o,none⟩):=fun a e=>by
  rcases HP.out with ⟨e',_⟩|⟨b,o,c,e',_⟩
  ·rw[e]at e';cases e'
  ·rw[e]at e';injection e' with e1;exact⟨b,o,Option.some.inj e1⟩
 have SY:Hid (∀a,y=some a->∃b o,a=⟨b,o,none⟩):=fun a e=>by
  rcases HQ.out with ⟨e',_⟩|⟨b,o,c,e',_⟩
  ·rw[e]at e';cases e'
  ·rw[e]at e';injection e' with e1;exact⟨b,o,Option.some.inj e1⟩
 clear ha hb hp hq;go_enter Tryz.func252,Tryz.ntmps252;go_wp2;refine wp_loop_rounds 3 ?_;rw[rounds_succ];go_wp2;rw[rounds_succ];go_wp2;rw[rounds_succ]
 go_wp2_with fail
 refine KG.out.mono ?_;rintro e w1 ⟨v,rfl,ho1,hb1⟩;obtain⟨z,cz,rfl,_,_⟩:=ho1.form;have d0:=cell_later hb1 C0.out;have d1:=cell_later hb1 C1.out;have P1:=hd_ (HP.out.below hb1 lr_);have Q1:=hd_ (HQ.out.below hb1 lr_);have O1:Hid (w1.ownsRow w.heap.size 152 2 (.slice z 0 cz) 0 []):=ho1;have B1:=hd_ hb1;have s1:=hb1.size;have D1:=hd_ d1;have gl:g<w.heap.size:=World.block_lt_of_cell? _ _ C1.out
 clear ho1 hb1 c0 c1 KG;simp only[List.length_nil];go_wp2;refine wp_loop_rounds 3 ?_;rw[rounds_succ]
 -- the first
 rcases hx:x with _|⟨bx,ox,sx⟩
 ·subst hx
  obtain⟨rfl,rfl,rfl⟩:=NP.out rfl;rcases hy:y with _|⟨by',oy,sy⟩
  ·subst hy
   obtain⟨rfl,rfl,rfl⟩:=NQ.out rfl
   go_wp2_with (first|(at_builtin;refine wpList_append_own_none rfl _ _ 42 rfl w.heap.size 152 i0 2 Tryz.underlying42 hi (.slice z 0 cz) 0 [] rfl O1.out rfl ?_;have tok1:True:=trivial))
   rw[rounds_succ]
   go_wp2_with (first|(at_builtin;refine wpList_append_own_none rfl _ _ 42 rfl w.heap.size 152 i0 2 Tryz.underlying42 hi (.slice z 0 cz) 0 [] rfl O1.out rfl ?_;have tok2:True:=trivial))
   rw[rounds_succ];go_wp2;go_ret;exact⟨_,rfl,O1.out,B1.out⟩
  ·obtain⟨by2,oy2,ey⟩:=SY.out _ hy
   obtain⟨rfl,rfl,rfl⟩:by'=by2/\oy=oy2/\sy=none:=by injection ey with e1 e2 e3;exact⟨e1,e2,e3⟩
   subst hy;clear ey
   go_wp2_with (first|(at_builtin;refine wpList_append_own_none rfl _ _ 42 rfl w.heap.size 152 i0 2 Tryz.underlying42 hi (.slice z 0 cz) 0 [] rfl O1.out rfl ?_;have tok1:True:=trivial))
   rw[rounds_succ]
   go_wp2_with (first|(at_builtin;refine wpList_append_own _ rfl _ _ 42 rfl w.heap.size 152 i0 (.agg #[.int .i64 0,.int .i64 0]) 2 16 Tryz.underlying42 hi hz0 hz1 hz2 rfl (by decide) (.slice z 0 cz) 0 [] rfl O1.out ⟨by',oy,none⟩ nb cb (prs qs) rfl (by rw[prs_len,HB.out]) (Q1.out.news) (prs_one _) (by unfold maxLen;omega) (by omega) (by omega) ?_;intro v3 w3 ho3 hg3 _;have O3:=hd_ ho3;obtain⟨z3,cz3,rfl⟩:=row_form ho3;have B3:=hd_ (B1.out.grown hg3 B1.out.size (fun k e=>(O1.out.lt k e).1))))
   rw[rounds_succ];go_wp2;go_ret;refine⟨_,rfl,?_,B3.out⟩;unfold OwnP;have h:=O3.out;rw[<-HB.out]at h ⊢;simpa using h
 ·obtain⟨bx',ox',ex⟩:=SX.out _ hx
  obtain⟨rfl,rfl,rfl⟩:bx=bx'/\ox=ox'/\sx=none:=by injection ex with e1 e2 e3;exact⟨e1,e2,e3⟩
  subst hx;clear ex;rcases hy:y with _|⟨by',oy,sy⟩
  ·subst hy
   obtain⟨rfl,rfl,rfl⟩:=NQ.out rfl
   go_wp2_with (first|(at_builtin;refine wpList_append_own _ rfl _ _ 42 rfl w.heap.size 152 i0 (.agg #[.int .i64 0,.int .i64 0]) 2 16 Tryz.underlying42 hi hz0 hz1 hz2 rfl (by decide) (.slice z 0 cz) 0 [] rfl O1.out ⟨bx,ox,none⟩ na ca (prs ps) rfl (by rw[prs_len,HA.out]) (P1.out.news) (prs_one _) (by unfold maxLen;omega) (by omega) (by omega) ?_;intro v2 w2 ho2 hg2 _;simp only[Nat.zero_add,List.nil_append]at ho2;obtain⟨z2,cz2,rfl⟩:=row_form ho2;have O2:=hd_ ho2;have B2:=hd_ (B1.out.grown hg2 B1.out.size (fun k e=>(O1.out.lt k e).1));have d2:=hg2.cell D1.out (fun e=>by have:=(O1.out.lt _ e.symm).1;simp only at this;omega);have s2:=hg2.size;have Q2:=hd_ (HQ.out.below B2.out lr_)))
   rw[rounds_succ]
   go_wp2_with (first|(at_builtin;refine wpList_append_own_none rfl _ _ 42 rfl w.heap.size 152 i0 2 Tryz.underlying42 hi (.slice z2 na cz2) na (prs ps) rfl O2.out rfl ?_;have tok2:True:=trivial))
   rw[rounds_succ];go_wp2;go_ret;exact⟨_,rfl,by rw[List.append_nil];have h:=O2.out;rw[<-HA.out]at h ⊢;exact h,B2.out⟩
  ·obtain⟨by2,oy2,ey⟩:=SY.out _ hy
   obtain⟨rfl,rfl,rfl⟩:by'=by2/\oy=oy2/\sy=none:=by injection ey with e1 e2 e3;exact⟨e1,e2,e3⟩
   subst hy;clear ey
   go_wp2_with (first|(at_builtin;refine wpList_append_own _ rfl _ _ 42 rfl w.heap.size 152 i0 (.agg #[.int .i64 0,.int .i64 0]) 2 16 Tryz.underlying42 hi hz0 hz1 hz2 rfl (by decide) (.slice z 0 cz) 0 [] rfl O1.out ⟨bx,ox,none⟩ na ca (prs ps) rfl (by rw[prs_len,HA.out]) (P1.out.news) (prs_one _) (by unfold maxLen;omega) (by omega) (by omega) ?_;intro v2 w2 ho2 hg2 _;simp only[Nat.zero_add,List.nil_append]at ho2;obtain⟨z2,cz2,rfl⟩:=row_form ho2;have O2:=hd_ ho2;have B2:=hd_ (B1.out.grown hg2 B1.out.size (fun k e=>(O1.out.lt k e).1));have d2:=hg2.cell D1.out (fun e=>by have:=(O1.out.lt _ e.symm).1;simp only at this;omega);have s2:=hg2.size;have Q2:=hd_ (HQ.out.below B2.out lr_)))
   rw[rounds_succ]
   go_wp2_with (first|(at_builtin;refine wpList_append_own _ rfl _ _ 42 rfl w.heap.size 152 i0 (.agg #[.int .i64 0,.int .i64 0]) 2 16 Tryz.underlying42 hi hz0 hz1 hz2 rfl (by decide) (.slice z2 na cz2) na (prs ps) rfl O2.out ⟨by',oy,none⟩ nb cb (prs qs) rfl (by rw[prs_len,HB.out]) (Q2.out.news) (prs_one _) (by unfold maxLen;omega) (by omega) (by omega) ?_;intro v3 w3 ho3 hg3 _;have O3:=hd_ ho3;obtain⟨z3,cz3,rfl⟩:=row_form ho3;have B3:=hd_ (B2.out.grown hg3 B2.out.size (fun k e=>(O2.out.lt k e).1))))
   rw[rounds_succ];go_wp2;go_ret;refine⟨_,rfl,?_,B3.out⟩;unfold OwnP;have h:=O3.out;rw[<-HA.out, <-HB.out]at h ⊢;rw[prs_append,List.length_append];exact h
end Go.Proofs.YtcblbdpdbggkbaaGreat.K
set_option linter.unusedVariables false
namespace Go.Proofs.YtcblbdpdbggkbaaGreat.K
open Go.RowKit Go.Sort
def joinOkK (ps:List Pr) (a:Int) (qs:List Pr) (b:Int):Bool:=rankB ps a&&(rankB qs b&&decide (a+b<=2000))
def joinK (ps:List Pr) (a:Int) (qs:List Pr) (b:Int):List Pr × Int:=if joinOkK ps a qs b then (bothK ps a qs b,a+b)else ([],0)
theorem joinK_no {ps:List Pr} {a:Int} {qs:List Pr} {b:Int} (h:joinOkK ps a qs b=false):joinK ps a qs b=([],0):=by simp[joinK,h]
theorem joinK_yes {ps:List Pr} {a:Int} {qs:List Pr} {b:Int} (h:joinOkK ps a qs b=true):joinK ps a qs b=(bothK ps a qs b,a+b):=by simp[joinK,h]
theorem joinOkK_yes {ps:List Pr} {a:Int} {qs:List Pr} {b:Int} (h:joinOkK ps a qs b=true):rankB ps a=true/\rankB qs b=true/\a+b<=2000:=by
 unfold joinOkK at h;simpa using h
theorem sqz_0 (N:List Int) (D:Int):∀s,s<=63->(sqz N D s).getD 0 0=N.getD 0 0:=by
 intro s
 induction s with
 |zero=>intro _;rfl
 |succ s ih=>intro h;rw[sqz,sq1_0 _ (by omega)];exact ih (by omega)
theorem RankP.len {ps:List Pr} {all:Int} (h:RankP ps all):ps.length<=127:=knG_few h.2.1
theorem KnB.append {ps qs:List Pr} (h:KnB ps) (h':KnB qs):KnB (ps++qs):=fun i hi=>by
 have m:∀{l:List Pr},KnB l->∀p ∈ l,(0<=p.1/\p.1<=127)/\0<=p.2/\p.2<=2000:=fun hl p hp=>by
  obtain⟨j,hj,rfl⟩:=pr_at hp;exact hl j hj
 rcases List.mem_append.1 (pr_mem hi)with e|e
 ·exact m h _ e
 ·exact m h' _ e
theorem imRankJoin_yes (w:World) (u v:Value) (ps:List Pr) (a:Int) (qs:List Pr) (b:Int) (hp:Prs w u ps) (hq:Prs w v qs) (ka:rankB ps a=true) (kb:rankB qs b=true) (hab:a+b<=2000):
  Calls Tryz.prog 198 #[.agg #[u,.int .i64 a],.agg #[v,.int .i64 b]] w fun e w'=>∃x,e=.returned (.tuple #[.agg #[x,.int .i64 (a+b)],.bool true])/\OwnP w' w.heap.size x (bothK ps a qs b)/\Below w.heap.size w w':=by
 have PA:=(rankB_iff _ _).1 ka;have PB:=(rankB_iff _ _).1 kb;have la:=PA.len;have lb:=PB.len;have kn:=PA.knB.append PB.knB;have aa:=PA.1.1;have bb:=PB.1.1;have hat:=PA.atK.append PB.atK;have HAT:=hd_ hat;obtain⟨W,hW⟩:∃W,W=((w.alloc (.cells #[u,.int .i64 a] 44)).alloc (.cells #[v,.int .i64 b] 44)).alloc (.cells #[.slice none 0 0,.int .i64 0] 44):=⟨_,rfl⟩
 have hA:Below w.heap.size w W:=by rw[hW];exact (((Below.refl _ _).alloc lr_ _).alloc (by simp) _).alloc (by simp;omega) _
 have sW:W.heap.size=w.heap.size+3:=by rw[hW];simp
 have X:Box2 W w.heap.size 44 u (.int .i64 a):=by rw[hW];exact ((Box2.new _ _ _ _).alloc _).alloc _
 have Y:Box2 W (w.heap.size+1) 44 v (.int .i64 b):=by
  have h:=(Box2.new (w.alloc (.cells #[u,.int .i64 a] 44)) 44 v (.int .i64 b)).alloc (.cells #[.slice none 0 0,.int .i64 0] 44);rw[hW];simpa using h
 have R:Box2 W (w.heap.size+1+1) 44 (.slice none 0 0) (.int .i64 0):=by
  have h:=Box2.new ((w.alloc (.cells #[u,.int .i64 a] 44)).alloc (.cells #[v,.int .i64 b] 44)) 44 (.slice none 0 0) (.int .i64 0);rw[hW];simpa using h
 have IA:=hd_ (hp.below hA lr_);have IB:=hd_ (hq.below hA lr_);have KA:=hd_ (imRankOk_at W u ps a IA.out);have KB:Hid (∀W,Prs W v qs->Calls Tryz.prog 110 #[.agg #[v,.int .i64 b]] W fun e w'=>e=.returned (.bool true)/\Below W.heap.size W w'):=fun W h=>by rw[<-kb];exact imRankOk_at W v qs b h
 rw[ka]at KA;obtain⟨x,c,rfl,_,_⟩:=hp.form;obtain⟨y,d,rfl,_,_⟩:=hq.form;obtain⟨na,hna⟩:∃n,n=ps.length:=⟨_,rfl⟩
 obtain⟨nb,hnb⟩:∃n,n=qs.length:=⟨_,rfl⟩
 rw[<-hna]at KA hW X IA la;rw[<-hnb]at KB hW Y IB lb;rw[<-hna, <-hnb];have HNA:=hd_ hna;have HNB:=hd_ hnb;have HA:=hd_ hA;have HS:=hd_ sW;have KN:=hd_ kn;obtain⟨A,hAll⟩:∃A,A=a+b:=⟨_,rfl⟩
 rw[<-hAll]at hab ⊢;have ws:IntKind.i64.wrap (a+b)=A:=by rw[hAll];exact IntWalk.i64_in _ (by omega)
 have hgt:decide ((2000:Int)<A)=false:=decide_eq_false (by omega);have HAL:=hd_ hAll;have A0:0<=A:=by omega
 have EB:Hid (bothK ps a qs b=listV (sqz (numsV (ps++qs)) (A / 8) 63)):=by show _=_;unfold bothK doneK;rw[hAll]
 have x0:=X.cell0;have x1:=X.cell1;have y0:=Y.cell0;have y1:=Y.cell1;clear hp hq ka kb PA PB kn hat hA sW hna hnb hAll;go_enter Tryz.func198,Tryz.ntmps198
 go_wp2_with fail
 rw[<-hW];clear hW
 go_wp2_with fail
 refine KA.out.mono ?_;rintro e w1 ⟨rfl,hb1⟩;have X1:=X.later hb1;have Y1:=Y.later hb1;have R1:=R.later hb1;have B1:=hd_ (HA.out.trans (hb1.mono HA.out.size));have IA1:=hd_ (IA.out.below hb1 lr_);have IB1:=hd_ (IB.out.below hb1 lr_);clear hb1 X Y R x0 x1 y0 y1 KA IA IB;have x0:=X1.cell0;have x1:=X1.cell1;have y0:=Y1.cell0;have y1:=Y1.cell1
 go_wp2_with fail
 refine (KB.out _ IB1.out).mono ?_;rintro e w2 ⟨rfl,hb2⟩;have X2:=X1.later hb2;have Y2:=Y1.later hb2;have R2:=R1.later hb2;have B2:=hd_ (B1.out.trans (hb2.mono B1.out.size));have IA2:=hd_ (IA1.out.below hb2 lr_);have IB2:=hd_ (IB1.out.below hb2 lr_);clear hb2 X1 Y1 R1 x0 x1 y0 y1 KB IA1 IB1;have x0:=X2.cell0;have x1:=X2.cell1;have y0:=Y2.cell0;have y1:=Y2.cell1;go_upto_region 4 with fail
 go_step
 refine wpList_alloc_arr rfl rfl ?_;obtain⟨W3,hW⟩:∃W3,W3=w2.alloc (.cells (arrC (List.replicate 128 0)) 281):=⟨_,rfl⟩
 rw[<-hW];have N3:Hid (ArrI W3 w2.heap.size (List.replicate 128 0)):=by show ArrI _ _ _;rw[hW];exact ArrI.new w2 _ (by simp)
 have hA3:Below w2.heap.size w2 W3:=by rw[hW];exact (Below.refl _ _).alloc lr_ _
 have s3:W3.heap.size=w2.heap.size+1:=by rw[hW];simp
 have X3:=X2.later hA3;have Y3:=Y2.later hA3;have R3:=R2.later hA3;have B3:=hd_ (B2.out.trans (hA3.mono B2.out.size));have IA3:=hd_ (IA2.out.below hA3 lr_);have IB3:=hd_ (IB2.out.below hA3 lr_);have S3:=hd_ s3;have LR:=hd_ R2.lt;clear hW hA3 s3 X2 Y2 R2 x0 x1 y0 y1 IA2 IB2 B2;have x0:=X3.cell0;have y0:=Y3.cell0
 -- the two lists,in one literal
 obtain⟨W4,hW4⟩:∃W4,W4=W3.alloc (.cells #[.slice x na c,.slice y nb d] 42):=⟨_,rfl⟩
 have hA4:Below W3.heap.size W3 W4:=by rw[hW4];exact (Below.refl _ _).alloc lr_ _
 have KC:Hid (Calls Tryz.prog 252 #[.slice (some ⟨W3.heap.size,0,none⟩) 2 2] W4 fun e w'=>∃v,e=.returned v/\OwnP w' W4.heap.size v (ps++qs)/\Below W4.heap.size W4 w'):=
  concat_at W4 W3.heap.size na nb c d x y ps qs HNA.out.symm HNB.out.symm la lb (IA3.out.below hA4 lr_) (IB3.out.below hA4 lr_) (by rw[hW4];simp) (by rw[hW4];simp)
 have X4:=X3.later hA4;have Y4:=Y3.later hA4;have R4:=R3.later hA4;have N4:=hd_ (N3.out.later hA4);have B4:=hd_ (B3.out.trans (hA4.mono B3.out.size));have S4:=hd_ hA4.size;clear X3 Y3 R3 N3 B3 IA3 IB3 hA4
 go_wp2_with fail
 rw[<-hW4];clear hW4 x0 y0;refine KC.out.mono ?_;rintro e w5 ⟨v,rfl,ho5,hb5⟩;have R5:=R4.later hb5;have N5:=hd_ (N4.out.later hb5);have B5:=hd_ (B4.out.trans (hb5.mono B4.out.size));obtain⟨z,cz,rfl,_,_⟩:=ho5.form;have hcs:=ho5.rd.cells;obtain⟨n,hn⟩:∃n,n=(ps++qs).length:=⟨_,rfl⟩
 have n300:n<=300:=by rw[hn,List.length_append, <-HNA.out, <-HNB.out];omega
 have HP5:Hid (∀i,i<n->∃b o,z=some ⟨b,o,none⟩/\b<w5.heap.size/\b≠w2.heap.size/\w5.cell? ⟨b,o+i * 2,none⟩=some (.int .i64 (pr (ps++qs) i).1)/\w5.cell? ⟨b,o+i * 2+1,none⟩=some (.int .i64 (pr (ps++qs) i).2)):=fun i hi=>by
  obtain⟨b,o,e,h1,h2,h3⟩:=hcs i (by rw[<-hn];exact hi);refine⟨b,o,e,h1,?_,h2,h3⟩;have:=(World.ownsRow.lt ho5 b (by rw[e];rfl)).1;have:=S3.out;have:=S4.out;omega
 rw[<-hn];have HN:=hd_ hn;have SZ5:Hid (w2.heap.size<w5.heap.size):=by show _<_;have:=S3.out;have:=S4.out;have:=hb5.size;omega
 have LR5:Hid (w.heap.size+1+1<w2.heap.size):=LR;clear ho5 hb5 hcs hn X4 Y4 R4 N4 B4 KC;generalize hps:ps++qs=ks at *
 go_wp2_with fail
 go_loopw [39] (fun i wr=>∃k:Nat,k<=n/\i=.int .i64 k/\ArrI wr w2.heap.size (numsV (ks.take k))/\w5.grownBy wr (some w2.heap.size)) (fun i _=>n - (intOf i).toNat)
 case atStart=>exact⟨0,Nat.zero_le _,rfl,N5.out,grownBy_refl _ _⟩
 case round=>
  obtain⟨k,hk,rfl,hrow,hgr⟩:=hrel;have HR:=hd_ hrow;have HG:=hd_ hgr
  by_cases hlt:k<n
  ·obtain⟨g,o,rfl,hg,hne,h1,h2⟩:=HP5.out k hlt
   have e5:=hgr.block g hg (fun e=>hne (by cases e;rfl));rw[<-World.cell?_of_block (a:=⟨g,o+k * 2,none⟩) e5]at h1;rw[<-World.cell?_of_block (a:=⟨g,o+k * 2+1,none⟩) e5]at h2;have gk:=KN.out k (by rw[<-HN.out];exact hlt);have bd:=numsV_bd KN.out k (by rw[<-HN.out];omega);have hs:=hd_ (numsV_succ ks k (by rw[<-HN.out];exact hlt));generalize pr ks k=q at h1 h2 hs gk;obtain⟨t,m⟩:=q;simp only at h1 h2 gk
   obtain⟨⟨t0,t1⟩,m0,m1⟩:=gk;obtain⟨T,rfl⟩:∃T:Nat,t=(T:Int):=⟨t.toNat,by omega⟩
   have T1:(T:Int)<128:=by omega
   have bT:=bd T;unfold addN at hs;simp only[Int.toNat_natCast]at hs;have l2:w2.heap.size<wr.heap.size:=Nat.lt_of_lt_of_le SZ5.out hgr.size;obtain⟨wk,hwk⟩:∃wk,wk=wr.alloc (.cells #[.int .i64 T,.int .i64 m] 152):=⟨_,rfl⟩
   have hK:Below wr.heap.size wr wk:=by rw[hwk];exact (Below.refl _ _).alloc lr_ _
   have bK:Box2 wk wr.heap.size 152 (.int .i64 T) (.int .i64 m):=by rw[hwk];exact Box2.new _ _ _ _
   have k0':=bK.cell0;have k1':=bK.cell1;have HRK:=hd_ (HR.out.later hK);have HGK:=hd_ (grownBy_trans HG.out (grownBy_below (row:=some w2.heap.size) hK));have c0:=HRK.out.cell (i:=T) (by omega);have f0:=HRK.out.free T;generalize numsV (ks.take k)=N at *;obtain⟨V,hV⟩:∃V,V=N.getD T 0:=⟨_,rfl⟩
   rw[<-hV]at c0 bT hs;have kk0:(0:Int)<=(k:Int):=by omega
   have kn':(k:Int)<(n:Int):=by omega
   have wsV:IntKind.i64.wrap (V+m)=V+m:=IntWalk.i64_in _ (by omega);have r0:=cell_regrown c0;have r1:=cell_regrown k0';have r2:=cell_regrown k1';clear hrow hgr bd hV e5 bK
   go_wp2_with fail
   rw[<-hwk];clear hwk;refine wp_region_last (C:=fun w'=>∃p:Regrown,w'=grow (redrawn wk p.d) p.os) 8 _ rfl rfl rfl (by kernel_rfl) (by kernel_rfl) (by kernel_rfl) (by kernel_rfl) (by kernel_rfl) ⟨⟨wk.drawn+1,#[]⟩,by rw[grow_empty];rfl⟩ ?_;simp only[List.take_succ_cons,List.take_zero]
   repeat (refine boxed_step (fun K hK=>?_);go_simp;first|(refine hK _ ?_;clear hK K)|(apply Exists.intro;refine⟨fun _=>?_,hK _ ?_⟩;(fail);clear hK K))
   refine boxed_nil ?_;intro _ hw';obtain⟨⟨dq,oq⟩,hw''⟩:=hw';subst hw'';have hb_w4:=below_regrown wk dq oq;obtain⟨w4,hq_w4⟩:∃x,x=grow (redrawn wk dq) oq:=⟨_,rfl⟩
   rw[<-hq_w4]at hb_w4 ⊢;clear hq_w4;have R4:=HRK.out.later (hb_w4);have d0:=R4.cell (i:=T) (by omega);have d1:=R4.free T;have RS:=hd_ (R4.set T (V+m));have GS:=hd_ (grownBy_trans (grownBy_trans HGK.out (grownBy_below (row:=some w2.heap.size) hb_w4)) (grownBy_setCell w4 ⟨w2.heap.size,T,none⟩ (.int .i64 (V+m))));clear R4 hb_w4 r0 r1 r2 c0 f0 h1 h2 wsV k0' k1' hK;go_wp2;go_roundw
   case rel=>exact⟨k+1,by omega,by go_num,by rw[hs.out];exact RS.out,GS.out⟩
   case measure=>simp[intOf];omega
  ·obtain rfl:k=n:=by omega
   have e1:ks.take k=ks:=List.take_of_length_le (by rw[<-HN.out];exact Nat.le_refl _);rw[e1]at HR;have nb6:=numsV_all KN.out (by rw[<-HN.out];exact n300);have n0:=numsV_0 ks HAT.out;have nl:=numsV_len ks;have Rr:=R5.kept hgr (by simp;have:=LR5.out;omega);have Br:Hid (Below w.heap.size w wr):=hd_ (B5.out.trans (below_grown hgr (by have:=LR5.out;omega) B5.out.size))
   clear hrow hgr e1 HP5 HN hk hlt R5 N5 B5;generalize numsV ks=N at *;have KS:=hd_ (squeezed_at wr N A nl nb6 A0 hab);have lq:(sqz N (A / 8) 63).length=128:=by rw[sqz_len];exact nl
   have q0:(sqz N (A / 8) 63).getD 0 0=0:=(sqz_0 N (A / 8) 63 lr_).trans n0;generalize sqz N (A / 8) 63=Q at *;have KO:Hid (∀W,Calls Tryz.prog 253 #[.agg (arrC Q)] W fun e w'=>∃v,e=.returned v/\OwnP w' W.heap.size v (listV Q)/\Below W.heap.size W w'):=fun W=>knotsOf_at W Q lq q0
   generalize listV Q=ls at *;have SR:Hid (w.heap.size+1+1<wr.heap.size):=Rr.lt;clear nb6 n0 nl lq q0
   go_wp2_with (refine wpList_load_arr rfl _ rfl _ N rfl HR.out ?_)
   refine KS.out.mono ?_;rintro e w6 ⟨rfl,hb6⟩;have R6:=Rr.later hb6;have B6:=hd_ (Br.out.trans (hb6.mono Br.out.size));have S6:=hd_ hb6.size;clear hb6 Rr Br
   go_wp2_with fail
   refine (KO.out _).mono ?_;rintro e w7 ⟨v,rfl,ho7,hb7⟩;obtain⟨xz,cz',rfl,_,_⟩:=ho7.form;have R7:=R6.later hb7;have B7:=hd_ (B6.out.trans (hb7.mono B6.out.size));have z0:=R7.cell0;have z1:=R7.cell1;have f2:=R7.free;have RZ:=R7.set (.slice xz ls.length cz') (.int .i64 A);have hr0:=RZ.cell0;have hr1:=RZ.cell1
   have OZ:=hd_ ((ho7.set2 (R7.not_row (by decide) ho7) (.slice xz ls.length cz') (.int .i64 A)).base (B':=w.heap.size) (by have:=S6.out;have:=SR.out;omega));have BZ:=hd_ (below_set2 (b:=w.heap.size+1+1) B7.out (by omega) (.slice xz ls.length cz') (.int .i64 A));clear ho7 hb7 R7 RZ R6;go_wp2
   exact bodyPost_ret (v:=.tuple #[.agg #[.slice xz ls.length cz',.int .i64 A],.bool true]) (by simp[results,Tryz.results198,go_sem,hr0,hr1]) rfl ⟨_,rfl,by rw[EB.out];exact OZ.out,BZ.out⟩
theorem imRankJoin_no (w:World) (u v:Value) (ps:List Pr) (a:Int) (qs:List Pr) (b:Int) (hp:Prs w u ps) (hq:Prs w v qs) (hno:joinOkK ps a qs b=false):
  Calls Tryz.prog 198 #[.agg #[u,.int .i64 a],.agg #[v,.int .i64 b]] w fun e w'=>e=.returned (.tuple #[.agg #[.slice none 0 0,.int .i64 0],.bool false])/\Below w.heap.size w w':=by
 obtain⟨W,hW⟩:∃W,W=((w.alloc (.cells #[u,.int .i64 a] 44)).alloc (.cells #[v,.int .i64 b] 44)).alloc (.cells #[.slice none 0 0,.int .i64 0] 44):=⟨_,rfl⟩
 have hA:Below w.heap.size w W:=by rw[hW];exact (((Below.refl _ _).alloc lr_ _).alloc (by simp) _).alloc (by simp;omega) _
 have X:Box2 W w.heap.size 44 u (.int .i64 a):=by rw[hW];exact ((Box2.new _ _ _ _).alloc _).alloc _
 have Y:Box2 W (w.heap.size+1) 44 v (.int .i64 b):=by
  have h:=(Box2.new (w.alloc (.cells #[u,.int .i64 a] 44)) 44 v (.int .i64 b)).alloc (.cells #[.slice none 0 0,.int .i64 0] 44);rw[hW];simpa using h
 have R:Box2 W (w.heap.size+1+1) 44 (.slice none 0 0) (.int .i64 0):=by
  have h:=Box2.new ((w.alloc (.cells #[u,.int .i64 a] 44)).alloc (.cells #[v,.int .i64 b] 44)) 44 (.slice none 0 0) (.int .i64 0);rw[hW];simpa using h
 have IA:=hd_ (hp.below hA lr_);have IB:=hd_ (hq.below hA lr_);have KA:=hd_ (imRankOk_at W u ps a IA.out);have KB:Hid (∀W,Prs W v qs->Calls Tryz.prog 110 #[.agg #[v,.int .i64 b]] W fun e w'=>e=.returned (.bool (rankB qs b))/\Below W.heap.size W w'):=fun W h=>imRankOk_at W v qs b h
 obtain⟨x,c,rfl,_,_⟩:=hp.form;obtain⟨y,d,rfl,_,_⟩:=hq.form;obtain⟨na,hna⟩:∃n,n=ps.length:=⟨_,rfl⟩
 obtain⟨nb,hnb⟩:∃n,n=qs.length:=⟨_,rfl⟩
 rw[<-hna]at KA hW X IA;rw[<-hnb]at KB hW Y IB;rw[<-hna, <-hnb];have HA:=hd_ hA;have x0:=X.cell0;have x1:=X.cell1;have y0:=Y.cell0;have y1:=Y.cell1;have CASES:Hid (rankB ps a=true->rankB qs b=true->(0<=a/\a<=2000)/\(0<=b/\b<=2000)/\2000<a+b):=fun h1 h2=>by
  unfold joinOkK at hno;rw[h1,h2]at hno;simp at hno;exact⟨((rankB_iff _ _).1 h1).1,((rankB_iff _ _).1 h2).1,hno⟩
 have HW:=hd_ hW;have END:Hid (∀w1,Below W.heap.size W w1->Box2 w1 (w.heap.size+1+1) 44 (.slice none 0 0) (.int .i64 0)/\Below w.heap.size w ((w1.setCell ⟨w.heap.size+1+1,0,none⟩ (.slice none 0 0)).setCell ⟨w.heap.size+1+1,1,none⟩ (.int .i64 0))):=fun w1 h=>
  ⟨R.later h,below_set2 (b:=w.heap.size+1+1) (hA.trans (h.mono hA.size)) (by omega) (.slice none 0 0) (.int .i64 0)⟩
 clear hp hq hno hA hna hnb hW R;cases ka:rankB ps a with
 |false=>
  rw[ka]at KA;clear CASES ka;go_enter Tryz.func198,Tryz.ntmps198
  go_wp2_with fail
  rw[<-HW.out]
  go_wp2_with fail
  refine KA.out.mono ?_;rintro e w1 ⟨rfl,hb1⟩;obtain⟨R1,hl⟩:=END.out w1 hb1;have BZ:=hd_ hl;have z0:=R1.cell0;have z1:=R1.cell1;have f2:=R1.free;have RZ:=R1.set (.slice none 0 0) (.int .i64 0);have hr0:=RZ.cell0;have hr1:=RZ.cell1;clear R1 RZ x0 x1 y0 y1 X Y hb1 hl;go_wp2
  exact bodyPost_ret (v:=.tuple #[.agg #[.slice none 0 0,.int .i64 0],.bool false]) (by simp[results,Tryz.results198,go_sem,hr0,hr1]) rfl ⟨rfl,BZ.out⟩
 |true=>
  rw[ka]at KA;cases kb:rankB qs b with
  |false=>
   rw[kb]at KB;clear CASES ka kb;go_enter Tryz.func198,Tryz.ntmps198
   go_wp2_with fail
   rw[<-HW.out]
   go_wp2_with fail
   refine KA.out.mono ?_;rintro e w1 ⟨rfl,hb1⟩;have X1:=X.later hb1;have Y1:=Y.later hb1;have IB1:=hd_ (IB.out.below hb1 lr_);have HB1:=hd_ hb1;clear hb1 X Y x0 x1 y0 y1;have x0:=X1.cell0;have x1:=X1.cell1;have y0:=Y1.cell0;have y1:=Y1.cell1
   go_wp2_with fail
   refine (KB.out _ IB1.out).mono ?_;rintro e w2 ⟨rfl,hb2⟩;obtain⟨R1,hl⟩:=END.out w2 (HB1.out.trans (hb2.mono HB1.out.size));have BZ:=hd_ hl;have z0:=R1.cell0;have z1:=R1.cell1;have f2:=R1.free;have RZ:=R1.set (.slice none 0 0) (.int .i64 0);have hr0:=RZ.cell0;have hr1:=RZ.cell1;clear R1 RZ x0 x1 y0 y1 X1 Y1 hb2 hl;go_wp2
   exact bodyPost_ret (v:=.tuple #[.agg #[.slice none 0 0,.int .i64 0],.bool false]) (by simp[results,Tryz.results198,go_sem,hr0,hr1]) rfl ⟨rfl,BZ.out⟩
  |true=>
   rw[kb]at KB;obtain⟨⟨a0,a1⟩,⟨b0,b1⟩,hs⟩:=CASES.out ka kb;have ws:IntKind.i64.wrap (a+b)=a+b:=IntWalk.i64_in _ (by omega);have hgt:decide ((2000:Int)<a+b)=true:=decide_eq_true hs;clear CASES ka kb;go_enter Tryz.func198,Tryz.ntmps198
   go_wp2_with fail
   rw[<-HW.out]
   go_wp2_with fail
   refine KA.out.mono ?_;rintro e w1 ⟨rfl,hb1⟩;have X1:=X.later hb1;have Y1:=Y.later hb1;have IB1:=hd_ (IB.out.below hb1 lr_);have HB1:=hd_ hb1;clear hb1 X Y x0 x1 y0 y1;have x0:=X1.cell0;have x1:=X1.cell1;have y0:=Y1.cell0;have y1:=Y1.cell1
   go_wp2_with fail
   refine (KB.out _ IB1.out).mono ?_;rintro e w2 ⟨rfl,hb2⟩;obtain⟨R1,hl⟩:=END.out w2 (HB1.out.trans (hb2.mono HB1.out.size));have X2:=X1.later hb2;have Y2:=Y1.later hb2;have BZ:=hd_ hl;have z0:=R1.cell0;have z1:=R1.cell1;have f2:=R1.free;have RZ:=R1.set (.slice none 0 0) (.int .i64 0);have hr0:=RZ.cell0;have hr1:=RZ.cell1;clear R1 RZ x0 x1 y0 y1 X1 Y1 hb2 hl;have x1:=X2.cell1;have y1:=Y2.cell1
   clear X2 Y2;go_wp2;exact bodyPost_ret (v:=.tuple #[.agg #[.slice none 0 0,.int .i64 0],.bool false]) (by simp[results,Tryz.results198,go_sem,hr0,hr1]) rfl ⟨rfl,BZ.out⟩
theorem imRankJoin_at (w:World) (u v:Value) (ps:List Pr) (a:Int) (qs:List Pr) (b:Int) (hp:Prs w u ps) (hq:Prs w v qs):
  Calls Tryz.prog 198 #[.agg #[u,.int .i64 a],.agg #[v,.int .i64 b]] w fun e w'=>∃x,e=.returned (.tuple #[.agg #[x,.int .i64 (joinK ps a qs b).2],.bool (joinOkK ps a qs b)])/\OwnP w' w.heap.size x (joinK ps a qs b).1/\Below w.heap.size w w':=by
 cases h:joinOkK ps a qs b with
 |false=>
  rw[joinK_no h];exact (imRankJoin_no w u v ps a qs b hp hq h).mono fun e w' ⟨he,hb⟩=>⟨_,he,OwnP.nil _ _,hb⟩
 |true=>
  rw[joinK_yes h];obtain⟨k1,k2,k3⟩:=joinOkK_yes h;exact imRankJoin_yes w u v ps a qs b hp hq k1 k2 k3
theorem add_join (ps:List Pr) (a t:Int) (h:0<=t/\t<=63):joinOkK ps a [(64+t,1)] 1=addOkK ps a t/\joinK ps a [(64+t,1)] 1=addK ps a t:=by
 have e:joinOkK ps a [(64+t,1)] 1=addOkK ps a t:=by
  unfold joinOkK addOkK;rw[(rankB_iff _ _).2 (one_ok t h)];have h1:decide (0<=t/\t<=63)=true:=decide_eq_true h;have h2:decide (a+1<=2000)=decide (a<2000):=decide_eq_decide.2 ⟨fun _=>by omega,fun _=>by omega⟩;rw[h1,h2]
 refine⟨e,?_⟩;unfold joinK addK;rw[e,add_both]
theorem imRankAdd_at (w:World) (u:Value) (ps:List Pr) (all t:Int) (hp:Prs w u ps):
  Calls Tryz.prog 234 #[.agg #[u,.int .i64 all],.int .i64 t] w fun e w'=>∃v,e=.returned (.tuple #[.agg #[v,.int .i64 (addK ps all t).2],.bool (addOkK ps all t)])/\OwnP w' w.heap.size v (addK ps all t).1/\Below w.heap.size w w':=by
 obtain⟨W,hW⟩:∃W,W=(w.alloc (.cells #[u,.int .i64 all] 44)).alloc (.cells #[.slice none 0 0,.int .i64 0] 44):=⟨_,rfl⟩
 have hA:Below w.heap.size w W:=by rw[hW];exact ((Below.refl _ _).alloc lr_ _).alloc (by simp) _
 have sW:W.heap.size=w.heap.size+2:=by rw[hW];simp
 have X:Box2 W w.heap.size 44 u (.int .i64 all):=by rw[hW];exact (Box2.new _ _ _ _).alloc _
 have R:Box2 W (w.heap.size+1) 44 (.slice none 0 0) (.int .i64 0):=by
  have h:=Box2.new (w.alloc (.cells #[u,.int .i64 all] 44)) 44 (.slice none 0 0) (.int .i64 0);rw[hW];simpa using h
 have IA:=hd_ (hp.below hA lr_);obtain⟨x,c,rfl,_,_⟩:=hp.form;obtain⟨n,hn⟩:∃n,n=ps.length:=⟨_,rfl⟩
 rw[<-hn]at hW X IA ⊢;have HN:=hd_ hn;have HA:=hd_ hA;have HS:=hd_ sW;have x0:=X.cell0;have x1:=X.cell1
 by_cases ht:0<=t/\t<=63
 ·have AJ:=add_join ps all t ht
  rw[<-AJ.1, <-AJ.2]
  -- one thing,counted once
  obtain⟨W1,hW1⟩:∃W1,W1=W.alloc (.cells #[.int .i64 (64+t),.int .i64 1] 152):=⟨_,rfl⟩
  have hA1:Below W.heap.size W W1:=by rw[hW1];exact (Below.refl _ _).alloc lr_ _
  have O1:Prs W1 (.slice (some ⟨W.heap.size,0,none⟩) 1 1) [(64+t,1)]:=by
   refine .inr ⟨W.heap.size,0,1,rfl,by simp,by simp[maxLen],by rw[hW1];simp,fun i hi=>?_⟩;obtain rfl:i=0:=by simpa using hi
   rw[hW1];simp[pr]
  have KJ:=hd_ (imRankJoin_at W1 _ _ ps all [(64+t,1)] 1 (IA.out.below hA1 lr_) O1);have R1:=R.later hA1;have B1:=hd_ (HA.out.trans (hA1.mono HA.out.size));have S1:=hd_ hA1.size;generalize joinK ps all [(64+t,1)] 1=J at *;generalize joinOkK ps all [(64+t,1)] 1=ok at *;obtain⟨js,ja⟩:=J;simp only at KJ ⊢;have wt:IntKind.i64.wrap (64+t)=64+t:=IntWalk.i64_in _ (by omega)
  have KT:Hid (∀W,Calls Tryz.prog 106 #[.int .i64 t] W fun e w'=>e=.returned (.bool true)/\W=w'):=fun W=>isThing_yes t W ht.1 (by omega)
  have HJ1:=hd_ (OwnP.base (B':=w.heap.size) (w:=W) (B:=w.heap.size+1) (OwnP.nil _ _) (Nat.le_succ _));clear hp hA sW hn hA1 O1 X R AJ HJ1 ht;go_enter Tryz.func234,Tryz.ntmps234
  go_wp2_with fail
  rw[<-hW];clear hW
  go_wp2_with fail
  refine (KT.out _).mono ?_;rintro e w' ⟨rfl,rfl⟩
  go_wp2_with fail
  rw[<-hW1];clear hW1;refine KJ.out.mono ?_;rintro e w2 ⟨v,rfl,ho,hb⟩;obtain⟨xz,cz,rfl,_,_⟩:=ho.form;have R2:=R1.later hb;have B2:=hd_ (B1.out.trans (hb.mono B1.out.size));have z0:=R2.cell0;have z1:=R2.cell1;have f2:=R2.free;have RZ:=R2.set (.slice xz js.length cz) (.int .i64 ja);have hr0:=RZ.cell0;have hr1:=RZ.cell1
  have OZ:=hd_ ((ho.set2 (R2.not_row (by decide) ho) (.slice xz js.length cz) (.int .i64 ja)).base (B':=w.heap.size) (by have:=HS.out;have:=S1.out;omega));have BZ:=hd_ (below_set2 (b:=w.heap.size+1) B2.out (Nat.le_succ _) (.slice xz js.length cz) (.int .i64 ja));clear ho hb R2 RZ R1 x0 x1;go_wp2
  exact bodyPost_ret (v:=.tuple #[.agg #[.slice xz js.length cz,.int .i64 ja],.bool ok]) (by simp[results,Tryz.results234,go_sem,hr0,hr1]) rfl ⟨_,rfl,OZ.out,BZ.out⟩
 ·have hno:addOkK ps all t=false:=by unfold addOkK;simp[ht]
  rw[addK_no hno,hno];have KT:Hid (∀W,Calls Tryz.prog 106 #[.int .i64 t] W fun e w'=>e=.returned (.bool false)/\W=w'):=fun W=>isThing_no t W (by omega)
  have BZ:=hd_ (below_set2 (b:=w.heap.size+1) HA.out (Nat.le_succ _) (.slice none 0 0) (.int .i64 0));have z0:=R.cell0;have z1:=R.cell1;have f2:=R.free;have RZ:=R.set (.slice none 0 0) (.int .i64 0);have hr0:=RZ.cell0;have hr1:=RZ.cell1;clear hp hA sW hn X R RZ x0 x1 ht hno;go_enter Tryz.func234,Tryz.ntmps234
  go_wp2_with fail
  rw[<-hW];clear hW
  go_wp2_with fail
  refine (KT.out _).mono ?_;rintro e w' ⟨rfl,rfl⟩;go_wp2;exact bodyPost_ret (v:=.tuple #[.agg #[.slice none 0 0,.int .i64 0],.bool false]) (by simp[results,Tryz.results234,go_sem,hr0,hr1]) rfl ⟨_,rfl,OwnP.nil _ _,BZ.out⟩
end Go.Proofs.YtcblbdpdbggkbaaGreat.K
namespace Go.Proofs.YtcblbdpdbggkbaaGreat.K
end Go.Proofs.YtcblbdpdbggkbaaGreat.K
namespace Go.Proofs.YtcblbdpdbggkbaaGreat.K
open Go.RowKit Go.Sort
end Go.Proofs.YtcblbdpdbggkbaaGreat.K
namespace Go.Proofs.YtcblbdpdbggkbaaGreat.K
theorem joinK_say {ps qs:List Pr} {a b:Int} (h:joinOkK ps a qs b=true):
  RankP ps a/\RankP qs b/\joinOkK qs b ps a=true/\joinK qs b ps a=joinK ps a qs b/\(joinK ps a qs b).2=a+b/\RankP (joinK ps a qs b).1 (joinK ps a qs b).2/\
   ∀t:Int,leastP (joinK ps a qs b).1 t<=leastP ps t+leastP qs t/\mostP ps t+mostP qs t<=mostP (joinK ps a qs b).1 t:=by
 obtain⟨ka,kb,hs⟩:=joinOkK_yes h;have PA:=(rankB_iff _ _).1 ka;have PB:=(rankB_iff _ _).1 kb;have hb:joinOkK qs b ps a=true:=by
  unfold joinOkK;rw[ka,kb];simp;omega
 rw[joinK_yes h,joinK_yes hb];refine⟨PA,PB,hb,?_,rfl,both_ok PA PB hs,fun t=>⟨both_least PA PB t,both_most PA PB t⟩⟩;rw[both_comm PB PA,Int.add_comm]
theorem addK_say {ps:List Pr} {a t:Int} (h:addOkK ps a t=true):
  RankP ps a/\(0<=t/\t<=63)/\(addK ps a t).2=a+1/\RankP (addK ps a t).1 (addK ps a t).2/\
   ∀i:Int,leastP (addK ps a t).1 i<=leastP ps i+(if t<=i then 1 else 0)/\mostP ps i+(if t<=i then 1 else 0)<=mostP (addK ps a t).1 i:=by
 obtain⟨ka,ht,hs⟩:=addOkK_yes h;have J:=add_join ps a t ht;rw[<-J.1]at h;obtain⟨p1,p2,p3,p4,p5,p6,p7⟩:=joinK_say h;rw[<-J.2];refine⟨p1,ht,p5,p6,fun i=>?_⟩;have:=p7 i;rw[one_least t i ht,one_most t i ht]at this;exact this
end Go.Proofs.YtcblbdpdbggkbaaGreat.K
set_option linter.unusedVariables false
namespace Go.Proofs.YtcblbdpdbggkbaaGreat
open Go.RowKit Go.Sort
structure Sm where
 rs:List (List Int)
 zs:List Int
 ps:List T.Pr
 lo:Int
 al:Int
 ks:List K.Pr
 ka:Int
def noSm:Sm:=⟨[],[],[],0,0,[],0⟩
def newSm:Sm:=⟨zero3,[],[],0,0,[],0⟩
def okS (s:Sm):Bool:=okB s.rs&&(fewB s.zs&&(T.topB s.ps s.lo s.al&&(K.rankB s.ks s.ka&&(decide (allV s.rs=s.al)&&(decide (s.al=s.ka)&&decide (0<s.zs.length↔0<s.al))))))
structure Ok (s:Sm):Prop where
 r:okB s.rs=true
 f:fewB s.zs=true
 t:T.topB s.ps s.lo s.al=true
 k:K.rankB s.ks s.ka=true
 ra:allV s.rs=s.al
 ta:s.al=s.ka
 fa:0<s.zs.length↔0<s.al
theorem okS_iff (s:Sm):okS s=true↔Ok s:=by
 unfold okS;simp only[Bool.and_eq_true,decide_eq_true_eq];exact⟨fun⟨a,b,c,d,e,f,g⟩=>⟨a,b,c,d,e,f,g⟩,fun⟨a,b,c,d,e,f,g⟩=>⟨a,b,c,d,e,f,g⟩⟩
theorem okS_no:okS noSm=false:=rfl
theorem okS_new:okS newSm=true:=by decide+kernel
theorem Ok.al0 {s:Sm} (h:Ok s):0<=s.al/\s.al<=2000:=by
 have:=((T.topB_iff _ _ _).1 h.t).1;exact this.2.2
def addOkS (s:Sm) (t:Int):Bool:=okS s&&(decide (0<=t/\t<=63)&&decide (s.al<2000))
def addS0 (s:Sm) (t:Int):Sm:=⟨addV s.rs t 1,addF s.zs t,(T.addT s.ps s.lo s.al t).1,(T.addT s.ps s.lo s.al t).2.1,(T.addT s.ps s.lo s.al t).2.2,(K.addK s.ks s.ka t).1,(K.addK s.ks s.ka t).2⟩
def addS (s:Sm) (t:Int):Sm:=if addOkS s t=true then addS0 s t else noSm
theorem addS_no {s:Sm} {t:Int} (h:addOkS s t=false):addS s t=noSm:=if_neg (by rw[h];simp)
theorem addS_yes {s:Sm} {t:Int} (h:addOkS s t=true):addS s t=addS0 s t:=if_pos h
theorem addOkS_iff (s:Sm) (t:Int):addOkS s t=true↔Ok s/\(0<=t/\t<=63)/\s.al<2000:=by
 unfold addOkS;simp only[Bool.and_eq_true,decide_eq_true_eq,okS_iff]
structure AddAll (s:Sm) (u:Int):Prop where
 ok:Ok s
 thing:0<=u/\u<=63
 room:s.al<2000
 r:addB s.rs u 1=true
 f:addOkF s.zs u=true
 t:T.addOk s.ps s.lo s.al u=true
 k:K.addOkK s.ks s.ka u=true
theorem addAll {s:Sm} {t:Int} (h:addOkS s t=true):AddAll s t:=by
 obtain⟨ok,ht,hr⟩:=(addOkS_iff s t).1 h;have ra:=ok.ra;have ta:=ok.ta;refine⟨ok,ht,hr,(addB_iff _ _ _).2 ⟨ok.r,ht.1,by omega,by omega,by omega⟩,?_,?_,?_⟩
 ·unfold addOkF inThings
  rw[ok.f,decide_eq_true (by omega)];rfl
 ·unfold T.addOk T.isT
  rw[ok.t,decide_eq_true (by omega),decide_eq_true (by omega)];rfl
 ·unfold K.addOkK
  rw[ok.k,decide_eq_true (by omega),decide_eq_true (by omega)];rfl
theorem addS_ok {s:Sm} {t:Int} (h:addOkS s t=true):Ok (addS s t)/\(addS s t).al=s.al+1:=by
 have A:=addAll h;have R:=okB_add A.r;have F:=add_again A.f;have M:=T.addMore A.t;have S:=K.addK_say A.k;have f0:0<(addF s.zs t).length:=by
  apply Classical.byContradiction;intro q;have e:addF s.zs t=[]:=List.eq_nil_of_length_eq_zero (by omega);rw[addF_yes A.f,put_join (few_asc A.ok.f)]at e;have:markV t ∈ unionL s.zs [markV t]:=(union_mem _ _ _).2 (.inr (by simp));unfold joinV6 at e;have e':unionL s.zs [markV t]=[]:=by
   cases hq:unionL s.zs [markV t]with
   |nil=>rfl
   |cons x l=>rw[hq]at e;simp at e
  rw[e']at this;simp at this
 rw[addS_yes h];have a0:=A.ok.al0;refine⟨⟨R.1,F.1,M.top,(K.rankB_iff _ _).2 S.2.2.2.1,?_,?_,?_⟩,M.na'⟩
 ·show allV (addV s.rs t 1)=(T.addT s.ps s.lo s.al t).2.2
  rw[R.2,M.na',A.ok.ra]
 ·show (T.addT s.ps s.lo s.al t).2.2=(K.addK s.ks s.ka t).2
  rw[M.na',S.2.2.1,A.ok.ta]
 ·show 0<(addF s.zs t).length↔0<(T.addT s.ps s.lo s.al t).2.2
  rw[M.na'];exact⟨fun _=>by omega,fun _=>f0⟩
def joinOkS (a b:Sm):Bool:=okS a&&(okS b&&decide (a.al+b.al<=2000))
def joinS0 (a b:Sm):Sm:=⟨joinV a.rs b.rs,joinF a.zs b.zs,(T.joinT a.ps a.lo a.al b.ps b.lo b.al).1,(T.joinT a.ps a.lo a.al b.ps b.lo b.al).2.1,(T.joinT a.ps a.lo a.al b.ps b.lo b.al).2.2,(K.joinK a.ks a.ka b.ks b.ka).1,(K.joinK a.ks a.ka b.ks b.ka).2⟩
def joinS (a b:Sm):Sm:=if joinOkS a b=true then joinS0 a b else noSm
theorem joinS_no {a b:Sm} (h:joinOkS a b=false):joinS a b=noSm:=if_neg (by rw[h];simp)
theorem joinS_yes {a b:Sm} (h:joinOkS a b=true):joinS a b=joinS0 a b:=if_pos h
theorem joinOkS_iff (a b:Sm):joinOkS a b=true↔Ok a/\Ok b/\a.al+b.al<=2000:=by
 unfold joinOkS;simp only[Bool.and_eq_true,decide_eq_true_eq,okS_iff]
structure JoinAll (a b:Sm):Prop where
 oka:Ok a
 okb:Ok b
 room:a.al+b.al<=2000
 r:joinB a.rs b.rs=true
 f:joinOkF a.zs b.zs=true
 t:T.joinOk a.ps a.lo a.al b.ps b.lo b.al=true
 k:K.joinOkK a.ks a.ka b.ks b.ka=true
theorem joinAll {a b:Sm} (h:joinOkS a b=true):JoinAll a b:=by
 obtain⟨oa,ob,hr⟩:=(joinOkS_iff a b).1 h;have:=oa.ra;have:=oa.ta;have:=ob.ra;have:=ob.ta;refine⟨oa,ob,hr,(joinB_iff _ _).2 ⟨oa.r,ob.r,by omega⟩,?_,?_,?_⟩
 ·unfold joinOkF
  rw[oa.f,ob.f];rfl
 ·unfold T.joinOk
  rw[oa.t,ob.t,decide_eq_true (by omega)];rfl
 ·unfold K.joinOkK
  rw[oa.k,ob.k,decide_eq_true (by omega)];rfl
def oneS (t:Int):Sm:=addS newSm t
theorem one_addOk (t:Int):addOkS newSm t=decide (0<=t/\t<=63):=by
 unfold addOkS;rw[okS_new];show (true&&(_&&decide ((0:Int)<2000)))=_
 simp
theorem one_rank:∀t:Fin 64,K.addK [] 0 (t.val:Int)=([(64+(t.val:Int),1)],1):=by decide+kernel
theorem one_top:∀t:Fin 64,T.addT [] 0 0 (t.val:Int)=([((t.val:Int),1)],0,1):=by decide+kernel
theorem one_few:∀t:Fin 64,addF [] (t.val:Int)=[markV (t.val:Int)]:=by decide+kernel
theorem one_rows:∀t:Fin 64,addV zero3 (t.val:Int) 1=oneV (t.val:Int) 1:=by decide+kernel
theorem one_is {t:Int} (h0:0<=t) (h1:t<=63):oneS t=⟨oneV t 1,[markV t],[(t,1)],0,1,[(64+t,1)],1⟩:=by
 obtain⟨n,rfl⟩:=Int.eq_ofNat_of_zero_le h0;have hn:n<64:=by omega
 have a:=one_rank ⟨n,hn⟩;have b:=one_top ⟨n,hn⟩;have c:=one_few ⟨n,hn⟩;have d:=one_rows ⟨n,hn⟩;simp only at a b c d;unfold oneS;rw[addS_yes (by rw[one_addOk];simp;omega)];unfold addS0 newSm;simp only[a,b,c,d]
theorem one_no {t:Int} (h:¬(0<=t/\t<=63)):oneS t=noSm:=addS_no (by rw[one_addOk];exact decide_eq_false h)
theorem join_oneOk (s:Sm) (t:Int):joinOkS s (oneS t)=addOkS s t:=by
 by_cases h:0<=t/\t<=63
 ·have o:=(addS_ok (s:=newSm) (t:=t) (by rw[one_addOk];exact decide_eq_true h))
  have e:(oneS t).al=1:=o.2;unfold joinOkS addOkS;rw[(okS_iff (oneS t)).2 o.1,e,decide_eq_true h,show decide (s.al+1<=2000)=decide (s.al<2000)from decide_eq_decide.2 ⟨fun q=>by omega,fun q=>by omega⟩]
 ·rw[one_no h]
  unfold joinOkS addOkS;rw[okS_no,decide_eq_false h];cases okS s<;>rfl
theorem joinS_one (s:Sm) (t:Int):joinS s (oneS t)=addS s t:=by
 by_cases h:addOkS s t=true
 ·have A:=addAll h
  rw[addS_yes h,joinS_yes (by rw[join_oneOk];exact h),one_is A.thing.1 A.thing.2];unfold joinS0 addS0;simp only;rw[T.joinT_one,joinF_add, <-addV_join A.r,(K.add_join s.ks s.ka t A.thing).2]
 ·rw[Bool.not_eq_true]at h
  rw[addS_no h,joinS_no (by rw[join_oneOk];exact h)]
def upS (l:List Int):Sm:=l.foldl addS newSm
theorem upS_snoc (l:List Int) (t:Int):upS (l++[t])=addS (upS l) t:=by simp[upS]
theorem add_noSm (t:Int):addS noSm t=noSm:=addS_no rfl
theorem up_noSm (l:List Int):l.foldl addS noSm=noSm:=by
 induction l with
 |nil=>rfl
 |cons t l ih=>simp only[List.foldl_cons,add_noSm,ih]
theorem up_stop {l:List Int} {k:Nat} (hk:k<l.length) (h:addOkS (upS (l.take k)) (l.getD k 0)=false):upS l=noSm:=by
 have e:l=l.take k++(l.getD k 0::l.drop (k+1)):=by
  conv=>lhs;rw[<-List.take_append_drop k l]
  rw[List.drop_eq_getElem_cons hk];simp[hk]
 rw[e];unfold upS;rw[List.foldl_append];show List.foldl addS (addS (upS (l.take k)) (l.getD k 0)) _=_
 rw[addS_no h,up_noSm]
theorem up_take {l:List Int} {k:Nat} (hk:k<l.length):upS (l.take (k+1))=addS (upS (l.take k)) (l.getD k 0):=by
 rw[List.take_succ_eq_append_getElem hk,upS_snoc];simp[hk]
theorem up_ind {P:List Int->Sm->Prop} (h0:P [] newSm) (h1:∀l s t,P l s->AddAll s t->P (l++[t]) (addS0 s t)):∀l:List Int,okS (upS l)=true->P l (upS l):=by
 have key:∀n (l:List Int),l.length=n->okS (upS l)=true->P l (upS l):=by
  intro n
  induction n with
  |zero=>intro l hl _;obtain rfl:=List.eq_nil_of_length_eq_zero hl;exact h0
  |succ n ih=>
   intro l hl ok;have e:l=l.take n++[l.getD n 0]:=by
    conv=>lhs;rw[<-List.take_of_length_le (Nat.le_of_eq hl)]
    rw[List.take_succ_eq_append_getElem (by omega)];simp[show n<l.length by omega]
   rw[e]at ok ⊢;rw[upS_snoc]at ok ⊢
   by_cases ha:addOkS (upS (l.take n)) (l.getD n 0)=true
   ·have A:=addAll ha
    rw[addS_yes ha];exact h1 _ _ _ (ih (l.take n) (by simp;omega) ((okS_iff _).2 A.ok)) A
   ·rw[Bool.not_eq_true]at ha
    rw[addS_no ha]at ok;exact absurd ok (by rw[okS_no];simp)
 exact fun l=>key l.length l rfl
theorem okS_up {l:List Int} (h:okS (upS l)=true):(upS l).al=l.length/\∀t ∈ l,0<=t/\t<=63:=by
 refine up_ind (P:=fun l s=>s.al=l.length/\∀t ∈ l,0<=t/\t<=63) ⟨rfl,by simp⟩ (fun l s t hp A=>⟨?_,fun u hu=>?_⟩) l h
 ·have:=(addS_ok (s:=s) (t:=t) ((addOkS_iff _ _).2 ⟨A.ok,A.thing,A.room⟩))
  rw[addS_yes ((addOkS_iff _ _).2 ⟨A.ok,A.thing,A.room⟩)]at this;rw[this.2,hp.1];simp
 ·rcases List.mem_append.1 hu with q|q
  ·exact hp.2 u q
  ·rw[List.mem_singleton.1 q];exact A.thing
theorem up_fine {l:List Int} (h:∀t ∈ l,0<=t/\t<=63) (hl:l.length<=2000):okS (upS l)=true:=by
 have key:∀n,n<=l.length->okS (upS (l.take n))=true:=by
  intro n
  induction n with
  |zero=>intro _;rw[List.take_zero];exact okS_new
  |succ n ih=>
   intro hn;have ok:=ih (by omega);rw[up_take (by omega)];have g:=h (l.getD n 0) (getD_mem l n 0 (by omega));have e:=(okS_up ok).1;rw[List.length_take]at e;have ha:addOkS (upS (l.take n)) (l.getD n 0)=true:=(addOkS_iff _ _).2 ⟨(okS_iff _).1 ok,g,by omega⟩;exact (okS_iff _).2 (addS_ok ha).1
 have:=key l.length lr_;rwa[List.take_length]at this
end Go.Proofs.YtcblbdpdbggkbaaGreat
set_option linter.unusedVariables false
set_option linter.unusedSectionVars false
set_option linter.unusedSimpArgs false
namespace Go.Proofs.YtcblbdpdbggkbaaGreat.N
end Go.Proofs.YtcblbdpdbggkbaaGreat.N
namespace Go.Proofs.YtcblbdpdbggkbaaGreat
open Go.RowKit Go.Sort
abbrev Rep (α:Type):=World->List Value->α->List Nat->Prop
structure Rep.Frame {α:Type} (R:Rep α):Prop where
 lt:∀{w cs a fp},R w cs a fp->∀b ∈ fp,b<w.heap.size
 keep:∀{w w' cs a fp},R w cs a fp->(∀b ∈ fp,w'.heap[b]? =w.heap[b]?)->w.heap.size<=w'.heap.size->R w' cs a fp
theorem Rep.Frame.below {α:Type} {R:Rep α} (F:R.Frame) {w w':World} {cs:List Value} {a:α} {fp:List Nat} (h:R w cs a fp) {B:Nat} (hb:Below B w w') (hB:w.heap.size<=B):R w' cs a fp:=
 F.keep h (fun b hm=>hb.block b (Nat.lt_of_lt_of_le (F.lt h b hm) hB)) hb.size
def intR:Rep Int:=fun _ cs z fp=>cs=[.int .i64 z]/\fp=[]
def andR {α β:Type} (A:Rep α) (B:Rep β):Rep (α × β):=fun w cs p fp=>∃c1 c2 f1 f2,cs=c1++c2/\fp=f1++f2/\A w c1 p.1 f1/\B w c2 p.2 f2
def viaR {α β:Type} (A:Rep α) (f:β->α):Rep β:=fun w cs b fp=>A w cs (f b) fp
def slcR {α:Type} (e:TypeId) (size:Nat) (A:Rep α):Rep (List α):=fun w cs xs fp=>
 ∃(v:Value) (c:Nat->List Value) (f:Nat->List Nat),cs=[v]/\w.ownsRow 0 e size v xs.length ((List.range xs.length).map c).flatten/\(∀i,i<xs.length->(c i).length=size)/\(∀i a,xs[i]? =some a->A w (c i) a (f i))/\
  fp=v.ownBlock.toList++((List.range xs.length).map f).flatten
theorem intR_frame:intR.Frame:=⟨fun h b hm=>absurd hm (by rw[h.2];exact List.not_mem_nil),fun h _ _=>h⟩
theorem andR_frame {α β:Type} {A:Rep α} {B:Rep β} (FA:A.Frame) (FB:B.Frame):(andR A B).Frame:=by
 refine⟨?_,?_⟩
 ·rintro w cs a fp ⟨c1,c2,f1,f2,rfl,rfl,h1,h2⟩ b hm
  rcases List.mem_append.1 hm with hm|hm
  ·exact FA.lt h1 b hm
  ·exact FB.lt h2 b hm
 ·rintro w w' cs a fp ⟨c1,c2,f1,f2,rfl,rfl,h1,h2⟩ hk hs
  exact⟨c1,c2,f1,f2,rfl,rfl,FA.keep h1 (fun b hm=>hk b (List.mem_append_left _ hm)) hs,FB.keep h2 (fun b hm=>hk b (List.mem_append_right _ hm)) hs⟩
theorem viaR_frame {α β:Type} {A:Rep α} (FA:A.Frame) (f:β->α):(viaR A f).Frame:=⟨fun h=>FA.lt h,fun h hk hs=>FA.keep h hk hs⟩
theorem ownsRow_same {w w':World} {B:Nat} {e:TypeId} {size n:Nat} {v:Value} {xs:List Value} (h:w.ownsRow B e size v n xs) (hk:∀g,v.ownBlock=some g->w'.heap[g]? =w.heap[g]?):w'.ownsRow B e size v n xs:=by
 refine⟨h.1,?_⟩;rcases h.2 with hn|⟨g,cap,cur,rfl,hb,hg,r⟩
 ·exact .inl hn
 ·exact .inr ⟨g,cap,cur,rfl,hb,(hk g rfl).trans hg,r⟩
theorem mem_fps {n:Nat} {f:Nat->List Nat} {b:Nat} (h:b ∈ ((List.range n).map f).flatten):∃i,i<n/\b ∈ f i:=by
 obtain⟨l,hl,hb⟩:=List.mem_flatten.1 h;obtain⟨i,hi,rfl⟩:=List.mem_map.1 hl;exact⟨i,List.mem_range.1 hi,hb⟩
theorem mem_fps_of {n:Nat} {f:Nat->List Nat} {b i:Nat} (hi:i<n) (h:b ∈ f i):b ∈ ((List.range n).map f).flatten:=
 List.mem_flatten.2 ⟨f i,List.mem_map.2 ⟨i,List.mem_range.2 hi,rfl⟩,h⟩
theorem slcR_frame {α:Type} {A:Rep α} (FA:A.Frame) (e:TypeId) (size:Nat):(slcR e size A).Frame:=by
 refine⟨?_,?_⟩
 ·rintro w cs xs fp ⟨v,c,f,rfl,ho,hl,ha,rfl⟩ b hm
  rcases List.mem_append.1 hm with hm|hm
  ·exact (ho.lt b (by cases hv:v.ownBlock<;>simp[hv]at hm ⊢;exact hm.symm)).2
  ·obtain⟨i,hi,hb⟩:=mem_fps hm
   exact FA.lt (ha i _ (List.getElem?_eq_getElem hi)) b hb
 ·rintro w w' cs xs fp ⟨v,c,f,rfl,ho,hl,ha,rfl⟩ hk hs
  refine⟨v,c,f,rfl,ownsRow_same ho (fun g hg=>hk g (List.mem_append_left _ (by simp[hg]))),hl,fun i a hi=>FA.keep (ha i a hi) (fun b hm=>hk b (List.mem_append_right _ (mem_fps_of ?_ hm))) hs,rfl⟩;exact (List.getElem?_eq_some_iff.1 hi).1
theorem flat_at {c:Nat->List Value} {size n i k:Nat} (hl:∀i,i<n->(c i).length=size) (hi:i<n) (hk:k<size):((List.range n).map c).flatten[i * size+k]? =(c i)[k]? :=by
 induction n with
 |zero=>omega
 |succ n ih=>
  have hn:((List.range n).map c).flatten.length=n * size:=by
   clear ih hi
   induction n with
   |zero=>simp
   |succ m im=>
    rw[List.range_succ,List.map_append,List.flatten_append,List.length_append,im (fun i hi=>hl i (by omega))];simp[hl m (by omega),Nat.succ_mul]
  rw[List.range_succ,List.map_append,List.flatten_append]
  by_cases h:i<n
  ·rw[List.getElem?_append_left (by rw[hn];(have:i * size+size<=n * size:=by rw[<-Nat.succ_mul];exact Nat.mul_le_mul_right _ h);omega)]
   exact ih (fun i hi=>hl i (by omega)) h
  ·obtain rfl:i=n:=by omega
   rw[List.getElem?_append_right (by rw[hn];omega),hn,Nat.add_sub_cancel_left];simp
theorem flat_len {c:Nat->List Value} {size n:Nat} (hl:∀i,i<n->(c i).length=size):((List.range n).map c).flatten.length=n * size:=by
 induction n with
 |zero=>simp
 |succ m im=>
  rw[List.range_succ,List.map_append,List.flatten_append,List.length_append,im (fun i hi=>hl i (by omega))];simp[hl m (by omega),Nat.succ_mul]
def flatR {α:Type} (enc:α->List Value):Rep α:=fun _ cs a fp=>cs=enc a/\fp=[]
theorem flatR_frame {α:Type} (enc:α->List Value):(flatR enc).Frame:=⟨fun h b hm=>absurd hm (by rw[h.2];exact List.not_mem_nil),fun h _ _=>h⟩
theorem range_flat {α:Type} (xs:List α) (enc:α->List Value) (c:Nat->List Value) (hc:∀i a,xs[i]? =some a->c i=enc a):((List.range xs.length).map c).flatten=xs.flatMap enc:=by
 have e:(List.range xs.length).map c=xs.map enc:=by
  apply List.ext_getElem?;intro i
  by_cases h:i<xs.length
  ·have hi:=List.getElem?_eq_getElem h
   simp[h,hc i _ hi]
  ·have h':xs.length<=i:=by omega
   simp[h']
 rw[e,List.flatMap_def]
theorem nil_flat {n:Nat}:((List.range n).map fun _=>([]:List Nat)).flatten=[]:=by
 induction n with
 |zero=>rfl
 |succ n ih=>rw[List.range_succ,List.map_append,List.flatten_append,ih];rfl
theorem one_flat {β:Type} (l:List Nat) (g:Nat->β):(l.map fun i=>[g i]).flatten=l.map g:=by
 induction l with
 |nil=>rfl
 |cons a l ih=>simp[ih]
section
variable {α:Type} {enc:α->List Value} {w:World} {B size:Nat} {e:TypeId} {v:Value} {xs:List α}
theorem slc_flat_of (h:w.ownsRow B e size v xs.length (xs.flatMap enc)) (hl:∀a,(enc a).length=size):slcR e size (flatR enc) w [v] xs v.ownBlock.toList:=by
 refine⟨v,fun i=>(xs[i]?.map enc).getD [],fun _=>[],rfl,?_,fun i hi=>?_,fun i a hi=>?_,?_⟩
 ·rw[range_flat xs enc _ (fun i a hi=>by simp[hi])]
  exact ownsRow_base h (Nat.zero_le _)
 ·simp[List.getElem?_eq_getElem hi,hl]
 ·exact⟨by simp[hi],rfl⟩
 ·rw[nil_flat,List.append_nil]
theorem slc_flat_to {cs:List Value} {fp:List Nat} (h:slcR e size (flatR enc) w cs xs fp):∃v,cs=[v]/\w.ownsRow 0 e size v xs.length (xs.flatMap enc)/\fp=v.ownBlock.toList:=by
 obtain⟨v,c,f,rfl,ho,hl,ha,rfl⟩:=h;refine⟨v,rfl,?_,?_⟩
 ·rw[range_flat xs enc c (fun i a hi=>(ha i a hi).1)]at ho
  exact ho
 ·have e:(List.range xs.length).map f=(List.range xs.length).map fun _=>[]:=List.map_congr_left fun i hi=>(ha i _ (List.getElem?_eq_getElem (List.mem_range.1 hi))).2
  rw[e,nil_flat,List.append_nil]
end
def encI (z:Int):List Value:=[.int .i64 z]
def flR {α:Type} (e:TypeId) (size:Nat) (enc:α->List Value):Rep (List α):=fun w cs xs fp=>slcR e size (flatR enc) w cs xs fp\/(xs=[]/\fp=[]/\∃b o,cs=[.slice (some ⟨b,o,none⟩) 0 0]/\b<w.heap.size)
theorem flR_frame {α:Type} {e:TypeId} {size:Nat} {enc:α->List Value}:(flR e size enc).Frame:=
 ⟨fun h=>h.elim (fun h=>(slcR_frame (flatR_frame _) _ _).lt h) fun h b hm=>(by rw[h.2.1]at hm;cases hm),fun h hk hs=>h.elim (fun h=>.inl ((slcR_frame (flatR_frame _) _ _).keep h hk hs)) fun⟨h1,h2,b,o,h3,h4⟩=>.inr ⟨h1,h2,b,o,h3,Nat.lt_of_lt_of_le h4 hs⟩⟩
def intsR:Rep (List Int):=flR 3 1 encI
def rowsR:Rep (List (List Int)):=slcR 23 1 intsR
theorem intsR_frame:intsR.Frame:=flR_frame
theorem rowsR_frame:rowsR.Frame:=slcR_frame intsR_frame _ _
theorem block_mem {v:Value} {b:Nat} (h:b ∈ v.ownBlock.toList):v.ownBlock=some b:=by
 cases hv:v.ownBlock<;>simp[hv]at h ⊢
 exact h.symm
theorem block_nodup (v:Value):v.ownBlock.toList.Nodup:=by cases v.ownBlock<;>simp
theorem slcR_value {α:Type} {A:Rep α} {e:TypeId} {size:Nat} {w:World} {v:Value} {xs:List α} {fp:List Nat} (h:slcR e size A w [v] xs fp):∃x c,v=.slice x xs.length c/\xs.length<=c/\c<=maxLen:=by
 obtain⟨v',c,f,ev,ho,_⟩:=h;cases ev;rcases ho.2 with ⟨rfl,h0⟩|⟨g,cap,cur,rfl,hb,hg,hn,hc,_⟩
 ·exact⟨none,0,by rw[h0],by omega,Nat.zero_le _⟩
 ·exact⟨_,_,rfl,hn,hc⟩
theorem flR_value {α:Type} {enc:α->List Value} {e:TypeId} {size:Nat} {w:World} {v:Value} {xs:List α} {fp:List Nat} (h:flR e size enc w [v] xs fp):∃x c,v=.slice x xs.length c/\xs.length<=c/\c<=maxLen:=by
 rcases h with h|⟨rfl,_,b,o,e1,_⟩
 ·exact slcR_value h
 ·exact⟨_,0,(List.cons.inj e1).1,Nat.le_refl _,Nat.zero_le _⟩
def upd {β:Type} (f:Nat->β) (n:Nat) (x:β):Nat->β:=fun i=>if i=n then x else f i
theorem upd_same {β:Type} (f:Nat->β) (n:Nat) (x:β):upd f n x n=x:=if_pos rfl
theorem upd_other {β:Type} (f:Nat->β) {n i:Nat} (x:β) (h:i≠n):upd f n x i=f i:=if_neg h
structure Els {α:Type} (A:Rep α) (e:TypeId) (size:Nat) (w:World) (B:Nat) (v:Value) (xs:List α) (c:Nat->List Value) (f:Nat->List Nat):Prop where
 own:w.ownsRow B e size v xs.length ((List.range xs.length).map c).flatten
 len:∀i,i<xs.length->(c i).length=size
 one:∀i a,xs[i]? =some a->A w (c i) a (f i)
def fps (v:Value) (n:Nat) (f:Nat->List Nat):List Nat:=v.ownBlock.toList++((List.range n).map f).flatten
theorem mem_own {v:Value} {b n:Nat} {f:Nat->List Nat} (h:v.ownBlock=some b):b ∈ fps v n f:=List.mem_append_left _ (by simp[h])
theorem mem_el {v:Value} {b n i:Nat} {f:Nat->List Nat} (hi:i<n) (h:b ∈ f i):b ∈ fps v n f:=List.mem_append_right _ (mem_fps_of hi h)
theorem mem_split {v:Value} {b n:Nat} {f:Nat->List Nat} (h:b ∈ fps v n f):v.ownBlock=some b\/∃i,i<n/\b ∈ f i:=by
 rcases List.mem_append.1 h with h|h
 ·exact .inl (block_mem h)
 ·exact .inr (mem_fps h)
section
variable {α:Type} {A:Rep α} {e:TypeId} {size:Nat} {w:World} {B:Nat} {v:Value} {xs:List α} {c:Nat->List Value} {f:Nat->List Nat}
theorem Els.rep (h:Els A e size w B v xs c f):slcR e size A w [v] xs (fps v xs.length f):=⟨v,c,f,rfl,ownsRow_base h.own (Nat.zero_le _),h.len,h.one,rfl⟩
theorem slcR_els {cs:List Value} {fp:List Nat} (h:slcR e size A w cs xs fp):∃v c f,cs=[v]/\Els A e size w 0 v xs c f/\fp=fps v xs.length f:=by
 obtain⟨v,c,f,rfl,ho,hl,ha,rfl⟩:=h;exact⟨v,c,f,rfl,⟨ho,hl,ha⟩,rfl⟩
theorem Els.nil (w:World) (B:Nat) (c:Nat->List Value) (f:Nat->List Nat):Els A e size w B (.slice none 0 0) [] c f:=⟨World.ownsRow_nil w B e size,fun i hi=>absurd hi (Nat.not_lt_zero i),fun i a hi=>by simp at hi⟩
theorem Els.cell (h:Els A e size w B v xs c f) {i k:Nat} (hi:i<xs.length) {z:Value} (hz:(c i)[k]? =some z):∃g cap,v=.slice (some ⟨g,0,none⟩) xs.length cap/\B<=g/\g<w.heap.size/\xs.length<=cap/\cap<=maxLen/\w.cell? ⟨g,i * size+k,none⟩=some z:=by
 have hk:k<size:=by have:=(List.getElem?_eq_some_iff.1 hz).1;rw[h.len i hi]at this;exact this
 rcases h.own.2 with ⟨rfl,h0⟩|⟨g,cap,cur,rfl,hb,hg,hn,hc,hs,ht⟩
 ·omega
 ·refine⟨g,cap,rfl,hb,(Array.getElem?_eq_some_iff.1 hg).1,hn,hc,?_⟩
  have lt:i * size+k<xs.length * size:=by
   have:i * size+size<=xs.length * size:=by rw[<-Nat.succ_mul];exact Nat.mul_le_mul_right _ hi
   omega
  rw[World.ownsRow.cellAt h.own _ lt,flat_at h.len hi hk,hz]
theorem flat_set {n i k:Nat} {u:Value} (hl:∀i,i<n->(c i).length=size) (hi:i<n) (hk:k<size):((List.range n).map c).flatten.set (i * size+k) u=((List.range n).map (upd c i ((c i).set k u))).flatten:=by
 have hl':∀j,j<n->(upd c i ((c i).set k u) j).length=size:=fun j hj=>by
  by_cases q:j=i
  ·rw[q,upd_same,List.length_set];exact hl i hi
  ·rw[upd_other _ _ q];exact hl j hj
 apply List.ext_getElem?;intro j
 by_cases hj:j<n * size
 ·have s0:0<size:=by omega
  obtain⟨q,r,rfl,hr,hq⟩:∃q r,j=q * size+r/\r<size/\q<n:=⟨j / size,j % size,by rw[Nat.mul_comm];exact (Nat.div_add_mod j size).symm,Nat.mod_lt _ s0,(Nat.div_lt_iff_lt_mul s0).2 hj⟩
  rw[List.getElem?_set,flat_at hl' hq hr,flat_len hl]
  by_cases d:q=i
  ·subst d
   rw[upd_same,List.getElem?_set]
   by_cases d2:k=r
   ·rw[if_pos (by rw[d2]),if_pos (by rw[d2];exact hj),if_pos d2,if_pos (by rw[hl q hq];exact hk)]
   ·rw[if_neg (fun x=>d2 (by omega)),if_neg d2,flat_at hl hq hr]
  ·rw[upd_other _ _ d,if_neg ?_,flat_at hl hq hr]
   intro x;apply d;have x1:(i * size+k) / size=i:=by rw[Nat.mul_comm,Nat.mul_add_div s0,Nat.div_eq_of_lt hk,Nat.add_zero]
   have x2:(q * size+r) / size=q:=by rw[Nat.mul_comm,Nat.mul_add_div s0,Nat.div_eq_of_lt hr,Nat.add_zero]
   rw[<-x1,x,x2]
 ·rw[List.getElem?_eq_none (by rw[List.length_set,flat_len hl];omega),List.getElem?_eq_none (by rw[flat_len hl'];omega)]
theorem Els.set {g cap:Nat} (h:Els A e size w B (.slice (some ⟨g,0,none⟩) xs.length cap) xs c f) (FA:A.Frame) {i k:Nat} (hi:i<xs.length) (hk:k<size) {u:Value} {a:α} {fa:List Nat}
  (off:∀j,j<xs.length->j≠i->g ∉ f j) (ha:A (w.setCell ⟨g,i * size+k,none⟩ u) ((c i).set k u) a fa):
  Els A e size (w.setCell ⟨g,i * size+k,none⟩ u) B (.slice (some ⟨g,0,none⟩) xs.length cap) (xs.set i a) (upd c i ((c i).set k u)) (upd f i fa):=by
 obtain⟨s1,s2⟩:=World.ownsRow.stored h.own (i * size+k) u;have ln:(xs.set i a).length=xs.length:=List.length_set;refine⟨?_,fun j hj=>?_,fun j x hx=>?_⟩
 ·rw[ln, <-flat_set h.len hi hk];exact s1
 ·rw[ln]at hj
  by_cases q:j=i
  ·rw[q,upd_same,List.length_set];exact h.len i hi
  ·rw[upd_other _ _ q];exact h.len j hj
 ·by_cases q:j=i
  ·subst q
   rw[upd_same,upd_same];rw[List.getElem?_set_self hi]at hx;rw[<-Option.some.inj hx];exact ha
  ·rw[upd_other _ _ q,upd_other _ _ q]
   rw[List.getElem?_set_ne (fun z=>q z.symm)]at hx;have hj:=(List.getElem?_eq_some_iff.1 hx).1;exact FA.keep (h.one j x hx) (fun b hb=>s2.block b (FA.lt (h.one j x hx) b hb) (fun z=>off j hj q (by rw[<-Option.some.inj z];exact hb))) s2.size
end
section
variable {v:Value} {n:Nat} {f:Nat->List Nat}
theorem flat_nodup:((List.range n).map f).flatten.Nodup↔(∀i,i<n->(f i).Nodup)/\∀i j,i<n->j<n->i≠j->∀b ∈ f i,b ∉ f j:=by
 induction n with
 |zero=>exact⟨fun _=>⟨fun i hi=>absurd hi (Nat.not_lt_zero i),fun i j hi=>absurd hi (Nat.not_lt_zero i)⟩,fun _=>by simp⟩
 |succ n ih=>
  rw[List.range_succ,List.map_append,List.flatten_append,List.nodup_append,ih];simp only[List.map_cons,List.map_nil,List.flatten_cons,List.flatten_nil,List.append_nil]
  constructor
  ·rintro⟨⟨h1,h2⟩,h3,h4⟩
   refine⟨fun i hi=>?_,fun i j hi hj ne b hb hb'=>?_⟩
   ·by_cases q:i=n
    ·rw[q];exact h3
    ·exact h1 i (by omega)
   ·by_cases qi:i=n
    ·subst qi
     exact h4 b (mem_fps_of (show j<i by omega) hb') b hb rfl
    ·by_cases qj:j=n
     ·subst qj
      exact h4 b (mem_fps_of (show i<j by omega) hb) b hb' rfl
     ·exact h2 i j (by omega) (by omega) ne b hb hb'
  ·rintro⟨h1,h2⟩
   refine⟨⟨fun i hi=>h1 i (by omega),fun i j hi hj=>h2 i j (by omega) (by omega)⟩,h1 n (by omega),fun a ha b hb e=>?_⟩;subst e;obtain⟨i,hi,hm⟩:=mem_fps ha;exact h2 i n (by omega) (by omega) (by omega) a hm hb
theorem fps_nodup:(fps v n f).Nodup↔((∀i,i<n->(f i).Nodup)/\∀i j,i<n->j<n->i≠j->∀b ∈ f i,b ∉ f j)/\∀g,v.ownBlock=some g->∀i,i<n->g ∉ f i:=by
 unfold fps;rw[List.nodup_append,flat_nodup]
 constructor
 ·rintro⟨_,h,k⟩
  exact⟨h,fun g hg i hi hm=>k g (by simp[hg]) g (mem_fps_of hi hm) rfl⟩
 ·rintro⟨h,k⟩
  refine⟨block_nodup v,h,fun a ha b hb e=>?_⟩;subst e;obtain⟨i,hi,hm⟩:=mem_fps hb;exact k a (block_mem ha) i hi hm
theorem fps_changed (h:(fps v n f).Nodup) {i:Nat} (hi:i<n) {x:List Nat} (hx:x.Nodup) (hd:∀b ∈ x,b ∈ f i\/b ∉ fps v n f):(fps v n (upd f i x)).Nodup:=by
 obtain⟨⟨h1,h2⟩,h3⟩:=fps_nodup.1 h;have far:∀b ∈ x,∀j,j<n->j≠i->b ∉ f j:=fun b hb j hj ne hm=>by
  rcases hd b hb with q|q
  ·exact h2 i j hi hj (fun e=>ne e.symm) b q hm
  ·exact q (mem_el hj hm)
 refine fps_nodup.2 ⟨⟨fun j hj=>?_,fun j k hj hk ne b hb hb'=>?_⟩,fun g hg j hj hm=>?_⟩
 ·by_cases q:j=i
  ·rw[q,upd_same];exact hx
  ·rw[upd_other _ _ q];exact h1 j hj
 ·by_cases qj:j=i
  ·subst qj
   rw[upd_same]at hb;rw[upd_other _ _ (fun e=>ne e.symm)]at hb';exact far b hb k hk (fun e=>ne e.symm) hb'
  ·rw[upd_other _ _ qj]at hb
   by_cases qk:k=i
   ·subst qk
    rw[upd_same]at hb';exact far b hb' j hj qj hb
   ·rw[upd_other _ _ qk]at hb'
    exact h2 j k hj hk ne b hb hb'
 ·by_cases q:j=i
  ·rw[q,upd_same]at hm
   rcases hd g hm with d|d
   ·exact h3 g hg i hi d
   ·exact d (mem_own hg)
  ·rw[upd_other _ _ q]at hm
   exact h3 g hg j hj hm
theorem fps_mem_changed {i b:Nat} {x:List Nat} (h:b ∈ fps v n (upd f i x)):b ∈ fps v n f\/b ∈ x:=by
 rcases mem_split h with h|⟨j,hj,h⟩
 ·exact .inl (mem_own h)
 ·by_cases q:j=i
  ·rw[q,upd_same]at h;exact .inr h
  ·rw[upd_other _ _ q]at h;exact .inl (mem_el hj h)
end
def Sole {α:Type} (R:Rep α) (B:Nat) (w:World) (cs:List Value) (a:α) (fp:List Nat):Prop:=R w cs a fp/\fp.Nodup/\∀b ∈ fp,B<=b
section
variable {α:Type} {A:Rep α} {e:TypeId} {size:Nat} {w:World} {B:Nat} {xs:List α} {fp:List Nat}
theorem Sole.set (FA:A.Frame) {g n cap:Nat} (h:Sole (slcR e size A) B w [.slice (some ⟨g,0,none⟩) n cap] xs fp) {i k:Nat} {x:α} (hi:xs[i]? =some x) (hk:k<size):
  n=xs.length/\g ∈ fp/\∃ci fi,A w ci x fi/\(∀b ∈ fi,b ∈ fp)/\fi.Nodup/\g ∉ fi/\ci.length=size/\(∀j z,ci[j]? =some z->w.cell? ⟨g,i * size+j,none⟩=some z)/\(∀u,w.grownBy (w.setCell ⟨g,i * size+k,none⟩ u) (some g))/\
   ∀u x' fi',A (w.setCell ⟨g,i * size+k,none⟩ u) (ci.set k u) x' fi'->fi'.Nodup->(∀b ∈ fi',(b ∈ fi\/b ∉ fp)/\B<=b)->
    ∃fp',Sole (slcR e size A) B (w.setCell ⟨g,i * size+k,none⟩ u) [.slice (some ⟨g,0,none⟩) n cap] (xs.set i x') fp'/\(∀b ∈ fp',b ∈ fp\/b ∈ fi'):=by
 obtain⟨hR,nd,low⟩:=h;obtain⟨v,c,f,ev,E,rfl⟩:=slcR_els hR;have hlt:i<xs.length:=(List.getElem?_eq_some_iff.1 hi).1;cases ev;obtain⟨z,hz⟩:∃z,(c i)[k]? =some z:=⟨(c i)[k]'(by rw[E.len i hlt];exact hk),List.getElem?_eq_getElem _⟩
 obtain⟨g',cap',ev,_,_,_,_,_⟩:=E.cell hlt hz;injection ev with e1 e2 e3
 have en:n=xs.length:=e2;subst en;refine⟨rfl,mem_own rfl,c i,f i,E.one i x hi,fun b hb=>mem_el hlt hb,?_,?_,E.len i hlt,fun j z hz=>?_,fun u=>(World.ownsRow.stored E.own _ u).2,fun u x' fi' ha nf hd=>?_⟩
 ·exact (fps_nodup.1 nd).1.1 i hlt
 ·exact (fps_nodup.1 nd).2 g rfl i hlt
 ·obtain⟨g2,cap2,ev2,_,_,_,_,hc⟩:=E.cell hlt hz
  injection ev2 with q1 q2 q3
  injection q1 with q1
  injection q1 with q1
  rw[q1];exact hc
 ·have S:=E.set FA hlt hk (u:=u) (a:=x') (fa:=fi') (fun j hj _=>(fps_nodup.1 nd).2 g rfl j hj) ha
  have R:=S.rep;rw[List.length_set]at R;refine⟨_,⟨R,fps_changed nd hlt nf (fun b hb=>(hd b hb).1),fun b hb=>?_⟩,fun b hb=>fps_mem_changed hb⟩;rcases fps_mem_changed hb with q|q
  ·exact low b q
  ·exact (hd b q).2
end
section
variable {α:Type} {A:Rep α} {e:TypeId} {size:Nat} {w:World} {xs:List α} {fp:List Nat} {v:Value}
theorem slcR_at (h:slcR e size A w [v] xs fp) {i:Nat} {x:α} (hi:xs[i]? =some x):∃g cap ci fi,v=.slice (some ⟨g,0,none⟩) xs.length cap/\g<w.heap.size/\xs.length<=cap/\cap<=maxLen/\A w ci x fi/\(∀b ∈ fi,b ∈ fp)/\ci.length=size/\∀j z,ci[j]? =some z->w.cell? ⟨g,i * size+j,none⟩=some z:=by
 obtain⟨v0,c,f,ev,E,rfl⟩:=slcR_els h;cases ev;have hlt:i<xs.length:=(List.getElem?_eq_some_iff.1 hi).1;rcases E.own.2 with ⟨rfl,h0⟩|⟨g,cap,cur,rfl,hb,hg,hn,hc,hs,ht⟩
 ·omega
 ·refine⟨g,cap,c i,f i,rfl,(Array.getElem?_eq_some_iff.1 hg).1,hn,hc,E.one i x hi,fun b hb=>mem_el hlt hb,E.len i hlt,fun j z hz=>?_⟩
  obtain⟨g',cap',ev,_,_,_,_,q⟩:=E.cell hlt hz;injection ev with q1 q2 q3
  injection q1 with q1
  injection q1 with q1
  rw[q1];exact q
theorem slcR_row {x:Option Addr} {k c:Nat} (h:slcR e size A w [.slice x k c] xs fp):k=xs.length/\∀{i:Nat} {a:α},xs[i]? =some a->∃g ci fi,x=some ⟨g,0,none⟩/\g<w.heap.size/\A w ci a fi/\(∀b ∈ fi,b ∈ fp)/\ci.length=size/\∀j z,ci[j]? =some z->w.cell? ⟨g,i * size+j,none⟩=some z:=by
 refine⟨?_,fun {i a} hi=>?_⟩
 ·obtain⟨x',c',q,_⟩:=slcR_value h
  injection q
 ·obtain⟨g,cap,ci,fi,q,h1,_,_,h2,h3,h4,h5⟩:=slcR_at h hi
  injection q with q1 q2 q3
  exact⟨g,ci,fi,q1,h1,h2,h3,h4,h5⟩
end
structure Ch where
 at_:World->List Nat->Prop
 lt:∀{w:World} {f:List Nat},at_ w f->∀b ∈ f,b<w.heap.size
 keep:∀{w w':World} {f:List Nat},at_ w f->(∀b ∈ f,w'.heap[b]? =w.heap[b]?)->w.heap.size<=w'.heap.size->at_ w' f
def Rep.Frame.ch {α:Type} {R:Rep α} (F:R.Frame) (cs:List Value) (a:α):Ch:=⟨fun w f=>R w cs a f,F.lt,F.keep⟩
theorem nodup_one (b:Nat):[b].Nodup:=by simp
def emp:Ch:=⟨fun _ f=>f=[],fun h b hb=>(by rw[h]at hb;cases hb),fun h _ _=>h⟩
def boxC (b:Nat) (t:TypeId) (vs:Array Value):Ch:=⟨fun w f=>w.heap[b]? =some (.cells vs t (0,0))/\f=[b],
  fun h x hx=>(by rw[h.2]at hx;rw[List.mem_singleton.1 hx];exact (Array.getElem?_eq_some_iff.1 h.1).1),
  fun h hk _=>⟨(hk b (by rw[h.2];exact List.mem_singleton_self b)).trans h.1,h.2⟩⟩
def Ch.sep (c d:Ch):Ch:=⟨fun w f=>∃f1 f2,f=f1++f2/\c.at_ w f1/\d.at_ w f2,
  fun⟨_,_,e,h1,h2⟩ b hb=>(List.mem_append.1 (by rw[e]at hb;exact hb)).elim (c.lt h1 b) (d.lt h2 b),
  fun⟨f1,f2,e,h1,h2⟩ hk hs=>⟨f1,f2,e,c.keep h1 (fun b hb=>hk b (by rw[e];exact List.mem_append_left _ hb)) hs,d.keep h2 (fun b hb=>hk b (by rw[e];exact List.mem_append_right _ hb)) hs⟩⟩
def Ch.ex {ι:Type} (c:ι->Ch):Ch:=⟨fun w f=>∃i,(c i).at_ w f,fun⟨i,h⟩=>(c i).lt h,fun⟨i,h⟩ hk hs=>⟨i,(c i).keep h hk hs⟩⟩
def alls:List Ch->Ch
 | []=>emp
 |c::l=>c.sep (alls l)
structure M (B:Nat) (w0 w:World) (l:List Ch):Prop where
 below:Below B w0 w
 low:B<=w.heap.size
 own:∃f,(alls l).at_ w f/\f.Nodup/\∀b ∈ f,B<=b
theorem M.start (w:World):M w.heap.size w w []:=⟨Below.refl _ _,Nat.le_refl _,[],rfl,List.nodup_nil,fun b hb=>by cases hb⟩
section
variable {B:Nat} {w0 w w':World} {l:List Ch} {c d:Ch}
theorem M.later (h:M B w0 w l) (hb:Below w.heap.size w w'):M B w0 w' l:=by
 obtain⟨f,ha,nd,lo⟩:=h.own;exact⟨h.below.trans (hb.mono h.low),Nat.le_trans h.low hb.size,f,(alls l).keep ha (fun b hm=>hb.block b ((alls l).lt ha b hm)) hb.size,nd,lo⟩
theorem M.drew (h:M B w0 w l):M B w0 w.drew l:=h.later (Below.drew (Below.refl _ _))
theorem M.drewN (h:M B w0 w l) (n:Nat):M B w0 (w.drewN n) l:=h.later ⟨rfl,rfl,rfl,Nat.le_refl _,fun _ _=>rfl⟩
theorem M.add (h:M B w0 w l) (hb:Below w.heap.size w w') {f:List Nat} (ha:c.at_ w' f) (nd:f.Nodup) (lo:∀b ∈ f,w.heap.size<=b):M B w0 w' (c::l):=by
 obtain⟨g,hg,ng,lg⟩:=h.own;have h':=h.later hb;refine⟨h'.below,h'.low,f++g,⟨f,g,rfl,ha,(alls l).keep hg (fun b hm=>hb.block b ((alls l).lt hg b hm)) hb.size⟩,List.nodup_append.2 ⟨nd,ng,fun a h1 b h2 e=>?_⟩,fun b hm=>?_⟩
 ·have:=lo a h1;have:=(alls l).lt hg b h2;omega
 ·rcases List.mem_append.1 hm with hm|hm
  ·exact Nat.le_trans h.low (lo b hm)
  ·exact lg b hm
theorem M.got {α:Type} {R:Rep α} (F:R.Frame) {cs:List Value} {a:α} {fp:List Nat} (h:M B w0 w l) (hb:Below w.heap.size w w') (s:Sole R w.heap.size w' cs a fp):M B w0 w' (F.ch cs a::l):=h.add hb s.1 s.2.1 s.2.2
theorem M.alloc (h:M B w0 w l) (vs:Array Value) (t:TypeId):M B w0 (w.alloc (.cells vs t)) (boxC w.heap.size t vs::l):=
 h.add ((Below.refl _ _).alloc lr_ _) ⟨heap_alloc_new w _,rfl⟩ (nodup_one _) fun b hb=>by rw[List.mem_singleton.1 hb];exact Nat.le_refl _
theorem M.turn (h:M B w0 w (c::l)) (k:∀f,c.at_ w f->f.Nodup->(∀b ∈ f,B<=b)->KeptB (fun b=>b ∈ f) w w'/\∃f',d.at_ w' f'/\f'.Nodup/\∀b ∈ f',b ∈ f\/w.heap.size<=b):M B w0 w' (d::l):=by
 obtain⟨_,⟨f,g,rfl,hc,hg⟩,nd,lo⟩:=h.own;obtain⟨n1,n2,n3⟩:=List.nodup_append.1 nd;obtain⟨hk,f',hd,nf,hf⟩:=k f hc n1 fun b hb=>lo b (List.mem_append_left _ hb)
 refine⟨h.below.trans (hk.below h.low fun b hb=>lo b (List.mem_append_left _ hb)),Nat.le_trans h.low hk.size,f'++g,⟨f',g,rfl,hd,(alls l).keep hg (fun b hm=>hk.block b ((alls l).lt hg b hm) fun q=>n3 b q b hm rfl) hk.size⟩,List.nodup_append.2 ⟨nf,n2,fun a h1 b h2 e=>?_⟩,fun b hm=>?_⟩
 ·rcases hf a h1 with q|q
  ·exact n3 a q b h2 e
  ·have:=(alls l).lt hg b h2;omega
 ·rcases List.mem_append.1 hm with hm|hm
  ·rcases hf b hm with q|q
   ·exact lo b (List.mem_append_left _ q)
   ·exact Nat.le_trans h.low q
  ·exact lo b (List.mem_append_right _ hm)
theorem M.to (h:M B w0 w (c::l)) (k:∀f,c.at_ w f->f.Nodup->∃f',d.at_ w f'/\f'.Nodup/\∀b ∈ f',b ∈ f):M B w0 w (d::l):=
 h.turn fun f hf nd _=>let ⟨f',h1,h2,h3⟩:=k f hf nd;⟨KeptB.refl _ _,f',h1,h2,fun b hb=>.inl (h3 b hb)⟩
theorem M.set {b i:Nat} {t:TypeId} {vs:Array Value} (h:M B w0 w (boxC b t vs::l)) (u:Value):M B w0 (w.setCell ⟨b,i,none⟩ u) (boxC b t (vs.setIfInBounds i u)::l):=
 h.turn fun f hf _ _=>⟨KeptB.of_grown (grownBy_setCell w ⟨b,i,none⟩ u) (by rw[hf.2];exact List.mem_singleton_self b),[b],⟨by rw[heap_setCell_same w b i _ _ _ hf.1],rfl⟩,nodup_one _,fun x hx=>.inl (by rw[hf.2];exact hx)⟩
theorem M.first (h:M B w0 w (c::l)):∃f,c.at_ w f/\f.Nodup/\∀b ∈ f,B<=b:=by
 obtain⟨_,⟨f,g,rfl,hc,hg⟩,nd,lo⟩:=h.own;exact⟨f,hc,(List.nodup_append.1 nd).1,fun b hb=>lo b (List.mem_append_left _ hb)⟩
theorem M.drop (h:M B w0 w (c::l)):M B w0 w l:=by
 obtain⟨_,⟨f,g,rfl,hc,hg⟩,nd,lo⟩:=h.own;exact⟨h.below,h.low,g,hg,(List.nodup_append.1 nd).2.1,fun b hb=>lo b (List.mem_append_right _ hb)⟩
theorem alls_perm {l l':List Ch} (p:l.Perm l'):∀{w f},(alls l).at_ w f->∃f',(alls l').at_ w f'/\f.Perm f':=by
 induction p with
 |nil=>exact fun h=>⟨_,h,.refl _⟩
 |cons x _ ih=>
  rintro w f ⟨f1,f2,rfl,h1,h2⟩;obtain⟨g,hg,pg⟩:=ih h2;exact⟨f1++g,⟨f1,g,rfl,h1,hg⟩,.append_left _ pg⟩
 |swap x y l=>
  rintro w f ⟨f1,_,rfl,h1,⟨f2,f3,rfl,h2,h3⟩⟩;refine⟨f2++(f1++f3),⟨f2,_,rfl,h2,⟨f1,f3,rfl,h1,h3⟩⟩,?_⟩;rw[<-List.append_assoc, <-List.append_assoc];exact List.perm_append_comm.append_right _
 |trans _ _ i1 i2=>
  intro w f h;obtain⟨g,hg,pg⟩:=i1 h;obtain⟨k,hk,pk⟩:=i2 hg;exact⟨k,hk,pg.trans pk⟩
theorem M.perm {l':List Ch} (h:M B w0 w l) (p:l.Perm l'):M B w0 w l':=by
 obtain⟨f,ha,nd,lo⟩:=h.own;obtain⟨g,hg,pg⟩:=alls_perm p ha;exact⟨h.below,h.low,g,hg,pg.nodup_iff.1 nd,fun b hb=>lo b (pg.mem_iff.2 hb)⟩
theorem M.p1 {a b:Ch} (h:M B w0 w (a::b::l)):M B w0 w (b::a::l):=h.perm (.swap _ _ _)
theorem M.p2 {a b c:Ch} (h:M B w0 w (a::b::c::l)):M B w0 w (c::a::b::l):=h.perm ((List.Perm.swap _ _ _).cons a |>.trans (.swap _ _ _))
theorem perm_front {α:Type} (a:α):∀(k l:List α),(k++a::l).Perm (a::k++l)
 | [],l=>.refl _
 |x::k,l=>((perm_front a k l).cons x).trans (.swap _ _ _)
theorem M.p3 {a' b' c' d':Ch} (h:M B w0 w (a'::b'::c'::d'::l)):M B w0 w (d'::a'::b'::c'::l):=h.perm (perm_front d' [a',b',c'] l)
theorem M.p4 {a' b' c' d' e':Ch} (h:M B w0 w (a'::b'::c'::d'::e'::l)):M B w0 w (e'::a'::b'::c'::d'::l):=h.perm (perm_front e' [a',b',c',d'] l)
theorem M.p5 {a' b' c' d' e' f':Ch} (h:M B w0 w (a'::b'::c'::d'::e'::f'::l)):M B w0 w (f'::a'::b'::c'::d'::e'::l):=h.perm (perm_front f' [a',b',c',d',e'] l)
theorem M.two (h:M B w0 w (c.sep d::l)):M B w0 w (c::d::l):=by
 obtain⟨_,⟨_,g,rfl,⟨f1,f2,rfl,h1,h2⟩,hg⟩,nd,lo⟩:=h.own;rw[List.append_assoc]at nd lo;exact⟨h.below,h.low,_,⟨f1,_,rfl,h1,⟨f2,g,rfl,h2,hg⟩⟩,nd,lo⟩
theorem M.sep (h:M B w0 w (c::d::l)):M B w0 w (c.sep d::l):=by
 obtain⟨_,⟨f1,_,rfl,h1,⟨f2,g,rfl,h2,hg⟩⟩,nd,lo⟩:=h.own;rw[<-List.append_assoc]at nd lo;exact⟨h.below,h.low,_,⟨_,g,rfl,⟨f1,f2,rfl,h1,h2⟩,hg⟩,nd,lo⟩
theorem M.ex {ι:Type} {c:ι->Ch} (h:M B w0 w (Ch.ex c::l)):∃i,M B w0 w (c i::l):=by
 obtain⟨_,⟨f,g,rfl,⟨i,h1⟩,hg⟩,nd,lo⟩:=h.own;exact⟨i,h.below,h.low,_,⟨f,g,rfl,h1,hg⟩,nd,lo⟩
theorem M.in {ι:Type} {c:ι->Ch} (i:ι) (h:M B w0 w (c i::l)):M B w0 w (Ch.ex c::l):=by
 obtain⟨_,⟨f,g,rfl,h1,hg⟩,nd,lo⟩:=h.own;exact⟨h.below,h.low,_,⟨f,g,rfl,⟨i,h1⟩,hg⟩,nd,lo⟩
section
variable {b i:Nat} {t:TypeId} {vs:Array Value}
theorem M.cell (h:M B w0 w (boxC b t vs::l)) {u:Value} (hi:vs[i]? =some u):w.cell? ⟨b,i,none⟩=some u:=by
 obtain⟨f,hf,_⟩:=h.first;simp[World.cell?,hf.1,hi]
theorem M.free (h:M B w0 w (boxC b t vs::l)) (i:Nat):w.frozen? ⟨b,i,none⟩=false:=by
 obtain⟨f,hf,_⟩:=h.first;simp[World.frozen?,hf.1]
end
theorem M.rd {α:Type} {R:Rep α} {F:R.Frame} {cs:List Value} {a:α} (h:M B w0 w (F.ch cs a::l)):∃f,R w cs a f:=let ⟨f,hf,_⟩:=h.first;⟨f,hf⟩
end
structure SlT (P:Program) (t e:TypeId) (z:Value) (size bytes:Nat):Prop where
 und:P.underlying t=some (.slice e)
 info:(P.info? e).map (fun i=>(i.zero,i.size,i.bytes))=some (some z,size,bytes)
 zs:z.cells.size=size
 pos:0<size
section
variable {α:Type} {A:Rep α} {e:TypeId} {size:Nat} {w w' w0:World} {B b:Nat} {l:List Ch} {xs:List α} {x:α} {v:Value} {cs:List Value}
def slcC (FA:A.Frame) (e:TypeId) (size:Nat) (v:Value) (xs:List α):Ch:=(slcR_frame FA e size).ch [v] xs
theorem M.nil (FA:A.Frame) (e:TypeId) (size:Nat) (h:M B w0 w l):M B w0 w (slcC FA e size (.slice none 0 0) []::l):=
 h.add (Below.refl _ _) (f:=[]) (Els.nil w 0 (fun _=>[]) fun _=>[]).rep List.nodup_nil fun b hb=>by cases hb
theorem M.empty (FA:A.Frame) (size:Nat) (h:M B w0 w (boxC b e #[]::l)):M B w0 w (slcC FA e size (.slice (some ⟨b,0,none⟩) 0 0) []::l):=
 h.to fun f hf nd=>⟨f,by
    obtain⟨hb,rfl⟩:=hf
    exact⟨_,fun _=>[],fun _=>[],rfl,⟨by simp,.inr ⟨b,0,#[],rfl,Nat.zero_le _,hb,Nat.le_refl _,by simp[maxLen],by simp,by simp⟩⟩,fun i hi=>absurd hi (Nat.not_lt_zero i),fun i a hi=>by simp at hi,by simp[Value.ownBlock]⟩,nd,fun _ h=>h⟩
theorem row_slice {B:Nat} {n:Nat} {ys:List Value} (h:w.ownsRow B e size v n ys):∃y c,v=.slice y n c:=by
 rcases h.2 with ⟨rfl,rfl⟩|⟨g,cap,cur,rfl,_⟩
 ·exact⟨_,_,rfl⟩
 ·exact⟨_,_,rfl⟩
theorem wpList_mk {P:Program} {t:TypeId} {z:Value} {bytes:Nat} (T:SlT P t e z 1 bytes) {enc:α->List Value} {z0:α} (hz:z.cells=#[z]) (hz0:enc z0=[z]) (hl:∀a,(enc a).length=1) (h:M B w0 w l)
  {ops:Array Oper} {rest:List Oper} {o:Oper} {a:Act} {Q:Exit->Act->World->Prop} (hgd:o.guard=none) {lo co:Operand} (hop:o.op=Op.makeSlice t lo co) {kl kc:IntKind} {L C:Int} (n:Nat) (hlo:a.eval lo=.int kl L) (hco:a.eval co=.int kc C) (hL:L=(n:Int)) (hC:C=(n:Int))
  (b2:bytes * n<=281474976710656) (b3:n<=maxLen) (k:∀w',M B w0 w' (slcC (flatR_frame enc) e 1 (.slice (some ⟨w.heap.size,0,none⟩) n n) (List.replicate n z0)::l)->Below w.heap.size w w'->wpList P ops Q rest (a.put o.dst (.slice (some ⟨w.heap.size,0,none⟩) n n)) w'):wpList P ops Q (o::rest) a w:=by
 obtain⟨i,hi,hiz,hs,hb⟩:=info_parts T.info;refine wpList_make_full w hgd lo co t hop w.heap.size e i z 1 T.und hi hiz hs kl kc L C n hlo hco hL hC (by rw[hb];exact b2) b3 lr_ fun w' ho hg=>?_
 have bl:Below w.heap.size w w':=⟨hg.os,hg.tape,hg.output,hg.size,fun q hq=>hg.block q hq (by simp)⟩
 rw[hz,Nat.mul_one,toList_madeCells_one]at ho;have e1:(List.replicate n z0).flatMap enc=List.replicate n z:=by
  clear k b2 b3 hL hC ho
  induction n with
  |zero=>rfl
  |succ n ih=>rw[List.replicate_succ,List.flatMap_cons,ih,hz0];rfl
 have r:=slc_flat_of (enc:=enc) (xs:=List.replicate n z0) (by rw[e1,List.length_replicate];exact ho) hl;exact k w' (h.add bl r (block_nodup _) fun b hb=>(ho.lt b (block_mem hb)).1) bl
theorem M.setEl {enc:α->List Value} {g n c i:Nat} (h:M B w0 w (slcC (flatR_frame enc) e 1 (.slice (some ⟨g,0,none⟩) n c) xs::l)) (hi:i<xs.length) (y:α) {u:Value} (hy:enc y=[u]):
  (∃z,w.cell? ⟨g,i,none⟩=some z)/\w.frozen? ⟨g,i,none⟩=false/\M B w0 (w.setCell ⟨g,i,none⟩ u) (slcC (flatR_frame enc) e 1 (.slice (some ⟨g,0,none⟩) n c) (xs.set i y)::l):=by
 obtain⟨f,hf,nd,lo⟩:=h.first;have at_:∀f,Sole (slcR e 1 (flatR enc)) B w [.slice (some ⟨g,0,none⟩) n c] xs f->(∃z,w.cell? ⟨g,i,none⟩=some z)/\KeptB (fun b=>b ∈ f) w (w.setCell ⟨g,i,none⟩ u)/\∃f',Sole (slcR e 1 (flatR enc)) B (w.setCell ⟨g,i,none⟩ u) [.slice (some ⟨g,0,none⟩) n c] (xs.set i y) f'/\∀b ∈ f',b ∈ f:=fun f S=>by
  obtain⟨_,mg,ci,fi,ha,_,_,_,hl,hc,_,k⟩:=Sole.set (flatR_frame enc) S (i:=i) (k:=0) (List.getElem?_eq_getElem hi) (by omega);simp only[Nat.mul_one,Nat.add_zero]at hc k;obtain⟨f',s',m⟩:=k u y [] ⟨by match ci,hl with
      | [_],_=>rw[hy];rfl,rfl⟩ List.nodup_nil (fun b hb=>by cases hb)
  exact⟨⟨_,hc 0 _ (List.getElem?_eq_getElem (by omega))⟩,KeptB.of_grown (grownBy_setCell _ _ _) mg,f',s',fun b hb=>(m b hb).elim id fun q=>by cases q⟩
 obtain⟨hz,_,_⟩:=at_ f ⟨hf,nd,lo⟩;refine⟨hz,?_,h.turn fun f hf nd lo=>?_⟩
 ·obtain⟨_,_,_,ev,E,_⟩:=slcR_els hf
  cases ev;rcases E.own.2 with ⟨q,_⟩|⟨g',cap,cur,q,_,hg,_⟩
  ·cases q
  ·cases q;simp[World.frozen?,hg]
 ·obtain⟨_,hk,f',s',m⟩:=at_ f ⟨hf,nd,lo⟩
  exact⟨hk,f',s'.1,s'.2.1,fun b hb=>.inl (m b hb)⟩
end
section
variable {w w0 w':World} {B b:Nat} {l:List Ch} {t:TypeId}
theorem M.cells2 {x0 x1:Value} (h:M B w0 w (boxC b t #[x0,x1]::l)):w.cell? ⟨b,0,none⟩=some x0/\w.cell? ⟨b,1,none⟩=some x1:=
 ⟨h.cell rfl,h.cell rfl⟩
theorem M.cells3 {x0 x1 x2:Value} (h:M B w0 w (boxC b t #[x0,x1,x2]::l)):w.cell? ⟨b,0,none⟩=some x0/\w.cell? ⟨b,1,none⟩=some x1/\w.cell? ⟨b,2,none⟩=some x2:=
 ⟨h.cell rfl,h.cell rfl,h.cell rfl⟩
theorem M.cells4 {x0 x1 x2 x3:Value} (h:M B w0 w (boxC b t #[x0,x1,x2,x3]::l)):w.cell? ⟨b,0,none⟩=some x0/\w.cell? ⟨b,1,none⟩=some x1/\w.cell? ⟨b,2,none⟩=some x2/\w.cell? ⟨b,3,none⟩=some x3:=
 ⟨h.cell rfl,h.cell rfl,h.cell rfl,h.cell rfl⟩
theorem M.set4 {x0 x1 x2 x3:Value} (h:M B w0 w (boxC b t #[x0,x1,x2,x3]::l)) (y0 y1 y2 y3:Value):M B w0 ((((w.setCell ⟨b,0,none⟩ y0).setCell ⟨b,1,none⟩ y1).setCell ⟨b,2,none⟩ y2).setCell ⟨b,3,none⟩ y3) (boxC b t #[y0,y1,y2,y3]::l):=by
 have h0:=h.set (i:=0) y0;simp only[List.setIfInBounds_toArray,List.set_cons_zero,List.set_cons_succ]at h0;have h1:=h0.set (i:=1) y1;simp only[List.setIfInBounds_toArray,List.set_cons_zero,List.set_cons_succ]at h1;have h2:=h1.set (i:=2) y2;simp only[List.setIfInBounds_toArray,List.set_cons_zero,List.set_cons_succ]at h2;have h3:=h2.set (i:=3) y3
 simp only[List.setIfInBounds_toArray,List.set_cons_zero,List.set_cons_succ]at h3;exact h3
theorem M.cells5 {x0 x1 x2 x3 x4:Value} (h:M B w0 w (boxC b t #[x0,x1,x2,x3,x4]::l)):w.cell? ⟨b,0,none⟩=some x0/\w.cell? ⟨b,1,none⟩=some x1/\w.cell? ⟨b,2,none⟩=some x2/\w.cell? ⟨b,3,none⟩=some x3/\w.cell? ⟨b,4,none⟩=some x4:=
 ⟨h.cell rfl,h.cell rfl,h.cell rfl,h.cell rfl,h.cell rfl⟩
theorem M.cells6 {x0 x1 x2 x3 x4 x5:Value} (h:M B w0 w (boxC b t #[x0,x1,x2,x3,x4,x5]::l)):w.cell? ⟨b,0,none⟩=some x0/\w.cell? ⟨b,1,none⟩=some x1/\w.cell? ⟨b,2,none⟩=some x2/\w.cell? ⟨b,3,none⟩=some x3/\w.cell? ⟨b,4,none⟩=some x4/\w.cell? ⟨b,5,none⟩=some x5:=
 ⟨h.cell rfl,h.cell rfl,h.cell rfl,h.cell rfl,h.cell rfl,h.cell rfl⟩
theorem M.cells7 {x0 x1 x2 x3 x4 x5 x6:Value} (h:M B w0 w (boxC b t #[x0,x1,x2,x3,x4,x5,x6]::l)):w.cell? ⟨b,0,none⟩=some x0/\w.cell? ⟨b,1,none⟩=some x1/\w.cell? ⟨b,2,none⟩=some x2/\w.cell? ⟨b,3,none⟩=some x3/\w.cell? ⟨b,4,none⟩=some x4/\w.cell? ⟨b,5,none⟩=some x5/\w.cell? ⟨b,6,none⟩=some x6:=
 ⟨h.cell rfl,h.cell rfl,h.cell rfl,h.cell rfl,h.cell rfl,h.cell rfl,h.cell rfl⟩
theorem M.set7 {x0 x1 x2 x3 x4 x5 x6:Value} (h:M B w0 w (boxC b t #[x0,x1,x2,x3,x4,x5,x6]::l)) (y0 y1 y2 y3 y4 y5 y6:Value):M B w0 (((((((w.setCell ⟨b,0,none⟩ y0).setCell ⟨b,1,none⟩ y1).setCell ⟨b,2,none⟩ y2).setCell ⟨b,3,none⟩ y3).setCell ⟨b,4,none⟩ y4).setCell ⟨b,5,none⟩ y5).setCell ⟨b,6,none⟩ y6) (boxC b t #[y0,y1,y2,y3,y4,y5,y6]::l):=by
 have h0:=h.set (i:=0) y0;simp only[List.setIfInBounds_toArray,List.set_cons_zero,List.set_cons_succ]at h0;have h1:=h0.set (i:=1) y1;simp only[List.setIfInBounds_toArray,List.set_cons_zero,List.set_cons_succ]at h1;have h2:=h1.set (i:=2) y2;simp only[List.setIfInBounds_toArray,List.set_cons_zero,List.set_cons_succ]at h2;have h3:=h2.set (i:=3) y3
 simp only[List.setIfInBounds_toArray,List.set_cons_zero,List.set_cons_succ]at h3;have h4:=h3.set (i:=4) y4;simp only[List.setIfInBounds_toArray,List.set_cons_zero,List.set_cons_succ]at h4;have h5:=h4.set (i:=5) y5;simp only[List.setIfInBounds_toArray,List.set_cons_zero,List.set_cons_succ]at h5;have h6:=h5.set (i:=6) y6
 simp only[List.setIfInBounds_toArray,List.set_cons_zero,List.set_cons_succ]at h6;exact h6
theorem M.cells10 {x0 x1 x2 x3 x4 x5 x6 x7 x8 x9:Value} (h:M B w0 w (boxC b t #[x0,x1,x2,x3,x4,x5,x6,x7,x8,x9]::l)):w.cell? ⟨b,0,none⟩=some x0/\w.cell? ⟨b,1,none⟩=some x1/\w.cell? ⟨b,2,none⟩=some x2/\w.cell? ⟨b,3,none⟩=some x3/\w.cell? ⟨b,4,none⟩=some x4/\w.cell? ⟨b,5,none⟩=some x5/\w.cell? ⟨b,6,none⟩=some x6/\w.cell? ⟨b,7,none⟩=some x7/\w.cell? ⟨b,8,none⟩=some x8/\w.cell? ⟨b,9,none⟩=some x9:=
 ⟨h.cell rfl,h.cell rfl,h.cell rfl,h.cell rfl,h.cell rfl,h.cell rfl,h.cell rfl,h.cell rfl,h.cell rfl,h.cell rfl⟩
theorem M.set10 {x0 x1 x2 x3 x4 x5 x6 x7 x8 x9:Value} (h:M B w0 w (boxC b t #[x0,x1,x2,x3,x4,x5,x6,x7,x8,x9]::l)) (y0 y1 y2 y3 y4 y5 y6 y7 y8 y9:Value):M B w0 ((((((((((w.setCell ⟨b,0,none⟩ y0).setCell ⟨b,1,none⟩ y1).setCell ⟨b,2,none⟩ y2).setCell ⟨b,3,none⟩ y3).setCell ⟨b,4,none⟩ y4).setCell ⟨b,5,none⟩ y5).setCell ⟨b,6,none⟩ y6).setCell ⟨b,7,none⟩ y7).setCell ⟨b,8,none⟩ y8).setCell ⟨b,9,none⟩ y9) (boxC b t #[y0,y1,y2,y3,y4,y5,y6,y7,y8,y9]::l):=by
 have h0:=h.set (i:=0) y0;simp only[List.setIfInBounds_toArray,List.set_cons_zero,List.set_cons_succ]at h0;have h1:=h0.set (i:=1) y1;simp only[List.setIfInBounds_toArray,List.set_cons_zero,List.set_cons_succ]at h1;have h2:=h1.set (i:=2) y2;simp only[List.setIfInBounds_toArray,List.set_cons_zero,List.set_cons_succ]at h2;have h3:=h2.set (i:=3) y3
 simp only[List.setIfInBounds_toArray,List.set_cons_zero,List.set_cons_succ]at h3;have h4:=h3.set (i:=4) y4;simp only[List.setIfInBounds_toArray,List.set_cons_zero,List.set_cons_succ]at h4;have h5:=h4.set (i:=5) y5;simp only[List.setIfInBounds_toArray,List.set_cons_zero,List.set_cons_succ]at h5;have h6:=h5.set (i:=6) y6
 simp only[List.setIfInBounds_toArray,List.set_cons_zero,List.set_cons_succ]at h6;have h7:=h6.set (i:=7) y7;simp only[List.setIfInBounds_toArray,List.set_cons_zero,List.set_cons_succ]at h7;have h8:=h7.set (i:=8) y8;simp only[List.setIfInBounds_toArray,List.set_cons_zero,List.set_cons_succ]at h8;have h9:=h8.set (i:=9) y9
 simp only[List.setIfInBounds_toArray,List.set_cons_zero,List.set_cons_succ]at h9;exact h9
end
end Go.Proofs.YtcblbdpdbggkbaaGreat
namespace Go.Proofs.YtcblbdpdbggkbaaGreat
open Go.RowKit Go.Sort Go.Maps
open Go.ChangeMaps (setBlock modify_eq_set)
structure KeyT (P:Program) (k:TypeId) {κ:Type} (ok:κ->Prop) (kv:κ->Value):Prop where
 keyed:Keyed P k
 key:∀x,ok x->∃l,keyOf P k (kv x)=some l
 inj:∀x y,kv x=kv y->x=y
section
variable {P:Program} {k t el:TypeId} {κ:Type} [DecidableEq κ] {ok:κ->Prop} {kv:κ->Value} {w w0 w':World} {b B:Nat} {l:List Ch} {g:κ->Option Value}
def MapIs (ok:κ->Prop) (kv:κ->Value) (w:World) (b:Nat) (g:κ->Option Value):Prop:=∃es clock,w.heap[b]? =some (.map es clock)/\(∀e ∈ es.toList,∃x,ok x/\e.key=kv x/\g x=some e.val)/\(∀x v,g x=some v->∃e ∈ es.toList,e.key=kv x)/\(es.toList.map (·.key)).Nodup
def mapC (ok:κ->Prop) (kv:κ->Value) (b:Nat) (g:κ->Option Value):Ch:=⟨fun w f=>MapIs ok kv w b g/\f=[b],
  fun h x hx=>by obtain⟨⟨_,_,hb,_⟩,rfl⟩:=h;rw[List.mem_singleton.1 hx];exact (Array.getElem?_eq_some_iff.1 hb).1,
  fun h hk _=>by obtain⟨⟨es,c,hb,r⟩,rfl⟩:=h;exact⟨⟨es,c,(hk b (List.mem_singleton_self b)).trans hb,r⟩,rfl⟩⟩
theorem M.map (ok:κ->Prop) (kv:κ->Value) (h:M B w0 w l):M B w0 (w.alloc (.map #[] 0)) (mapC ok kv w.heap.size (fun _=>none)::l):=
 h.add ((Below.refl _ _).alloc lr_ _) ⟨⟨#[],0,heap_alloc_new w _,fun e he=>(by simp at he),fun x v hx=>(by cases hx),by simp⟩,rfl⟩ (nodup_one _) fun b hb=>by rw[List.mem_singleton.1 hb];exact Nat.le_refl _
theorem MapIs.look (K:KeyT P k ok kv) (ht:P.underlying t=some (.map k el)) {z:Value} (hz:(zeroValue el).run P w=.ok z w) (h:MapIs ok kv w b g) {x:κ} (hx:ok x) (c:Bool):
  (Instr.lookup t (.map (some b)) (kv x) c).run P w=.ok (if c then .tuple #[(g x).getD z,.bool (g x).isSome]else (g x).getD z) w:=by
 obtain⟨es,clock,hb,h1,h2,nd⟩:=h;obtain⟨lx,hl⟩:=K.key x hx;rcases K.keyed.find w hl es.toList (fun e he=>by obtain⟨y,hy,e1,_⟩:=h1 e he;rw[e1];exact K.key y hy)with ⟨f1,f2⟩|⟨j,e0,f1,f2,f3⟩
 ·have n:g x=none:=by
   cases q:g x with
   |none=>rfl
   |some v=>obtain⟨e,he,e1⟩:=h2 x v q;exact absurd e1 (f2 e he)
  simp[Instr.lookup,run_underlying ht,MapKept.run_getObj_map hb,K.keyed.check w _ hl,f1,hz,Result.andThen,n]
 ·obtain⟨y,hy,e1,e2⟩:=h1 e0 (List.mem_of_getElem? f2)
  obtain rfl:=K.inj y x (e1.symm.trans f3);simp[Instr.lookup,run_underlying ht,MapKept.run_getObj_map hb,K.keyed.check w _ hl,f1,Result.andThen,e2]
theorem MapIs.store (K:KeyT P k ok kv) (ht:P.underlying t=some (.map k el)) (h:MapIs ok kv w b g) {x:κ} (hx:ok x) (v:Value):
  ∃es clock,(Instr.mapUpdate t (.map (some b)) (kv x) v).run P w=.ok () (setBlock w b (.map es clock))/\MapIs ok kv (setBlock w b (.map es clock)) b (fun y=>if y=x then some v else g y):=by
 obtain⟨es,clock,hb,h1,h2,nd⟩:=h;obtain⟨lx,hl⟩:=K.key x hx;have lt:b<w.heap.size:=(Array.getElem?_eq_some_iff.1 hb).1;have here:∀o:Obj,(setBlock w b o).heap[b]? =some o:=fun o=>by simp[setBlock,lt]
 rcases K.keyed.find w hl es.toList (fun e he=>by obtain⟨y,hy,e1,_⟩:=h1 e he;rw[e1];exact K.key y hy)with ⟨f1,f2⟩|⟨j,e0,f1,f2,f3⟩
 ·refine⟨es.push ⟨kv x,v,clock⟩,clock+1,?_,_,_,here _,fun e he=>?_,fun y u hy=>?_,?_⟩
  ·simp[Instr.mapUpdate,run_underlying ht,MapKept.run_getObj_map hb,K.keyed.check w false hl,f1,MapKept.run_setObj_map _ hb,Result.andThen,setBlock]
  ·simp only[Array.toList_push,List.mem_append,List.mem_singleton]at he
   rcases he with he|rfl
   ·obtain⟨y,hy,e1,e2⟩:=h1 e he
    exact⟨y,hy,e1,(if_neg fun q=>f2 e he (by rw[e1,q])).trans e2⟩
   ·exact⟨x,hx,rfl,if_pos rfl⟩
  ·by_cases q:y=x
   ·subst q;exact⟨⟨kv y,v,clock⟩,by simp,rfl⟩
   ·replace hy:=(if_neg q).symm.trans hy
    obtain⟨e,he,e1⟩:=h2 y u hy;exact⟨e,by simp[he],e1⟩
  ·rw[Array.toList_push,List.map_append,List.nodup_append]
   refine⟨nd,by simp,fun a ha c hc q=>?_⟩;obtain⟨e,he,rfl⟩:=List.mem_map.1 ha;simp only[List.map_cons,List.map_nil,List.mem_singleton]at hc;exact f2 e he (q.trans hc)
 ·have hj:es[j]? =some e0:=by simpa using f2
  have hlist:(es.modify j (fun e'=>{ e' with key:=kv x,val:=v })).toList=es.toList.set j { e0 with key:=kv x,val:=v }:=by rw[Array.toList_modify,modify_eq_set _ _ _ _ f2]
  have jl:j<es.toList.length:=(List.getElem?_eq_some_iff.1 f2).1;refine⟨es.modify j (fun e'=>{ e' with key:=kv x,val:=v }),clock,?_,_,_,here _,fun e he=>?_,fun y u hy=>?_,?_⟩
  ·simp[Instr.mapUpdate,run_underlying ht,MapKept.run_getObj_map hb,K.keyed.check w false hl,f1,hj,f3,K.keyed.stays w hl,MapKept.run_setObj_map _ hb,Result.andThen,setBlock]
  ·rw[hlist]at he
   obtain⟨i,hi,rfl⟩:=List.getElem_of_mem he;have hi':i<es.toList.length:=by simpa using hi
   by_cases q:j=i
   ·subst q
    rw[List.getElem_set_self];exact⟨x,hx,rfl,if_pos rfl⟩
   ·rw[List.getElem_set_ne q]
    obtain⟨y,hy,e1,e2⟩:=h1 _ (List.getElem_mem hi');refine⟨y,hy,e1,(if_neg fun r=>?_).trans e2⟩
    ·have a1:(es.toList.map (·.key))[i]'(by simpa using hi')=kv x:=by rw[List.getElem_map,e1,r]
     have a2:(es.toList.map (·.key))[j]'(by simpa using jl)=kv x:=by
      rw[List.getElem?_eq_getElem jl]at f2;rw[List.getElem_map,Option.some.inj f2,f3]
     rcases Nat.lt_or_gt_of_ne q with z|z
     ·exact (List.pairwise_iff_getElem.1 nd j i (by simpa using jl) (by simpa using hi') z) (a2.trans a1.symm)
     ·exact (List.pairwise_iff_getElem.1 nd i j (by simpa using hi') (by simpa using jl) z) (a1.trans a2.symm)
  ·rw[hlist]
   by_cases q:y=x
   ·subst q;exact⟨{ e0 with key:=kv y,val:=v },List.mem_iff_getElem.2 ⟨j,by simpa using jl,by simp⟩,rfl⟩
   ·replace hy:=(if_neg q).symm.trans hy
    obtain⟨e,he,e1⟩:=h2 y u hy;obtain⟨i,hi,rfl⟩:=List.getElem_of_mem he;refine⟨es.toList[i],List.mem_iff_getElem.2 ⟨i,by simpa using hi,?_⟩,e1⟩;rw[List.getElem_set_ne];intro e2;subst e2;rw[List.getElem?_eq_getElem hi]at f2;cases f2;exact q (K.inj y x (e1.symm.trans f3))
  ·rw[hlist,List.map_set]
   have:(es.toList.map (·.key)).set j (kv x)=es.toList.map (·.key):=by
    rw[List.getElem?_eq_getElem jl]at f2;have a2:(es.toList.map (·.key))[j]'(by simpa using jl)=kv x:=by rw[List.getElem_map,Option.some.inj f2,f3]
    rw[<-a2];exact List.set_getElem_self _
   rw[this];exact nd
theorem M.look (K:KeyT P k ok kv) (ht:P.underlying t=some (.map k el)) {z:Value} (hz:(zeroValue el).run P w=.ok z w) (h:M B w0 w (mapC ok kv b g::l)) {x:κ} (hx:ok x) (c:Bool):
  (Instr.lookup t (.map (some b)) (kv x) c).run P w=.ok (if c then .tuple #[(g x).getD z,.bool (g x).isSome]else (g x).getD z) w:=by
 obtain⟨f,hf,_⟩:=h.first;exact hf.1.look K ht hz hx c
theorem M.store (K:KeyT P k ok kv) (ht:P.underlying t=some (.map k el)) (h:M B w0 w (mapC ok kv b g::l)) {x:κ} (hx:ok x) (v:Value):
  ∃w',(Instr.mapUpdate t (.map (some b)) (kv x) v).run P w=.ok () w'/\M B w0 w' (mapC ok kv b (fun y=>if y=x then some v else g y)::l)/\w'.heap.size=w.heap.size:=by
 obtain⟨f,hf,_⟩:=h.first;obtain⟨es,c,hr,hm⟩:=hf.1.store K ht hx v;refine⟨_,hr,h.turn fun f hf _ _=>⟨⟨rfl,rfl,rfl,by simp[setBlock],fun q _ hq=>?_⟩,[b],⟨hm,rfl⟩,nodup_one _,fun y hy=>.inl (by rw[hf.2];exact hy)⟩,by simp[setBlock]⟩;rw[hf.2]at hq;have ne:¬b=q:=fun e=>hq (by simp[e])
 simp[setBlock,Array.getElem?_setIfInBounds,ne]
theorem wp_mset (K:KeyT P k ok kv) (ht:P.underlying t=some (.map k el)) (h:M B w0 w (mapC ok kv b g::l)) {x:κ} (hx:ok x) {o:Oper} {a:Act} {N:Act->World->Prop} {Q:Exit->Act->World->Prop} {mo ko vo:Operand} (hop:o.op=.mapUpdate t mo ko vo) {v:Value}
  (hm:a.eval mo=.map (some b)) (hk:a.eval ko=kv x) (hv:a.eval vo=v) (n:∀w',M B w0 w' (mapC ok kv b (fun y=>if y=x then some v else g y)::l)->w'.heap.size=w.heap.size->N (a.put o.dst undef) w'):o.wp P a w N Q:=by
 obtain⟨w',hr,hM,hs⟩:=h.store K ht hx v;unfold Oper.wp;simp[execOp,hop,hm,hk,hv,hr,Result.andThen,Oper.upon];exact n w' hM hs
theorem wpList_mset (K:KeyT P k ok kv) (ht:P.underlying t=some (.map k el)) (h:M B w0 w (mapC ok kv b g::l)) {x:κ} (hx:ok x) {ops:Array Oper} {rest:List Oper} {o:Oper} {a:Act} {Q:Exit->Act->World->Prop} {mo ko vo:Operand} (hgd:o.guard=none) (hop:o.op=.mapUpdate t mo ko vo) {v:Value}
  (hm:a.eval mo=.map (some b)) (hk:a.eval ko=kv x) (hv:a.eval vo=v) (n:∀w',M B w0 w' (mapC ok kv b (fun y=>if y=x then some v else g y)::l)->w'.heap.size=w.heap.size->wpList P ops Q rest (a.put o.dst undef) w'):wpList P ops Q (o::rest) a w:=
 wpList_plain hgd fun _ hK=>wp_mset K ht h hx hop hm hk hv fun w' h1 h2=>hK _ _ (n w' h1 h2)
end
end Go.Proofs.YtcblbdpdbggkbaaGreat
namespace Go.Proofs.YtcblbdpdbggkbaaGreat
open Go
section
variable {P:Program} {ops:Array Oper} {Q:Exit->Act->World->Prop} {md:Region.Mode} {S:World->Prop} {n:Nat}
def wpL (P:Program) (md:Region.Mode) (ops:Array Oper) (Q:Exit->Act->World->Prop) (S:World->Prop) (n:Nat):Nat->Array Bool->Act->World->Prop
 | 0,listed,a,w=>Region.ready md ops listed=[]/\Q .normal a w
 |fuel+1,listed,a,w=>
  (Region.ready md ops listed=[]->Q .normal a w)/\
  ∀i ∈ Region.ready md ops listed,wpOp P ops Q i (fun a' w'=>(i=n\/S w')/\wpL P md ops Q S n fuel (listed.setIfInBounds i true) a' w') a w
theorem wpAny_of_L:∀(fuel:Nat) (listed:Array Bool) (a:Act) (w:World),wpL P md ops Q S n fuel listed a w->wpAny P md ops Q fuel listed a w
 | 0,_,_,_,h=>h
 |fuel+1,_,_,_,h=>⟨h.1,fun i hi=>wpOp_mono (fun a' w' h'=>wpAny_of_L fuel _ a' w' h'.2) (h.2 i hi)⟩
theorem waits_not {i:Nat} (h:(match ops[n]? with|some o=>o.after.any fun e=>Region.binds md e&&e.on==i|none=>true)=true) {listed:Array Bool} (hu:listed.getD i true=false):n ∉ Region.ready md ops listed:=fun hr=>by
 obtain⟨_,o,ho,hall⟩:=mem_ready.1 hr;rw[ho]at h;obtain⟨e,he,hb⟩:=Array.any_eq_true'.1 h;simp only[Bool.and_eq_true,beq_iff_eq]at hb;have h1:=hall e he hb.1;rw[hb.2]at h1;rcases Nat.lt_or_ge i listed.size with h'|h'
 ·simp[h']at hu h1;rw[hu]at h1;cases h1
 ·simp[Array.getElem?_eq_none h']at h1
theorem wpL_first {i:Nat} {oi:Oper} {v:Value} (hi:ops[i]? =some oi) (hsel:∀(j:Nat) (o:Oper) cs b,ops[j]? =some o->o.op≠.select cs b)
  (hQ:∀c a w,Q (.panic c) (a.put oi.dst v) w->Q (.panic c) a w) (hn:∀listed:Array Bool,listed.getD i true=false->n ∉ Region.ready md ops listed):
  ∀(fuel:Nat) (listed:Array Bool) (a:Act) (w:World),
   (∀j oj,ops[j]? =some oj->j≠i->listed.getD j true=false->(∀e ∈ oj.after,Region.binds md e=true->e.on≠i)->oi.apart ops oj=true)->
   i ∈ Region.ready md ops listed->YieldsIf P ops S oi v a->S w->
   wpL P md ops Q S n fuel (listed.setIfInBounds i true) (a.put oi.dst v) w->wpL P md ops Q S n (fuel+1) listed a w:=by
 intro fuel
 induction fuel with
 |zero=>
  intro listed a w _ hr hy hS H;refine⟨fun h=>(by rw[h]at hr;cases hr),fun j hj=>?_⟩
  by_cases hji:j=i
  ·subst hji;exact hy.wpOp hi hS ⟨.inr hS,H⟩
  ·have:=ready_mono hj hji
   rw[H.1]at this;cases this
 |succ fuel ih=>
  intro listed a w hfree hr hy hS H;refine⟨fun h=>(by rw[h]at hr;cases hr),fun j hj=>?_⟩
  by_cases hji:j=i
  ·subst hji;exact hy.wpOp hi hS ⟨.inr hS,H⟩
  ·by_cases hjn:j=n
   ·subst hjn;exact absurd hj (hn listed (mem_ready.1 hr).1)
   have h1:=H.2 j (ready_mono hj hji);obtain⟨hjun,oj,hoj,hall⟩:=mem_ready.1 hj;have hnot:∀e ∈ oj.after,Region.binds md e=true->e.on≠i:=fun e he hb heq=>by
    have h1:=hall e he hb;have h0:=(mem_ready.1 hr).1;rw[heq]at h1;rcases Nat.lt_or_ge i listed.size with h'|h'
    ·simp[h']at h0 h1;rw[h0]at h1;cases h1
    ·simp[Array.getElem?_eq_none h']at h1
   have h2:=wpOp_putIf hoj (hfree j oj hoj hji hjun hnot) (fun cs b=>hsel i oi cs b hi) (fun cs b=>hsel j oj cs b hoj) hQ hy h1;have hfree':∀k ok,ops[k]? =some ok->k≠i->(listed.setIfInBounds j true).getD k true=false->
     (∀e ∈ ok.after,Region.binds md e=true->e.on≠i)->oi.apart ops ok=true:=fun k ok hk hki hun hno=>by
    refine hfree k ok hk hki ?_ hno
    by_cases hjk:j=k
    ·subst hjk;exact hjun
    ·rw[getD_set_ne true hjk]at hun;exact hun
   refine wpOp_mono (fun a' w' h3=>?_) h2;have s:=h3.2.1.resolve_left hjn;refine⟨.inr s,ih (listed.setIfInBounds j true) a' w' hfree' (ready_mono hr (Ne.symm hji)) h3.1 s ?_⟩;rw[Array.setIfInBounds_comm _ _ hji];exact h3.2.2
inductive Tr where
 |done
 |take (i:Nat) (t:Tr)
 |alt (i:Nat) (t more:Tr)
 |nomore
def Tr.idx:Tr->List Nat
 | .alt i _ m=>i::m.idx
 |_=>[]
def Tr.isDone:Tr->Bool
 | .done=>true
 |_=>false
def Tr.chk (md:Region.Mode) (ops:Array Oper) (n:Nat):Bool->Array Bool->Tr->Bool
 |_,listed,.done=>(Region.ready md ops listed).isEmpty
 |_,listed,.take i t=>Region.noSelect ops&&Region.free md ops listed i&&(Region.ready md ops listed).contains i&&(match ops[n]? with|some o=>o.after.any fun e=>Region.binds md e&&e.on==i|none=>true)&&t.chk md ops n true (listed.setIfInBounds i true)
 |head,listed,.alt i t m=>(i != n || t.isDone)&&(!head || Region.ready md ops listed==i::m.idx)&&t.chk md ops n true (listed.setIfInBounds i true)&&m.chk md ops n false listed
 |head,_,.nomore=> !head
def Tr.size:Tr->Nat
 | .done=>0
 | .take _ t=>t.size+1
 | .alt _ t m=>max (t.size+1) m.size
 | .nomore=>0
def stepsL (P:Program) (ops:Array Oper) (Q:Exit->Act->World->Prop) (S:World->Prop) (n:Nat):Tr->Act->World->Prop
 | .done,a,w=>Q .normal a w
 | .take i t,a,w=>∃o v,ops[i]? =some o/\YieldsIf P ops S o v a/\stepsL P ops Q S n t (a.put o.dst v) w
 | .alt i t m,a,w=>wpOp P ops Q i (fun a' w'=>(i=n\/S w')/\stepsL P ops Q S n t a' w') a w/\stepsL P ops Q S n m a w
 | .nomore,_,_=>True
theorem Tr.isDone_iff {t:Tr}:t.isDone=true↔t=.done:=by cases t<;>simp[Tr.isDone]
theorem wpL_of_steps (hQ:∀c a (d:Tmp) v w,Q (.panic c) (Act.put a (some d) v) w->Q (.panic c) a w):∀(t:Tr) (head:Bool) (listed:Array Bool) (a:Act) (w:World),t.chk md ops n head listed=true->stepsL P ops Q S n t a w->
  (head=true->(S w\/t=.done)->∀F,t.size<=F->wpL P md ops Q S n F listed a w)/\(S w->∀j ∈ t.idx,∀F,t.size<=F+1->wpOp P ops Q j (fun a' w'=>(j=n\/S w')/\wpL P md ops Q S n F (listed.setIfInBounds j true) a' w') a w)
 | .done,head,listed,a,w,c,h=>by
  refine⟨fun _ _ F _=>?_,fun _ j hj=>by cases hj⟩;have e:Region.ready md ops listed=[]:=List.isEmpty_iff.1 c;cases F with
  |zero=>exact⟨e,h⟩
  |succ F=>exact⟨fun _=>h,fun i hi=>by rw[e]at hi;cases hi⟩
 | .take i t,head,listed,a,w,c,h=>by
  refine⟨fun hh hs F hF=>?_,fun _ j hj=>by cases hj⟩;obtain⟨o,v,ho,hy,hr⟩:=h;simp only[Tr.chk,Bool.and_eq_true]at c;obtain⟨⟨⟨⟨c1,c2⟩,c3⟩,c4⟩,c5⟩:=c;have s:S w:=hs.resolve_right (fun q=>by cases q);simp only[Tr.size]at hF;obtain⟨F',rfl⟩:∃F',F=F'+1:=⟨F - 1,by omega⟩
  exact wpL_first ho (Region.noSelect_spec c1) (fun c a w=>by cases hd:o.dst with
      |none=>exact id
      |some d=>exact hQ c a d v w) (fun l hu=>waits_not c4 hu) F' listed a w (Region.free_spec ho c2) (by simpa using c3) hy s
   ((wpL_of_steps hQ t true _ _ w c5 hr).1 rfl (.inl s) F' (by omega))
 | .alt i t m,head,listed,a,w,c,h=>by
  simp only[Tr.chk,Bool.and_eq_true]at c;obtain⟨⟨⟨c0,c1⟩,c2⟩,c3⟩:=c;have one:∀F,t.size<=F->wpOp P ops Q i (fun a' w'=>(i=n\/S w')/\wpL P md ops Q S n F (listed.setIfInBounds i true) a' w') a w:=fun F hF=>
   wpOp_mono (fun a' w' h'=>⟨h'.1,(wpL_of_steps hQ t true _ a' w' c2 h'.2).1 rfl (by
        rcases h'.1 with q|q
        · refine .inr (Tr.isDone_iff.1 ?_)
          simpa[q]using c0
        · exact .inl q) F hF⟩) h.1
  have all:S w->∀j ∈ i::m.idx,∀F,max (t.size+1) m.size<=F+1->wpOp P ops Q j (fun a' w'=>(j=n\/S w')/\wpL P md ops Q S n F (listed.setIfInBounds j true) a' w') a w:=fun s j hj F hF=>by
   rcases List.mem_cons.1 hj with rfl|hj
   ·exact one F (by omega)
   ·exact (wpL_of_steps hQ m false listed a w c3 h.2).2 s j hj F (by omega)
  refine⟨fun hh hs F hF=>?_,fun s j hj F hF=>all s j hj F hF⟩;have s:S w:=hs.resolve_right (fun q=>by cases q);simp only[Tr.size]at hF;obtain⟨F',rfl⟩:∃F',F=F'+1:=⟨F - 1,by omega⟩
  subst hh;have e:Region.ready md ops listed=i::m.idx:=by simpa using c1
  exact⟨fun q=>(by rw[e]at q;cases q),fun j hj=>all s j (by rw[<-e];exact hj) F' hF⟩
 | .nomore,head,listed,a,w,c,h=>⟨fun hh=>(by subst hh;cases c),fun _ j hj=>(by cases hj)⟩
theorem wp_region_plan {id:Nat} {a:Act} {w:World} (n:Nat) (t:Tr) (S:World->Prop) (hm:P.follows .mixedOrders=true) (hc:(t.chk .any ops n true (Array.replicate ops.size false)&&decide (t.size<=ops.size))=true)
  (hQ:∀c a (d:Tmp) v w,Q (.panic c) (Act.put a (some d) v) w->Q (.panic c) a w) (hS:S w.drew) (h:stepsL P ops Q S n t a w.drew):(Code.region id ops true).wp P Q a w:=by
 simp only[Bool.and_eq_true,decide_eq_true_eq]at hc;exact wp_region_any hm (wpAny_of_L _ _ _ _ ((wpL_of_steps hQ t true _ a w.drew hc.1 h).1 rfl (.inl hS) _ hc.2))
theorem plan_take {i:Nat} {t:Tr} {a:Act} {w:World} {o:Oper} (ho:ops[i]? =some o) (hw:Region.wanted o (yielded ops a.tmps)=true) (h:∃v,(∀w',S w'->(execOp a.eval o).run P w'=.ok (.value v) w')/\stepsL P ops Q S n t (a.put o.dst v) w):stepsL P ops Q S n (.take i t) a w:=
 let ⟨v,hv,h⟩:=h;⟨o,v,ho,.inl ⟨hw,hv⟩,h⟩
theorem plan_skip {i:Nat} {t:Tr} {a:Act} {w:World} {o:Oper} (ho:ops[i]? =some o) (hw:Region.wanted o (yielded ops a.tmps)=false) (h:stepsL P ops Q S n t (a.put o.dst undef) w):stepsL P ops Q S n (.take i t) a w:=
 ⟨o,undef,ho,.inr ⟨hw,rfl⟩,h⟩
theorem plan_alt {i:Nat} {t m:Tr} {a:Act} {w:World} {o:Oper} (ho:ops[i]? =some o) (h:∀K:Act->World->Prop,(∀a' w',(i=n\/S w')->stepsL P ops Q S n t a' w'->K a' w')->if Region.wanted o (yielded ops a.tmps)=true then Oper.wp P o a w K Q else K (a.put o.dst undef) w)
  (hm:stepsL P ops Q S n m a w):stepsL P ops Q S n (.alt i t m) a w:=
 ⟨wpOp_step ho fun K' hK=>h K' fun a' w' h1 h2=>hK a' w' ⟨h1,h2⟩,hm⟩
theorem plan_last {i:Nat} {t:Tr} {a:Act} {w:World} {o:Oper} (ho:ops[i]? =some o) (h:∀K:Act->World->Prop,(∀a' w',(i=n\/S w')->stepsL P ops Q S n t a' w'->K a' w')->if Region.wanted o (yielded ops a.tmps)=true then Oper.wp P o a w K Q else K (a.put o.dst undef) w):stepsL P ops Q S n (.alt i t .nomore) a w:=
 plan_alt ho h trivial
theorem plan_done {a:Act} {w:World} (h:Q .normal a w):stepsL P ops Q S n .done a w:=h
end
end Go.Proofs.YtcblbdpdbggkbaaGreat
namespace Go.Proofs.YtcblbdpdbggkbaaGreat
open Go.RowKit Go.Sort
section
variable {B a k:Nat} {w0 w:World} {l:List Ch}
end
section
variable {P:Program} {ops:Array Oper} {rest:List Oper} {o:Oper} {a:Act} {w w0:World} {Q:Exit->Act->World->Prop} {B b:Nat} {l:List Ch} {t:TypeId} {us vs:Array Value}
end
theorem pg3 {α:Type _} (a:α) (r:List α) (h:0<(a::r).length):(a::r)[0]=a:=rfl
theorem pg4 {α:Type _} (l:List α) (i:Nat) (a:α):l.toArray.setIfInBounds i a=(l.set i a).toArray:=List.setIfInBounds_toArray l i a
theorem pg5 {α:Type _} (a b:α) (r:List α):(a::r).set 0 b=b::r:=rfl
theorem pg6 {α:Type _} (a b:α) (r:List α) (i:Nat):(a::r).set (i+1) b=a::r.set i b:=rfl
def Tr.tk:Nat->Nat->Tr->Tr
 |_,0,t=>t
 |a,k+1,t=>.take a (Tr.tk (a+1) k t)
end Go.Proofs.YtcblbdpdbggkbaaGreat
set_option linter.unusedVariables false
namespace Go.Proofs.YtcblbdpdbggkbaaGreat
open Go.RowKit Go.Sort
theorem OwnI.keep {w w':World} {B:Nat} {v:Value} {zs:List Int} {row:Option Nat} (h:OwnI w B v zs) (hg:w.grownBy w' row) (hr:v.ownBlock≠row):OwnI w' B v zs:=World.ownsRow.kept h hg (.inr hr)
theorem OwnI.below {w w':World} {B:Nat} {v:Value} {zs:List Int} (h:OwnI w B v zs) (hb:Below w.heap.size w w'):OwnI w' B v zs:=h.kept (row:=Option.none) (grownBy_below hb) (fun _ e=>by cases e)
theorem OwnI.lt {w:World} {B:Nat} {p:Value} {zs:List Int} (hp:OwnI w B p zs):∀k,p.ownBlock=some k->k<w.heap.size:=fun k e=>(World.ownsRow.lt hp k e).2
theorem boxed_below {W w':World} {b:Nat} {t:TypeId} {v:Value} (h:Go.Boxed W b t v) (hb:Below W.heap.size W w'):Go.Boxed w' b t v:=(hb.block _ h.lt).trans h
def OwnRR (W:World) (B T:Nat) (v:Value) (rs:List (List Int)):Prop:=∃G C,OwnR W B v rs G C/\(∀k,v.ownBlock=some k->k<T)/\(∀i,i<rs.length->G i<T)/\T<=W.heap.size
theorem OwnR.bounds {W:World} {B:Nat} {v:Value} {rs:List (List Int)} {G C:Nat->Nat} (h:OwnR W B v rs G C):OwnRR W B W.heap.size v rs:=
 ⟨G,C,h,fun k e=>(World.ownsRow.lt h.hdr k e).2,fun i hi=>((h.row i hi).lt (G i) rfl).2,Nat.le_refl _⟩
theorem OwnRR.top {W:World} {B T:Nat} {v:Value} {rs:List (List Int)} (h:OwnRR W B T v rs):T<=W.heap.size:=by obtain⟨_,_,_,_,_,h⟩:=h;exact h
theorem OwnRR.rd {W:World} {B T:Nat} {v:Value} {rs:List (List Int)} (h:OwnRR W B T v rs):Rws W v rs:=by obtain⟨G,C,h,_⟩:=h;exact h.rws
theorem OwnRR.below {W W':World} {B T:Nat} {v:Value} {rs:List (List Int)} (h:OwnRR W B T v rs) (hb:Below W.heap.size W W'):OwnRR W' B T v rs:=by
 obtain⟨G,C,h,h1,h2,h3⟩:=h;exact⟨G,C,h.below hb lr_,h1,h2,Nat.le_trans h3 hb.size⟩
theorem OwnRR.alloc {W:World} {B T:Nat} {v:Value} {rs:List (List Int)} (h:OwnRR W B T v rs) (o:Obj):OwnRR (W.alloc o) B T v rs:=h.below ((Below.refl _ _).alloc lr_ o)
theorem OwnRR.nil (W:World) (B T:Nat) (hT:T<=W.heap.size):OwnRR W B T (.slice none 0 0) []:=
 ⟨fun _=>0,fun _=>0,⟨World.ownsRow_nil W B _ 1,fun i hi=>absurd hi (Nat.not_lt_zero i),fun i hi=>absurd hi (Nat.not_lt_zero i),fun i j hi=>absurd hi (Nat.not_lt_zero i)⟩,(fun k e=>by cases e),(fun i hi=>absurd hi (Nat.not_lt_zero i)),hT⟩
theorem EndR.own {w w':World} {ok:Bool} {rs:List (List Int)} {e:Ending} (h3:ok=true->rs.length=3) (h:EndR w ok rs e w'):
  ∃x c,e=.returned (.tuple #[.agg #[.slice x (resV ok rs).length c],.bool ok])/\OwnRR w' w.heap.size w'.heap.size (.slice x (resV ok rs).length c) (resV ok rs)/\Below w.heap.size w w':=by
 obtain⟨x,m,c,he,hb,h0,h1⟩:=h;cases ok with
 |false=>obtain⟨rfl,rfl,rfl⟩:=h0 rfl;exact⟨none,0,he,OwnRR.nil _ _ _ lr_,hb⟩
 |true=>
  obtain⟨rfl,G,C,ho⟩:=h1 rfl;have e3:(resV true rs).length=3:=h3 rfl;rw[e3];exact⟨x,c,he,ho.bounds,hb⟩
theorem ownsRow_keptB {w w':World} {B:Nat} {e:TypeId} {size:Nat} {v:Value} {n:Nat} {xs:List Value} {S:Nat->Prop} (h:w.ownsRow B e size v n xs) (hk:KeptB S w w') (hS:∀k,v.ownBlock=some k->¬S k):w'.ownsRow B e size v n xs:=by
 obtain⟨h1,h2⟩:=h;refine⟨h1,?_⟩;rcases h2 with h2|⟨g,cap,cur,hv,hg,hh,r⟩
 ·exact .inl h2
 ·refine .inr ⟨g,cap,cur,hv,hg,?_,r⟩
  rw[hk.block g (Array.getElem?_eq_some_iff.1 hh).1 (hS g (by rw[hv];rfl))];exact hh
theorem OwnRR.keptB {w w':World} {B T:Nat} {v:Value} {rs:List (List Int)} {S:Nat->Prop} (h:OwnRR w B T v rs) (hk:KeptB S w w') (hS:∀k,B<=k->k<T->¬S k):OwnRR w' B T v rs:=by
 obtain⟨G,C,h,h1,h2,h3⟩:=h;refine⟨G,C,⟨ownsRow_keptB h.hdr hk fun k e=>hS k (World.ownsRow.lt h.hdr k e).1 (h1 k e),fun i hi=>ownsRow_keptB (h.row i hi) hk fun k e=>?_,h.off,h.apart⟩,h1,h2,Nat.le_trans h3 hk.size⟩;have l:=(World.ownsRow.lt (h.row i hi) k e).1;have e':G i=k:=by simpa[rowV,Value.ownBlock]using e
 exact hS k l (by rw[<-e'];exact h2 i hi)
def addA (rs:List (List Int)) (t n:Int):List (List Int):=resV (addB rs t n) (addV rs t n)
def joinA (ra rb:List (List Int)):List (List Int):=resV (joinB ra rb) (joinV ra rb)
theorem spAddRR (W:World) (u:Value) (rs:List (List Int)) (t n:Int) (h:Rws W u rs):Calls Tryz.prog 310 #[.agg #[u],.int .i64 t,.int .i64 n] W fun e w'=>∃x c,e=.returned (.tuple #[.agg #[.slice x (addA rs t n).length c],.bool (addB rs t n)])/\OwnRR w' W.heap.size w'.heap.size (.slice x (addA rs t n).length c) (addA rs t n)/\Below W.heap.size W w':=
 (spAdd_end W u rs t n h).mono fun _ _ he=>he.own (fun _=>rfl)
theorem imAddRR (W:World) (u:Value) (rs:List (List Int)) (t n:Int) (h:Rws W u rs):Calls Tryz.prog 231 #[.agg #[u],.int .i64 t,.int .i64 n] W fun e w'=>∃x c,e=.returned (.tuple #[.agg #[.slice x (addA rs t n).length c],.bool (addB rs t n)])/\OwnRR w' W.heap.size w'.heap.size (.slice x (addA rs t n).length c) (addA rs t n)/\Below W.heap.size W w':=
 (imAdd_end W u rs t n h).mono fun _ _ he=>he.own (fun _=>rfl)
theorem imJoinRR (W:World) (u v:Value) (ra rb:List (List Int)) (ha:Rws W u ra) (hb:Rws W v rb):Calls Tryz.prog 195 #[.agg #[u],.agg #[v]] W fun e w'=>∃x c,e=.returned (.tuple #[.agg #[.slice x (joinA ra rb).length c],.bool (joinB ra rb)])/\OwnRR w' W.heap.size w'.heap.size (.slice x (joinA ra rb).length c) (joinA ra rb)/\Below W.heap.size W w':=
 (imJoin_end W u v ra rb ha hb).mono fun _ _ he=>he.own (fun _=>rfl)
end Go.Proofs.YtcblbdpdbggkbaaGreat
set_option linter.unusedVariables false
namespace Go.Proofs.YtcblbdpdbggkbaaGreat
open Go.RowKit Go.Sort
def Box7 (W:World) (b:Nat) (t:TypeId) (x0 x1 x2 x3 x4 x5 x6:Value):Prop:=W.heap[b]? =some (.cells #[x0,x1,x2,x3,x4,x5,x6] t (0,0))
section
variable {W W':World} {b:Nat} {t:TypeId} {x0 x1 x2 x3 x4 x5 x6:Value}
theorem Box7.lt (h:Box7 W b t x0 x1 x2 x3 x4 x5 x6):b<W.heap.size:=(Array.getElem?_eq_some_iff.1 h).1
theorem Box7.new (W:World) (t:TypeId) (x0 x1 x2 x3 x4 x5 x6:Value):Box7 (W.alloc (.cells #[x0,x1,x2,x3,x4,x5,x6] t)) W.heap.size t x0 x1 x2 x3 x4 x5 x6:=heap_alloc_new W _
theorem Box7.below (h:Box7 W b t x0 x1 x2 x3 x4 x5 x6) {B:Nat} (hb:Below B W W') (hB:b<B):Box7 W' b t x0 x1 x2 x3 x4 x5 x6:=(hb.block b hB).trans h
theorem Box7.later (h:Box7 W b t x0 x1 x2 x3 x4 x5 x6) (hb:Below W.heap.size W W'):Box7 W' b t x0 x1 x2 x3 x4 x5 x6:=h.below hb h.lt
theorem Box7.drew (h:Box7 W b t x0 x1 x2 x3 x4 x5 x6):Box7 W.drew b t x0 x1 x2 x3 x4 x5 x6:=h
theorem Box7.alloc (h:Box7 W b t x0 x1 x2 x3 x4 x5 x6) (o:Obj):Box7 (W.alloc o) b t x0 x1 x2 x3 x4 x5 x6:=h.later ((Below.refl _ _).alloc lr_ o)
theorem Box7.kept {row:Option Nat} (h:Box7 W b t x0 x1 x2 x3 x4 x5 x6) (hg:W.grownBy W' row) (hr:row≠some b):Box7 W' b t x0 x1 x2 x3 x4 x5 x6:=(hg.block b h.lt (fun e=>hr e.symm)).trans h
theorem Box7.cell0 (h:Box7 W b t x0 x1 x2 x3 x4 x5 x6):W.cell? ⟨b,0,none⟩=some x0:=by unfold Box7 at h;simp[World.cell?,h]
theorem Box7.cell1 (h:Box7 W b t x0 x1 x2 x3 x4 x5 x6):W.cell? ⟨b,1,none⟩=some x1:=by unfold Box7 at h;simp[World.cell?,h]
theorem Box7.cell2 (h:Box7 W b t x0 x1 x2 x3 x4 x5 x6):W.cell? ⟨b,2,none⟩=some x2:=by unfold Box7 at h;simp[World.cell?,h]
theorem Box7.cell3 (h:Box7 W b t x0 x1 x2 x3 x4 x5 x6):W.cell? ⟨b,3,none⟩=some x3:=by unfold Box7 at h;simp[World.cell?,h]
theorem Box7.cell4 (h:Box7 W b t x0 x1 x2 x3 x4 x5 x6):W.cell? ⟨b,4,none⟩=some x4:=by unfold Box7 at h;simp[World.cell?,h]
theorem Box7.cell5 (h:Box7 W b t x0 x1 x2 x3 x4 x5 x6):W.cell? ⟨b,5,none⟩=some x5:=by unfold Box7 at h;simp[World.cell?,h]
theorem Box7.cell6 (h:Box7 W b t x0 x1 x2 x3 x4 x5 x6):W.cell? ⟨b,6,none⟩=some x6:=by unfold Box7 at h;simp[World.cell?,h]
theorem Box7.cells (h:Box7 W b t x0 x1 x2 x3 x4 x5 x6):W.cell? ⟨b,0,none⟩=some x0/\W.cell? ⟨b,1,none⟩=some x1/\W.cell? ⟨b,2,none⟩=some x2/\W.cell? ⟨b,3,none⟩=some x3/\W.cell? ⟨b,4,none⟩=some x4/\W.cell? ⟨b,5,none⟩=some x5/\W.cell? ⟨b,6,none⟩=some x6:=
 ⟨h.cell0,h.cell1,h.cell2,h.cell3,h.cell4,h.cell5,h.cell6⟩
theorem Box7.free (h:Box7 W b t x0 x1 x2 x3 x4 x5 x6) (i:Nat):W.frozen? ⟨b,i,none⟩=false:=by unfold Box7 at h;simp[World.frozen?,h]
theorem Box7.set0 (h:Box7 W b t x0 x1 x2 x3 x4 x5 x6) (u:Value):Box7 (W.setCell ⟨b,0,none⟩ u) b t u x1 x2 x3 x4 x5 x6:=by unfold Box7 at h ⊢;rw[heap_setCell_same W b 0 _ _ _ h];rfl
theorem Box7.set1 (h:Box7 W b t x0 x1 x2 x3 x4 x5 x6) (u:Value):Box7 (W.setCell ⟨b,1,none⟩ u) b t x0 u x2 x3 x4 x5 x6:=by unfold Box7 at h ⊢;rw[heap_setCell_same W b 1 _ _ _ h];rfl
theorem Box7.set2 (h:Box7 W b t x0 x1 x2 x3 x4 x5 x6) (u:Value):Box7 (W.setCell ⟨b,2,none⟩ u) b t x0 x1 u x3 x4 x5 x6:=by unfold Box7 at h ⊢;rw[heap_setCell_same W b 2 _ _ _ h];rfl
theorem Box7.set3 (h:Box7 W b t x0 x1 x2 x3 x4 x5 x6) (u:Value):Box7 (W.setCell ⟨b,3,none⟩ u) b t x0 x1 x2 u x4 x5 x6:=by unfold Box7 at h ⊢;rw[heap_setCell_same W b 3 _ _ _ h];rfl
theorem Box7.set4 (h:Box7 W b t x0 x1 x2 x3 x4 x5 x6) (u:Value):Box7 (W.setCell ⟨b,4,none⟩ u) b t x0 x1 x2 x3 u x5 x6:=by unfold Box7 at h ⊢;rw[heap_setCell_same W b 4 _ _ _ h];rfl
theorem Box7.set5 (h:Box7 W b t x0 x1 x2 x3 x4 x5 x6) (u:Value):Box7 (W.setCell ⟨b,5,none⟩ u) b t x0 x1 x2 x3 x4 u x6:=by unfold Box7 at h ⊢;rw[heap_setCell_same W b 5 _ _ _ h];rfl
theorem Box7.set6 (h:Box7 W b t x0 x1 x2 x3 x4 x5 x6) (u:Value):Box7 (W.setCell ⟨b,6,none⟩ u) b t x0 x1 x2 x3 x4 x5 u:=by unfold Box7 at h ⊢;rw[heap_setCell_same W b 6 _ _ _ h];rfl
theorem Box7.not_row {B:Nat} {e:TypeId} {size n:Nat} {v:Value} {xs:List Value} (h:Box7 W b t x0 x1 x2 x3 x4 x5 x6) (ht:t≠e) (ho:W.ownsRow B e size v n xs):v.ownBlock≠some b:=fun hb=>by
 rcases ho.2 with ⟨rfl,_⟩|⟨g,cap,cur,rfl,_,hg,_⟩
 ·cases hb
 ·obtain rfl:g=b:=by simpa[Value.ownBlock]using hb
  unfold Box7 at h;rw[hg]at h;cases h;exact ht rfl
end
def set7 (W:World) (b:Nat) (x0 x1 x2 x3 x4 x5 x6:Value):World:=
 ((((((W.setCell ⟨b,0,none⟩ x0).setCell ⟨b,1,none⟩ x1).setCell ⟨b,2,none⟩ x2).setCell ⟨b,3,none⟩ x3).setCell ⟨b,4,none⟩ x4).setCell ⟨b,5,none⟩ x5).setCell ⟨b,6,none⟩ x6
theorem set7_grown (W:World) (b:Nat) (x0 x1 x2 x3 x4 x5 x6:Value):W.grownBy (set7 W b x0 x1 x2 x3 x4 x5 x6) (some b):=
 grownBy_trans (grownBy_trans (grownBy_trans (grownBy_trans (grownBy_trans (grownBy_trans (grownBy_setCell W ⟨b,0,none⟩ x0) (grownBy_setCell _ ⟨b,1,none⟩ x1)) (grownBy_setCell _ ⟨b,2,none⟩ x2)) (grownBy_setCell _ ⟨b,3,none⟩ x3)) (grownBy_setCell _ ⟨b,4,none⟩ x4)) (grownBy_setCell _ ⟨b,5,none⟩ x5)) (grownBy_setCell _ ⟨b,6,none⟩ x6)
theorem Box7.set {W:World} {b:Nat} {t:TypeId} {x0 x1 x2 x3 x4 x5 x6:Value} (h:Box7 W b t x0 x1 x2 x3 x4 x5 x6) (y0 y1 y2 y3 y4 y5 y6:Value):Box7 (set7 W b y0 y1 y2 y3 y4 y5 y6) b t y0 y1 y2 y3 y4 y5 y6:=
 ((((((h.set0 y0).set1 y1).set2 y2).set3 y3).set4 y4).set5 y5).set6 y6
theorem below_set7 {B b:Nat} {w W:World} (h:Below B w W) (hb:B<=b) (x0 x1 x2 x3 x4 x5 x6:Value):Below B w (set7 W b x0 x1 x2 x3 x4 x5 x6):=((((((h.setCell hb _).setCell hb _).setCell hb _).setCell hb _).setCell hb _).setCell hb _).setCell hb _
theorem set7_size (W:World) (b:Nat) (x0 x1 x2 x3 x4 x5 x6:Value):(set7 W b x0 x1 x2 x3 x4 x5 x6).heap.size=W.heap.size:=by unfold set7;simp
structure SV where
 xr:Option Addr
 nr:Nat
 cr:Nat
 xf:Option Addr
 nf:Nat
 cf:Nat
 xt:Option Addr
 nt:Nat
 ct:Nat
 xk:Option Addr
 nk:Nat
 ck:Nat
def SV.none:SV:=⟨.none,0,0,.none,0,0,.none,0,0,.none,0,0⟩
def SV.r (V:SV):Value:=.slice V.xr V.nr V.cr
def SV.f (V:SV):Value:=.slice V.xf V.nf V.cf
def SV.t (V:SV):Value:=.slice V.xt V.nt V.ct
def SV.k (V:SV):Value:=.slice V.xk V.nk V.ck
def BoxS (W:World) (b:Nat) (V:SV) (s:Sm):Prop:=Box7 W b 46 V.r V.f V.t (.int .i64 s.lo) (.int .i64 s.al) V.k (.int .i64 s.ka)
theorem BoxS.box {W:World} {b:Nat} {V:SV} {s:Sm} (h:BoxS W b V s):Box7 W b 46 (.slice V.xr V.nr V.cr) (.slice V.xf V.nf V.cf) (.slice V.xt V.nt V.ct) (.int .i64 s.lo) (.int .i64 s.al) (.slice V.xk V.nk V.ck) (.int .i64 s.ka):=h
theorem Ints.len {w:World} {x:Option Addr} {n c:Nat} {zs:List Int} (h:Ints w (.slice x n c) zs):n=zs.length:=by
 rcases h with ⟨e,rfl⟩|⟨b,o,cap,e,_⟩
 ·simp at e;simp[e]
 ·simp at e;omega
theorem Rws.len {w:World} {x:Option Addr} {n c:Nat} {zs:List (List Int)} (h:Rws w (.slice x n c) zs):n=zs.length:=by
 rcases h with ⟨e,rfl⟩|⟨b,o,cap,e,_⟩
 ·simp at e;simp[e]
 ·simp at e;omega
theorem T.Prs.len {w:World} {x:Option Addr} {n c:Nat} {zs:List T.Pr} (h:T.Prs w (.slice x n c) zs):n=zs.length:=by
 rcases h with ⟨e,rfl⟩|⟨b,o,cap,e,_⟩
 ·simp at e;simp[e]
 ·simp at e;omega
theorem K.Prs.len {w:World} {x:Option Addr} {n c:Nat} {zs:List K.Pr} (h:K.Prs w (.slice x n c) zs):n=zs.length:=by
 rcases h with ⟨e,rfl⟩|⟨b,o,cap,e,_⟩
 ·simp at e;simp[e]
 ·simp at e;omega
structure RdS (w:World) (V:SV) (s:Sm):Prop where
 r:Rws w V.r s.rs
 f:Ints w V.f s.zs
 t:T.Prs w V.t s.ps
 k:K.Prs w V.k s.ks
theorem RdS.below {w w':World} {V:SV} {s:Sm} (h:RdS w V s) {B:Nat} (hb:Below B w w') (hB:w.heap.size<=B):RdS w' V s:=⟨h.r.below hb hB,h.f.below hb hB,h.t.below hb hB,h.k.below hb hB⟩
theorem RdS.lens {w:World} {V:SV} {s:Sm} (h:RdS w V s):V.nr=s.rs.length/\V.nf=s.zs.length/\V.nt=s.ps.length/\V.nk=s.ks.length:=⟨Rws.len h.r,Ints.len h.f,T.Prs.len h.t,K.Prs.len h.k⟩
theorem RdS.later {w w':World} {V:SV} {s:Sm} (h:RdS w V s) (hb:Below w.heap.size w w'):RdS w' V s:=h.below hb lr_
theorem RdS.alloc {w:World} {V:SV} {s:Sm} (h:RdS w V s) (o:Obj):RdS (w.alloc o) V s:=h.later ((Below.refl _ _).alloc lr_ o)
theorem RdS.drew {w:World} {V:SV} {s:Sm} (h:RdS w V s):RdS w.drew V s:=h.later (Below.drew (Below.refl _ _))
structure OwnS (w:World) (B U:Nat) (V:SV) (s:Sm):Prop where
 mid:∃M,B<=M/\M<=U/\OwnRR w B M V.r s.rs/\OwnI w M V.f s.zs
 t:T.OwnP w B V.t s.ps
 k:K.OwnP w B V.k s.ks
 ft:∀g,V.f.ownBlock=some g->g<U
 tt:∀g,V.t.ownBlock=some g->g<U
 kt:∀g,V.k.ownBlock=some g->g<U
 top:U<=w.heap.size
theorem OwnS.rd {w:World} {B U:Nat} {V:SV} {s:Sm} (h:OwnS w B U V s):RdS w V s:=by
 obtain⟨M,_,_,hr,hf⟩:=h.mid;exact⟨hr.rd,hf.rd,h.t.rd,h.k.rd⟩
theorem OwnS.below {w w':World} {B U:Nat} {V:SV} {s:Sm} (h:OwnS w B U V s) (hb:Below w.heap.size w w'):OwnS w' B U V s:=by
 obtain⟨M,h1,h2,hr,hf⟩:=h.mid;exact⟨⟨M,h1,h2,hr.below hb,hf.below hb⟩,h.t.below hb,h.k.below hb,h.ft,h.tt,h.kt,Nat.le_trans h.top hb.size⟩
theorem OwnS.alloc {w:World} {B U:Nat} {V:SV} {s:Sm} (h:OwnS w B U V s) (o:Obj):OwnS (w.alloc o) B U V s:=h.below ((Below.refl _ _).alloc lr_ o)
theorem OwnRR.base {w:World} {B B' U:Nat} {v:Value} {rs:List (List Int)} (h:OwnRR w B U v rs) (hB:B'<=B):OwnRR w B' U v rs:=by
 obtain⟨G,C,h,h1,h2,h3⟩:=h;exact⟨G,C,⟨ownsRow_base h.hdr hB,fun i hi=>ownsRow_base (h.row i hi) hB,h.off,h.apart⟩,h1,h2,h3⟩
theorem OwnRR.upto {w:World} {B U U':Nat} {v:Value} {rs:List (List Int)} (h:OwnRR w B U v rs) (hU:U<=U') (hU':U'<=w.heap.size):OwnRR w B U' v rs:=by
 obtain⟨G,C,h,h1,h2,h3⟩:=h;exact⟨G,C,h,fun k e=>Nat.lt_of_lt_of_le (h1 k e) hU,fun i hi=>Nat.lt_of_lt_of_le (h2 i hi) hU,hU'⟩
theorem OwnS.base {w:World} {B B' U U':Nat} {V:SV} {s:Sm} (h:OwnS w B U V s) (hB:B'<=B) (hT:U<=U') (hU':U'<=w.heap.size):OwnS w B' U' V s:=by
 obtain⟨M,h1,h2,hr,hf⟩:=h.mid;exact⟨⟨M,by omega,by omega,hr.base hB,hf⟩,ownsRow_base h.t hB,ownsRow_base h.k hB,fun g e=>by have:=h.ft g e;omega,fun g e=>by have:=h.tt g e;omega,fun g e=>by have:=h.kt g e;omega,hU'⟩
theorem OwnS.none (w:World) (B U:Nat) (hB:B<=U) (hT:U<=w.heap.size):OwnS w B U SV.none noSm:=
 ⟨⟨U,hB,Nat.le_refl _,OwnRR.nil _ _ _ hT,World.ownsRow_nil _ _ _ _⟩,World.ownsRow_nil _ _ _ _,World.ownsRow_nil _ _ _ _,fun _ e=>(by cases e),fun _ e=>(by cases e),fun _ e=>(by cases e),hT⟩
end Go.Proofs.YtcblbdpdbggkbaaGreat
set_option linter.unusedVariables false
namespace Go.Proofs.YtcblbdpdbggkbaaGreat
open Go.RowKit Go.Sort
theorem own_ne {w:World} {B B':Nat} {e e':TypeId} {z z' n n':Nat} {u v:Value} {xs ys:List Value} (h:w.ownsRow B e z u n xs) (h':w.ownsRow B' e' z' v n' ys) (he:e≠e'):u.ownBlock=none\/u.ownBlock≠v.ownBlock:=by
 rcases h.2 with ⟨rfl,_⟩|⟨g,cap,cur,rfl,_,hg,_⟩
 ·exact .inl rfl
 ·refine .inr fun q=>?_
  rcases h'.2 with ⟨rfl,_⟩|⟨g',cap',cur',rfl,_,hg',_⟩
  ·cases q
  ·have q':g=g':=by simpa[Value.ownBlock]using q
   subst q';rw[hg]at hg';simp at hg';exact he hg'.2
end Go.Proofs.YtcblbdpdbggkbaaGreat
set_option linter.unusedVariables false
set_option linter.unusedSectionVars false
set_option linter.unusedSimpArgs false
namespace Go.Proofs.YtcblbdpdbggkbaaGreat.N
open Go.RowKit Go.Sort
structure En where
 node:Int
 born:Int
 num:Int
 s:Sm
structure Nd where
 born:Int
 known:List En
 beacon:Int
 level:Int
 up:Int
structure Wd where
 kind:Int
 src:Int
 dst:Int
 beacon:Int
 level:Int
 known:List En
structure Nt where
 nodes:List Nd
 links:List Bool
 words:List Wd
 past:List (List (List Int))
def in6 (x a b:Int):Bool:=decide (a<=x/\x<=b)
def noNd:Nd:=⟨0,[],0,0,0⟩
def nodeAt (n:Nt) (i:Int):Nd:=n.nodes.getD i.toNat noNd
def rowsAt (n:Nt) (i:Int):List (List Int):=n.past.getD i.toNat []
def pastAt (n:Nt) (i b:Int):List Int:=(rowsAt n i).getD b.toNat []
def whole (n:Nt) (a b:Int):Bool:=n.links.getD (a * 5+b).toNat false
def isNode (i:Int):Prop:=0<=i/\i<=4
structure TrueE (n:Nt) (e:En):Prop where
 node:isNode e.node
 born:1<=e.born/\e.born<=(nodeAt n e.node).born
 num:0<=e.num/\e.num<=(pastAt n e.node e.born).length
 ok:okS (upS ((pastAt n e.node e.born).take e.num.toNat))=true
 s:e.s=upS ((pastAt n e.node e.born).take e.num.toNat)
def Before (x y:En):Prop:=x.node<y.node
structure KnownOk (n:Nt) (es:List En):Prop where
 all:∀e ∈ es,TrueE n e
 asc:es.Pairwise Before
def findE (es:List En) (i:Int):Option En:=es.find? fun e=>e.node==i
structure PastOk (n:Nt) (i:Int):Prop where
 len:((rowsAt n i).length:Int)=(nodeAt n i).born+1
 none:pastAt n i 0=[]
 few:∀l ∈ rowsAt n i,l.length<=100
 things:∀l ∈ rowsAt n i,∀t ∈ l,0<=t/\t<=63
def OwnOk (n:Nt) (i:Int):Prop:=∃e,findE (nodeAt n i).known i=some e/\e.born=(nodeAt n i).born/\e.num=(pastAt n i (nodeAt n i).born).length
structure WayOk (n:Nt) (i:Int):Prop where
 beacon:0<=(nodeAt n i).beacon/\(nodeAt n i).beacon<=(nodeAt n 0).beacon
 root:i=0->(nodeAt n i).level=0/\(nodeAt n i).up= -1
 level:i≠0->1<=(nodeAt n i).level/\(nodeAt n i).level<=5
 none:i≠0->((nodeAt n i).up= -1↔(nodeAt n i).level=5)
 up:i≠0->(-1<=(nodeAt n i).up/\(nodeAt n i).up<=4)/\(nodeAt n i).up≠i
structure WordOk (n:Nt) (w:Wd):Prop where
 src:isNode w.src
 dst:isNode w.dst
 other:w.src≠w.dst
 kind:w.kind=1/\(0<=w.beacon/\w.beacon<=(nodeAt n 0).beacon)/\(0<=w.level/\w.level<=4)/\w.known=[]\/w.kind=2/\w.beacon=0/\w.level=0/\KnownOk n w.known
structure NetOk (n:Nt):Prop where
 nodes:n.nodes.length=5
 past:n.past.length=5
 links:n.links.length=25
 words:n.words.length<=24
 born:∀i,isNode i->1<=(nodeAt n i).born/\(nodeAt n i).born<=20
 pasts:∀i,isNode i->PastOk n i
 self:∀i,isNode i->whole n i i=false
 either:∀i j,isNode i->isNode j->whole n i j=whole n j i
 own:∀i,isNode i->OwnOk n i
 known:∀i,isNode i->KnownOk n (nodeAt n i).known
 way:∀i,isNode i->WayOk n i
 word:∀w ∈ n.words,WordOk n w
 beacon:(nodeAt n 0).beacon<=1000
theorem find_none {es:List En} {i:Int} (h:∀e ∈ es,e.node≠i):findE es i=none:=by
 unfold findE;rw[List.find?_eq_none];intro e he;simpa using h e he
instance (i:Int):Decidable (isNode i):=by unfold isNode;infer_instance
end Go.Proofs.YtcblbdpdbggkbaaGreat.N
namespace Go.Proofs.YtcblbdpdbggkbaaGreat
open Go.RowKit Go.Sort
def encP2 (p:Int × Int):List Value:=[.int .i64 p.1,.int .i64 p.2]
def pairsR:Rep (List (Int × Int)):=flR 213 2 encP2
def knotsR:Rep (List (Int × Int)):=flR 152 2 encP2
theorem pairsR_frame:pairsR.Frame:=flR_frame
theorem knotsR_frame:knotsR.Frame:=flR_frame
theorem ints_flat (zs:List Int):zs.flatMap encI=ints zs:=by
 induction zs with
 |nil=>rfl
 |cons z zs ih=>rw[List.flatMap_cons,ih];rfl
theorem intsR_of {w:World} {B:Nat} {v:Value} {zs:List Int} (h:OwnI w B v zs):intsR w [v] zs v.ownBlock.toList:=
 .inl (slc_flat_of (by rw[ints_flat];exact h) (fun _=>rfl))
theorem intsR_to {w:World} {cs:List Value} {zs:List Int} {fp:List Nat} (h:intsR w cs zs fp):∃v,cs=[v]/\Ints w v zs/\(zs≠[]->OwnI w 0 v zs/\fp=v.ownBlock.toList):=by
 rcases h with h|⟨rfl,rfl,b,o,rfl,hb⟩
 ·obtain⟨v,e,ho,hf⟩:=slc_flat_to h
  rw[ints_flat]at ho;exact⟨v,e,OwnI.rd ho,fun _=>⟨ho,hf⟩⟩
 ·exact⟨_,rfl,.inr ⟨b,o,0,rfl,Nat.le_refl _,Nat.zero_le _,hb,fun i hi=>absurd hi (Nat.not_lt_zero i)⟩,fun q=>absurd rfl q⟩
theorem pairsR_of {w:World} {B:Nat} {v:Value} {ps:List T.Pr} (h:T.OwnP w B v ps):pairsR w [v] ps v.ownBlock.toList:=.inl (slc_flat_of h (fun _=>rfl))
theorem pairsR_to {w:World} {cs:List Value} {ps:List T.Pr} {fp:List Nat} (h:pairsR w cs ps fp):∃v,cs=[v]/\T.Prs w v ps/\(ps≠[]->T.OwnP w 0 v ps/\fp=v.ownBlock.toList):=by
 rcases h with h|⟨rfl,rfl,b,o,rfl,hb⟩
 ·obtain⟨v,e,ho,hf⟩:=slc_flat_to h
  exact⟨v,e,T.OwnP.rd ho,fun _=>⟨ho,hf⟩⟩
 ·exact⟨_,rfl,.inr ⟨b,o,0,rfl,Nat.le_refl _,Nat.zero_le _,hb,fun i hi=>absurd hi (Nat.not_lt_zero i)⟩,fun q=>absurd rfl q⟩
theorem knotsR_of {w:World} {B:Nat} {v:Value} {ps:List K.Pr} (h:K.OwnP w B v ps):knotsR w [v] ps v.ownBlock.toList:=.inl (slc_flat_of h (fun _=>rfl))
theorem knotsR_to {w:World} {cs:List Value} {ps:List K.Pr} {fp:List Nat} (h:knotsR w cs ps fp):∃v,cs=[v]/\K.Prs w v ps/\(ps≠[]->K.OwnP w 0 v ps/\fp=v.ownBlock.toList):=by
 rcases h with h|⟨rfl,rfl,b,o,rfl,hb⟩
 ·obtain⟨v,e,ho,hf⟩:=slc_flat_to h
  exact⟨v,e,K.OwnP.rd ho,fun _=>⟨ho,hf⟩⟩
 ·exact⟨_,rfl,.inr ⟨b,o,0,rfl,Nat.le_refl _,Nat.zero_le _,hb,fun i hi=>absurd hi (Nat.not_lt_zero i)⟩,fun q=>absurd rfl q⟩
theorem rowsR_of {w:World} {B:Nat} {v:Value} {rs:List (List Int)} {G C:Nat->Nat} (h:OwnR w B v rs G C):rowsR w [v] rs (v.ownBlock.toList++(List.range rs.length).map G):=by
 refine⟨v,fun i=>[rowV rs G C i],fun i=>[G i],rfl,?_,fun i hi=>rfl,fun i a hi=>?_,?_⟩
 ·rw[one_flat]
  exact ownsRow_base h.hdr (Nat.zero_le _)
 ·have hlt:=(List.getElem?_eq_some_iff.1 hi).1
  have e:rs.getD i []=a:=by rw[List.getD_eq_getElem?_getD,hi];rfl
  have r:=h.row i hlt;rw[e]at r;exact intsR_of r
 ·rw[one_flat]
theorem rowsR_rd {w:World} {cs:List Value} {rs:List (List Int)} {fp:List Nat} (h:rowsR w cs rs fp):∃v,cs=[v]/\Rws w v rs:=by
 obtain⟨v,c,f,rfl,ho,hl,ha,rfl⟩:=h;refine⟨v,rfl,?_⟩;rcases ho.2 with ⟨rfl,h0⟩|⟨g,cap,cur,rfl,hb,hg,hn,hc,hs,ht⟩
 ·exact .inl ⟨rfl,List.eq_nil_of_length_eq_zero h0⟩
 ·refine .inr ⟨g,0,cap,rfl,hn,hc,(Array.getElem?_eq_some_iff.1 hg).1,fun i hi=>?_⟩
  obtain⟨x,hx,hox,_⟩:=intsR_to (ha i _ (List.getElem?_eq_getElem hi));have q:=World.ownsRow.cellAt ho i (by omega);have z:=flat_at (k:=0) hl hi (by omega);rw[Nat.mul_one,Nat.add_zero]at z;refine⟨x,by rw[Nat.zero_add,q,z,hx];rfl,?_⟩;rw[List.getD_eq_getElem?_getD,List.getElem?_eq_getElem hi];exact hox
def sumR:Rep Sm:=fun w cs s fp=>∃V f1 f2 f3 f4,cs=[.slice V.xr V.nr V.cr,.slice V.xf V.nf V.cf,.slice V.xt V.nt V.ct,.int .i64 s.lo,.int .i64 s.al,.slice V.xk V.nk V.ck,.int .i64 s.ka]/\fp=f1++(f2++(f3++f4))/\rowsR w [SV.r V] s.rs f1/\intsR w [SV.f V] s.zs f2/\pairsR w [SV.t V] s.ps f3/\knotsR w [SV.k V] s.ks f4
theorem sumR_frame:sumR.Frame:=by
 refine⟨?_,?_⟩
 ·rintro w cs s fp ⟨V,f1,f2,f3,f4,rfl,rfl,h1,h2,h3,h4⟩ b hm
  simp only[List.mem_append]at hm;rcases hm with hm|hm|hm|hm
  ·exact rowsR_frame.lt h1 b hm
  ·exact intsR_frame.lt h2 b hm
  ·exact pairsR_frame.lt h3 b hm
  ·exact knotsR_frame.lt h4 b hm
 ·rintro w w' cs s fp ⟨V,f1,f2,f3,f4,rfl,rfl,h1,h2,h3,h4⟩ hk hs
  exact⟨V,f1,f2,f3,f4,rfl,rfl,rowsR_frame.keep h1 (fun b hm=>hk b (by simp[hm])) hs,intsR_frame.keep h2 (fun b hm=>hk b (by simp[hm])) hs,pairsR_frame.keep h3 (fun b hm=>hk b (by simp[hm])) hs,knotsR_frame.keep h4 (fun b hm=>hk b (by simp[hm])) hs⟩
theorem sumR_rd {w:World} {cs:List Value} {s:Sm} {fp:List Nat} (h:sumR w cs s fp):∃V,cs=[.slice V.xr V.nr V.cr,.slice V.xf V.nf V.cf,.slice V.xt V.nt V.ct,.int .i64 s.lo,.int .i64 s.al,.slice V.xk V.nk V.ck,.int .i64 s.ka]/\RdS w V s:=by
 obtain⟨V,f1,f2,f3,f4,rfl,rfl,h1,h2,h3,h4⟩:=h;obtain⟨v1,e1,r1⟩:=rowsR_rd h1;obtain⟨v2,e2,r2,_⟩:=intsR_to h2;obtain⟨v3,e3,r3,_⟩:=pairsR_to h3;obtain⟨v4,e4,r4,_⟩:=knotsR_to h4;cases e1;cases e2;cases e3;cases e4;exact⟨V,rfl,r1,r2,r3,r4⟩
theorem OwnS.rep {w:World} {B U:Nat} {V:SV} {s:Sm} (h:OwnS w B U V s):∃fp,sumR w [.slice V.xr V.nr V.cr,.slice V.xf V.nf V.cf,.slice V.xt V.nt V.ct,.int .i64 s.lo,.int .i64 s.al,.slice V.xk V.nk V.ck,.int .i64 s.ka] s fp/\fp.Nodup/\∀b ∈ fp,B<=b/\b<U:=by
 obtain⟨M,m1,m2,⟨G,C,o,q1,q2,q3⟩,hf⟩:=h.mid;refine⟨_,⟨V,_,_,_,_,rfl,rfl,rowsR_of o,intsR_of hf,pairsR_of h.t,knotsR_of h.k⟩,?_,?_⟩
 ·have gG:∀i,i<s.rs.length->B<=G i/\G i<M:=fun i hi=>⟨((o.row i hi).lt (G i) rfl).1,q2 i hi⟩
  have gr:∀b,V.r.ownBlock=some b->B<=b/\b<M:=fun b e=>⟨(World.ownsRow.lt o.hdr b e).1,q1 b e⟩
  have gf:∀b,V.f.ownBlock=some b->M<=b:=fun b e=>(World.ownsRow.lt hf b e).1
  have tr:∀b,V.t.ownBlock=some b->V.r.ownBlock≠some b:=fun b e e'=>by
   rcases own_ne h.t o.hdr (by decide)with n|n
   ·rw[n]at e;cases e
   ·exact n (e.trans e'.symm)
  have tg:∀b,V.t.ownBlock=some b->∀i,i<s.rs.length->G i≠b:=fun b e i hi e'=>by
   rcases own_ne h.t (o.row i hi) (by decide)with n|n
   ·rw[n]at e;cases e
   ·exact n (e.trans (by rw[<-e'];rfl))
  have tf:∀b,V.t.ownBlock=some b->V.f.ownBlock≠some b:=fun b e e'=>by
   rcases own_ne h.t hf (by decide)with n|n
   ·rw[n]at e;cases e
   ·exact n (e.trans e'.symm)
  have kr:∀b,V.k.ownBlock=some b->V.r.ownBlock≠some b:=fun b e e'=>by
   rcases own_ne h.k o.hdr (by decide)with n|n
   ·rw[n]at e;cases e
   ·exact n (e.trans e'.symm)
  have kg:∀b,V.k.ownBlock=some b->∀i,i<s.rs.length->G i≠b:=fun b e i hi e'=>by
   rcases own_ne h.k (o.row i hi) (by decide)with n|n
   ·rw[n]at e;cases e
   ·exact n (e.trans (by rw[<-e'];rfl))
  have kf:∀b,V.k.ownBlock=some b->V.f.ownBlock≠some b:=fun b e e'=>by
   rcases own_ne h.k hf (by decide)with n|n
   ·rw[n]at e;cases e
   ·exact n (e.trans e'.symm)
  have kt:∀b,V.k.ownBlock=some b->V.t.ownBlock≠some b:=fun b e e'=>by
   rcases own_ne h.k h.t (by decide)with n|n
   ·rw[n]at e;cases e
   ·exact n (e.trans e'.symm)
  refine List.nodup_append.2 ⟨List.nodup_append.2 ⟨block_nodup _,?_,?_⟩,List.nodup_append.2 ⟨block_nodup _,List.nodup_append.2 ⟨block_nodup _,block_nodup _,?_⟩,?_⟩,?_⟩
  ·exact List.pairwise_map.2 (List.Pairwise.imp_of_mem (fun {i j} hi hj q e=>o.apart i j (List.mem_range.1 hi) (List.mem_range.1 hj) q e) List.nodup_range)
  ·intro a ha b hb e
   obtain⟨i,hi,rfl⟩:=List.mem_map.1 hb;exact o.off i (List.mem_range.1 hi) (by rw[block_mem ha,e])
  ·intro a ha b hb e
   exact kt b (block_mem hb) (by rw[block_mem ha,e])
  ·intro a ha b hb e
   rcases List.mem_append.1 hb with hb|hb
   ·exact tf b (block_mem hb) (by rw[block_mem ha,e])
   ·exact kf b (block_mem hb) (by rw[block_mem ha,e])
  ·intro a ha b hb e
   subst e;rcases List.mem_append.1 ha with ha|ha
   ·have e1:=block_mem ha
    rcases List.mem_append.1 hb with hb|hb
    ·have:=gf a (block_mem hb);have:=(gr a e1).2;omega
    ·rcases List.mem_append.1 hb with hb|hb
     ·exact tr a (block_mem hb) e1
     ·exact kr a (block_mem hb) e1
   ·obtain⟨i,hi,rfl⟩:=List.mem_map.1 ha
    have hi:=List.mem_range.1 hi;rcases List.mem_append.1 hb with hb|hb
    ·have:=gf _ (block_mem hb);have:=(gG i hi).2;omega
    ·rcases List.mem_append.1 hb with hb|hb
     ·exact tg _ (block_mem hb) i hi rfl
     ·exact kg _ (block_mem hb) i hi rfl
 ·intro b hb
  simp only[List.mem_append]at hb;rcases hb with (hb|hb)|hb|hb|hb
  ·have e:=block_mem hb
   have:=(World.ownsRow.lt o.hdr b e).1;have:=q1 b e;omega
  ·obtain⟨i,hi,rfl⟩:=List.mem_map.1 hb
   have hi:=List.mem_range.1 hi;have:=((o.row i hi).lt (G i) rfl).1;have:=q2 i hi;omega
  ·have e:=block_mem hb
   have:=(World.ownsRow.lt hf b e).1;have:=h.ft b e;omega
  ·have e:=block_mem hb
   exact⟨(World.ownsRow.lt h.t b e).1,h.tt b e⟩
  ·have e:=block_mem hb
   exact⟨(World.ownsRow.lt h.k b e).1,h.kt b e⟩
end Go.Proofs.YtcblbdpdbggkbaaGreat
namespace Go.Proofs.YtcblbdpdbggkbaaGreat
open Go.RowKit Go.Sort
namespace N
structure Ty where
 entry:TypeId
 node:TypeId
 word:TypeId
 bool:TypeId
 rows:TypeId
variable {T:Ty}
def encB (b:Bool):List Value:=[.bool b]
def entryR:Rep En:=viaR (andR intR (andR intR (andR intR sumR))) fun e=>(e.node,e.born,e.num,e.s)
def knownR (T:Ty):Rep (List En):=slcR T.entry 10 entryR
def nodeR (T:Ty):Rep Nd:=viaR (andR intR (andR (knownR T) (andR intR (andR intR intR)))) fun x=>(x.born,x.known,x.beacon,x.level,x.up)
def wordR (T:Ty):Rep Wd:=viaR (andR intR (andR intR (andR intR (andR intR (andR intR (knownR T)))))) fun x=>(x.kind,x.src,x.dst,x.beacon,x.level,x.known)
def nodesR (T:Ty):Rep (List Nd):=slcR T.node 5 (nodeR T)
def wordsR (T:Ty):Rep (List Wd):=slcR T.word 6 (wordR T)
def linksR (T:Ty):Rep (List Bool):=slcR T.bool 1 (flatR encB)
def pastR (T:Ty):Rep (List (List (List Int))):=slcR T.rows 1 rowsR
def netR (T:Ty):Rep Nt:=viaR (andR (nodesR T) (andR (linksR T) (andR (wordsR T) (pastR T)))) fun n=>(n.nodes,n.links,n.words,n.past)
theorem entryR_frame:entryR.Frame:=viaR_frame (andR_frame intR_frame (andR_frame intR_frame (andR_frame intR_frame sumR_frame))) _
theorem knownR_frame:(knownR T).Frame:=slcR_frame entryR_frame _ _
theorem nodeR_frame:(nodeR T).Frame:=viaR_frame (andR_frame intR_frame (andR_frame knownR_frame (andR_frame intR_frame (andR_frame intR_frame intR_frame)))) _
theorem wordR_frame:(wordR T).Frame:=viaR_frame (andR_frame intR_frame (andR_frame intR_frame (andR_frame intR_frame (andR_frame intR_frame (andR_frame intR_frame knownR_frame))))) _
theorem nodesR_frame:(nodesR T).Frame:=slcR_frame nodeR_frame _ _
theorem wordsR_frame:(wordsR T).Frame:=slcR_frame wordR_frame _ _
theorem linksR_frame:(linksR T).Frame:=slcR_frame (flatR_frame _) _ _
theorem pastR_frame:(pastR T).Frame:=slcR_frame rowsR_frame _ _
theorem netR_frame:(netR T).Frame:=viaR_frame (andR_frame nodesR_frame (andR_frame linksR_frame (andR_frame wordsR_frame pastR_frame))) _
section
variable {w:World} {cs:List Value} {fp:List Nat}
theorem entryR_iff {e:En}:entryR w cs e fp↔∃c,cs=.int .i64 e.node::.int .i64 e.born::.int .i64 e.num::c/\sumR w c e.s fp:=by
 constructor
 ·rintro⟨_,_,_,_,rfl,rfl,⟨rfl,rfl⟩,⟨_,_,_,_,rfl,rfl,⟨rfl,rfl⟩,⟨_,_,_,_,rfl,rfl,⟨rfl,rfl⟩,h⟩⟩⟩
  exact⟨_,rfl,h⟩
 ·rintro⟨c,rfl,h⟩
  exact⟨[_],_,[],fp,rfl,rfl,⟨rfl,rfl⟩,⟨[_],_,[],fp,rfl,rfl,⟨rfl,rfl⟩,⟨[_],_,[],fp,rfl,rfl,⟨rfl,rfl⟩,h⟩⟩⟩
theorem nodeR_iff {x:Nd}:nodeR T w cs x fp↔∃v,cs=[.int .i64 x.born,v,.int .i64 x.beacon,.int .i64 x.level,.int .i64 x.up]/\knownR T w [v] x.known fp:=by
 constructor
 ·rintro⟨_,_,_,_,rfl,rfl,⟨rfl,rfl⟩,⟨_,_,_,_,rfl,rfl,h,⟨_,_,_,_,rfl,rfl,⟨rfl,rfl⟩,⟨_,_,_,_,rfl,rfl,⟨rfl,rfl⟩,⟨rfl,rfl⟩⟩⟩⟩⟩
  obtain⟨v,c,f,rfl,h'⟩:=h;refine⟨v,rfl,?_⟩;simp only[List.nil_append,List.append_nil];exact⟨v,c,f,rfl,h'⟩
 ·rintro⟨v,rfl,h⟩
  refine⟨[_],[v,_,_,_],[],fp,rfl,rfl,⟨rfl,rfl⟩,⟨[v],[_,_,_],fp,[],rfl,(List.append_nil _).symm,h,⟨[_],[_,_],[],[],rfl,rfl,⟨rfl,rfl⟩,⟨[_],[_],[],[],rfl,rfl,⟨rfl,rfl⟩,⟨rfl,rfl⟩⟩⟩⟩⟩
theorem wordR_iff {x:Wd}:wordR T w cs x fp↔∃v,cs=[.int .i64 x.kind,.int .i64 x.src,.int .i64 x.dst,.int .i64 x.beacon,.int .i64 x.level,v]/\knownR T w [v] x.known fp:=by
 constructor
 ·rintro⟨_,_,_,_,rfl,rfl,⟨rfl,rfl⟩,⟨_,_,_,_,rfl,rfl,⟨rfl,rfl⟩,⟨_,_,_,_,rfl,rfl,⟨rfl,rfl⟩,⟨_,_,_,_,rfl,rfl,⟨rfl,rfl⟩,⟨_,_,_,_,rfl,rfl,⟨rfl,rfl⟩,h⟩⟩⟩⟩⟩
  obtain⟨v,c,f,rfl,h'⟩:=h;exact⟨v,rfl,⟨v,c,f,rfl,h'⟩⟩
 ·rintro⟨v,rfl,h⟩
  exact⟨[_],_,[],fp,rfl,rfl,⟨rfl,rfl⟩,⟨[_],_,[],fp,rfl,rfl,⟨rfl,rfl⟩,⟨[_],_,[],fp,rfl,rfl,⟨rfl,rfl⟩,⟨[_],_,[],fp,rfl,rfl,⟨rfl,rfl⟩,⟨[_],_,[],fp,rfl,rfl,⟨rfl,rfl⟩,h⟩⟩⟩⟩⟩
theorem netR_iff {n:Nt}:netR T w cs n fp↔∃v1 v2 v3 v4 f1 f2 f3 f4,cs=[v1,v2,v3,v4]/\fp=f1++(f2++(f3++f4))/\nodesR T w [v1] n.nodes f1/\linksR T w [v2] n.links f2/\wordsR T w [v3] n.words f3/\pastR T w [v4] n.past f4:=by
 constructor
 ·rintro⟨_,_,f1,_,rfl,rfl,⟨v1,a1,b1,rfl,h1⟩,⟨_,_,f2,_,rfl,rfl,⟨v2,a2,b2,rfl,h2⟩,⟨_,_,f3,f4,rfl,rfl,⟨v3,a3,b3,rfl,h3⟩,⟨v4,a4,b4,rfl,h4⟩⟩⟩⟩
  exact⟨v1,v2,v3,v4,f1,f2,f3,f4,rfl,rfl,⟨v1,a1,b1,rfl,h1⟩,⟨v2,a2,b2,rfl,h2⟩,⟨v3,a3,b3,rfl,h3⟩,⟨v4,a4,b4,rfl,h4⟩⟩
 ·rintro⟨v1,v2,v3,v4,f1,f2,f3,f4,rfl,rfl,h1,h2,h3,h4⟩
  exact⟨[v1],[v2,v3,v4],f1,_,rfl,rfl,h1,⟨[v2],[v3,v4],f2,_,rfl,rfl,h2,⟨[v3],[v4],f3,f4,rfl,rfl,h3,h4⟩⟩⟩
end
end N
end Go.Proofs.YtcblbdpdbggkbaaGreat
namespace Go.Proofs.YtcblbdpdbggkbaaGreat
open Go.RowKit Go.Sort
section
variable {α:Type} {A:Rep α} {e:TypeId} {size:Nat} {w:World} {B:Nat} {xs:List α} {fp:List Nat}
end
namespace N
variable {T:Ty} {w:World} {B:Nat} {n:Nt} {fp:List Nat} {v1 v2 v3 v4:Value}
section
variable {f1 f2 f3 f4:List Nat}
end
end N
end Go.Proofs.YtcblbdpdbggkbaaGreat
namespace Go.Proofs.YtcblbdpdbggkbaaGreat
open Go.RowKit Go.Sort
namespace N
variable {T:Ty} {w:World} {fp:List Nat} {x:Option Addr} {k c:Nat}
theorem known_at {es:List En} (h:knownR T w [.slice x k c] es fp) {i:Nat} {e:En} (hi:es[i]? =some e):∃(g:Nat) (V:SV) (fe:List Nat),x=some ⟨g,0,none⟩/\g<w.heap.size/\(∀b ∈ fe,b ∈ fp)/\sumR w [.slice V.xr V.nr V.cr,.slice V.xf V.nf V.cf,.slice V.xt V.nt V.ct,.int .i64 (e.s).lo,.int .i64 (e.s).al,.slice V.xk V.nk V.ck,.int .i64 (e.s).ka] e.s fe/\
  w.cell? ⟨g,i * 10,none⟩=some (.int .i64 e.node)/\w.cell? ⟨g,i * 10+1,none⟩=some (.int .i64 e.born)/\w.cell? ⟨g,i * 10+2,none⟩=some (.int .i64 e.num)/\
  ∀j z,([.slice V.xr V.nr V.cr,.slice V.xf V.nf V.cf,.slice V.xt V.nt V.ct,.int .i64 (e.s).lo,.int .i64 (e.s).al,.slice V.xk V.nk V.ck,.int .i64 (e.s).ka]:List Value)[j]? =some z->w.cell? ⟨g,i * 10+(3+j),none⟩=some z:=by
 obtain⟨_,at_⟩:=slcR_row h;obtain⟨g,ci,fi,q,h1,h2,h3,h4,h5⟩:=at_ hi;obtain⟨cs,rfl,hs⟩:=entryR_iff.1 h2;obtain⟨V,f1,f2,f3,f4,rfl,r⟩:=hs;refine⟨g,V,fi,q,h1,h3,⟨V,f1,f2,f3,f4,rfl,r⟩,h5 0 _ rfl,h5 1 _ rfl,h5 2 _ rfl,fun j z hz=>h5 (3+j) z ?_⟩;rw[Nat.add_comm];exact hz
theorem node_at {ns:List Nd} (h:nodesR T w [.slice x k c] ns fp) {i:Nat} {a:Nd} (hi:ns[i]? =some a):∃g xk ck fk,x=some ⟨g,0,none⟩/\g<w.heap.size/\(∀b ∈ fk,b ∈ fp)/\knownR T w [.slice xk a.known.length ck] a.known fk/\a.known.length<=ck/\ck<=maxLen/\
  w.cell? ⟨g,i * 5,none⟩=some (.int .i64 a.born)/\w.cell? ⟨g,i * 5+1,none⟩=some (.slice xk a.known.length ck)/\w.cell? ⟨g,i * 5+2,none⟩=some (.int .i64 a.beacon)/\w.cell? ⟨g,i * 5+3,none⟩=some (.int .i64 a.level)/\w.cell? ⟨g,i * 5+4,none⟩=some (.int .i64 a.up):=by
 obtain⟨_,at_⟩:=slcR_row h;obtain⟨g,ci,fi,q,h1,h2,h3,h4,h5⟩:=at_ hi;obtain⟨kn,rfl,hk⟩:=nodeR_iff.1 h2;obtain⟨xk,ck,rfl,l1,l2⟩:=slcR_value hk;exact⟨g,xk,ck,fi,q,h1,h3,hk,l1,l2,h5 0 _ rfl,h5 1 _ rfl,h5 2 _ rfl,h5 3 _ rfl,h5 4 _ rfl⟩
theorem wordR_at {ws:List Wd} (h:wordsR T w [.slice x k c] ws fp) {i:Nat} {a:Wd} (hi:ws[i]? =some a):∃g xk ck fk,x=some ⟨g,0,none⟩/\g<w.heap.size/\(∀b ∈ fk,b ∈ fp)/\knownR T w [.slice xk a.known.length ck] a.known fk/\a.known.length<=ck/\ck<=maxLen/\
  w.cell? ⟨g,i * 6,none⟩=some (.int .i64 a.kind)/\w.cell? ⟨g,i * 6+1,none⟩=some (.int .i64 a.src)/\w.cell? ⟨g,i * 6+2,none⟩=some (.int .i64 a.dst)/\w.cell? ⟨g,i * 6+3,none⟩=some (.int .i64 a.beacon)/\w.cell? ⟨g,i * 6+4,none⟩=some (.int .i64 a.level)/\w.cell? ⟨g,i * 6+5,none⟩=some (.slice xk a.known.length ck):=by
 obtain⟨_,at_⟩:=slcR_row h;obtain⟨g,ci,fi,q,h1,h2,h3,h4,h5⟩:=at_ hi;obtain⟨kn,rfl,hk⟩:=wordR_iff.1 h2;obtain⟨xk,ck,rfl,l1,l2⟩:=slcR_value hk;exact⟨g,xk,ck,fi,q,h1,h3,hk,l1,l2,h5 0 _ rfl,h5 1 _ rfl,h5 2 _ rfl,h5 3 _ rfl,h5 4 _ rfl,h5 5 _ rfl⟩
theorem link_at {ls:List Bool} (h:linksR T w [.slice x k c] ls fp) {i:Nat} {b:Bool} (hi:ls[i]? =some b):∃g,x=some ⟨g,0,none⟩/\g<w.heap.size/\w.cell? ⟨g,i,none⟩=some (.bool b):=by
 obtain⟨_,at_⟩:=slcR_row h;obtain⟨g,ci,fi,q,h1,h2,h3,h4,h5⟩:=at_ hi;refine⟨g,q,h1,?_⟩;have r:=h5 0 (.bool b) (by rw[h2.1];rfl);rwa[Nat.mul_one,Nat.add_zero]at r
theorem past_at {ps:List (List (List Int))} (h:pastR T w [.slice x k c] ps fp) {i:Nat} {rs:List (List Int)} (hi:ps[i]? =some rs):∃g xr cr fr,x=some ⟨g,0,none⟩/\g<w.heap.size/\(∀b ∈ fr,b ∈ fp)/\rowsR w [.slice xr rs.length cr] rs fr/\rs.length<=cr/\cr<=maxLen/\w.cell? ⟨g,i,none⟩=some (.slice xr rs.length cr):=by
 obtain⟨_,at_⟩:=slcR_row h;obtain⟨g,ci,fi,q,h1,h2,h3,h4,h5⟩:=at_ hi;obtain⟨vr,rfl⟩:∃vr,ci=[vr]:=by
  obtain⟨vr,a,b,e,_⟩:=h2;exact⟨vr,e⟩
 obtain⟨xr,cr,rfl,l1,l2⟩:=slcR_value h2;have r:=h5 0 _ rfl;rw[Nat.mul_one,Nat.add_zero]at r;exact⟨g,xr,cr,fi,q,h1,h3,h2,l1,l2,r⟩
theorem row_at {rs:List (List Int)} (h:rowsR w [.slice x k c] rs fp) {i:Nat} {l:List Int} (hi:rs[i]? =some l):∃g xr cr fr,x=some ⟨g,0,none⟩/\g<w.heap.size/\(∀b ∈ fr,b ∈ fp)/\intsR w [.slice xr l.length cr] l fr/\l.length<=cr/\cr<=maxLen/\w.cell? ⟨g,i,none⟩=some (.slice xr l.length cr):=by
 obtain⟨_,at_⟩:=slcR_row h;obtain⟨g,ci,fi,q,h1,h2,h3,h4,h5⟩:=at_ hi;obtain⟨vr,rfl⟩:∃vr,ci=[vr]:=by
  obtain⟨vr,e,_⟩:=intsR_to h2;exact⟨vr,e⟩
 obtain⟨xr,cr,rfl,l1,l2⟩:=flR_value h2;have r:=h5 0 _ rfl;rw[Nat.mul_one,Nat.add_zero]at r;exact⟨g,xr,cr,fi,q,h1,h3,h2,l1,l2,r⟩
end N
end Go.Proofs.YtcblbdpdbggkbaaGreat
set_option linter.unusedVariables false
set_option linter.unusedSectionVars false
set_option linter.unusedSimpArgs false
namespace Go.Proofs.YtcblbdpdbggkbaaGreat
open Go.RowKit Go.ChangeShapes Go.WideShapes Go.ChangeAt Go.Deep
abbrev RdA (α:Type):=World->List Value->α->Prop
def intA:RdA Int:=fun _ cs z=>cs=[.int .i64 z]
def boolA:RdA Bool:=fun _ cs b=>cs=[.bool b]
def andA {α β:Type} (A:RdA α) (B:RdA β):RdA (α × β):=fun w cs p=>∃c1 c2,cs=c1++c2/\A w c1 p.1/\B w c2 p.2
def viaA {α β:Type} (A:RdA α) (f:β->α):RdA β:=fun w cs b=>A w cs (f b)
def slcA {α:Type} (size:Nat) (A:RdA α):RdA (List α):=fun w cs xs=>
 (xs=[]/\∃x c,cs=[.slice x 0 c])\/
 ∃b o c,cs=[.slice (some ⟨b,o,none⟩) xs.length c]/\0<xs.length/\xs.length<=maxLen/\b<w.heap.size/\∀i a,xs[i]? =some a->∃ci,ci.length=size/\w.rangeAt b (o+i * size) ci/\A w ci a
structure RdA.Stay {α:Type} (A:RdA α):Prop where
 keep:∀{w w':World} {cs:List Value} {a:α} {B:Nat},A w cs a->Below B w w'->w.heap.size<=B->A w' cs a
theorem intA_stay:RdA.Stay intA:=⟨fun h _ _=>h⟩
theorem boolA_stay:RdA.Stay boolA:=⟨fun h _ _=>h⟩
theorem andA_stay {α β:Type} {A:RdA α} {B:RdA β} (SA:RdA.Stay A) (SB:RdA.Stay B):RdA.Stay (andA A B):=by
 refine⟨?_⟩;rintro w w' cs a X ⟨c1,c2,rfl,h1,h2⟩ hb hB;exact⟨c1,c2,rfl,SA.keep h1 hb hB,SB.keep h2 hb hB⟩
theorem viaA_stay {α β:Type} {A:RdA α} (SA:RdA.Stay A) (f:β->α):RdA.Stay (viaA A f):=⟨fun h hb hB=>SA.keep h hb hB⟩
theorem slcA_stay {α:Type} {A:RdA α} (SA:RdA.Stay A) (size:Nat):RdA.Stay (slcA size A):=by
 refine⟨?_⟩;rintro w w' cs xs X (h|⟨b,o,c,e,h0,h1,h2,h3⟩) hb hB
 ·exact .inl h
 ·refine .inr ⟨b,o,c,e,h0,h1,Nat.lt_of_lt_of_le h2 hb.size,fun i a hi=>?_⟩
  obtain⟨ci,l,r,ha⟩:=h3 i a hi;exact⟨ci,l,fun j z hz=>(hb.cell (p:=⟨b,o+i * size+j,none⟩) (by show b<X;omega)).trans (r j z hz),SA.keep ha hb hB⟩
theorem slcA_form {α:Type} {A:RdA α} {size:Nat} {w:World} {cs:List Value} {xs:List α} (h:slcA size A w cs xs):∃x c,cs=[.slice x xs.length c]/\xs.length<=maxLen:=by
 rcases h with ⟨rfl,x,c,e⟩|⟨b,o,c,e,h0,h1,_⟩
 ·exact⟨x,c,e,Nat.zero_le _⟩
 ·exact⟨_,c,e,h1⟩
theorem slcA_at {α:Type} {A:RdA α} {size:Nat} {w:World} {x:Option Addr} {n c:Nat} {xs:List α} (h:slcA size A w [.slice x n c] xs) {i:Nat} {a:α} (hi:xs[i]? =some a):∃b o ci,x=some ⟨b,o,none⟩/\b<w.heap.size/\ci.length=size/\w.rangeAt b (o+i * size) ci/\A w ci a:=by
 rcases h with ⟨rfl,_⟩|⟨b,o,c',e,h0,h1,h2,h3⟩
 ·simp at hi
 ·obtain⟨ci,l,r,ha⟩:=h3 i a hi
  injection e with e _
  injection e with e1 e2 e3
  exact⟨b,o,ci,e1,h2,l,r,ha⟩
section
variable {H:Type} {enc:TypeId × Value->H} {P:Program} {w:World} {t:TypeId}
def Opens {α:Type} (enc:TypeId × Value->H) (P:Program) (w:World) (t:TypeId) (A:RdA α):Prop:=∀fuel cs y,DataW.trod enc P w 0 (fun _=>true) true fuel t cs=some y->∃a,A w cs a
theorem opens_int (ht:P.underlying t=some (.int .i64)):Opens enc P w t intA:=fun fuel cs y h=>by
 obtain⟨n,e,_⟩:=DataW.trod_int ht h;exact⟨n,e⟩
theorem opens_bool (ht:P.underlying t=some .bool):Opens enc P w t boolA:=fun fuel cs y h=>by
 obtain⟨b,e,_⟩:=DataW.trod_bool ht h;exact⟨b,e⟩
theorem opens_via {α β:Type} {A:RdA α} (O:Opens enc P w t A) (f:β->α) (g:α->β) (fg:∀a,f (g a)=a):Opens enc P w t (viaA A f):=fun fuel cs y h=>by
 obtain⟨a,ha⟩:=O fuel cs y h;exact⟨g a,by unfold viaA;rw[fg];exact ha⟩
theorem opens_slice {α:Type} {A:RdA α} {e:TypeId} {size:Nat} (ht:P.underlying t=some (.slice e)) (hs:P.cellsOf e=size) (s0:0<size) (O:Opens enc P w e A):Opens enc P w t (slcA size A):=fun fuel cs y h=>by
 rcases open_slice ht h with ⟨e,_⟩|⟨a,len,cap,m,n,D,Pl,e,_,hl,hm,hmm,_,hi⟩
 ·exact⟨[],.inl ⟨rfl,_,_,e⟩⟩
 ·simp only[if_true]at hmm
  subst e;rw[hs]at hi
  by_cases h0:len=0
  ·subst h0
   exact⟨[],.inl ⟨rfl,_,_,rfl⟩⟩
  have key:∀i,i<len->∃x ci,ci.length=size/\(∀j z,ci[j]? =some z->w.cell? (a.add (i * size+j))=some z)/\A w ci x:=fun i hlt=>by
   obtain⟨cs',hc,ht'⟩:=hi i (by omega);obtain⟨x,hx⟩:=O _ _ _ ht';obtain⟨_,hcl,hat⟩:=World.cells?_some hc;refine⟨x,cs',hcl,fun j z hz=>?_,hx⟩;have hj:j<size:=by rw[<-hcl];exact (List.getElem?_eq_some_iff.1 hz).1
   have:=hat j hj;rw[Go.Deep.add_add]at this;rw[this,hz]
  obtain⟨b,o,sp⟩:=a;obtain⟨x0,c0,l0,r0,_⟩:=key 0 (by omega);have z0:c0[0]? =some (c0[0]'(by omega)):=List.getElem?_eq_getElem _;have q0:=r0 0 _ z0;have hsp:sp=none:=by simpa[Addr.add]using World.cell?_spot q0
  subst hsp;have hb:b<w.heap.size:=by simpa[Addr.add]using World.block_lt_of_cell? _ _ q0
  have F:∀i,∃x,i<len->∃ci,ci.length=size/\(∀j z,ci[j]? =some z->w.cell? ((⟨b,o,none⟩:Addr).add (i * size+j))=some z)/\A w ci x:=fun i=>by
   by_cases hlt:i<len
   ·obtain⟨x,r⟩:=key i hlt
    exact⟨x,fun _=>r⟩
   ·exact⟨x0,fun c=>absurd c hlt⟩
  have el:((List.range len).map fun i=>Classical.choose (F i)).length=len:=by simp
  refine⟨(List.range len).map fun i=>Classical.choose (F i),.inr ⟨b,o,cap,by rw[el],by omega,by omega,hb,fun i x hx=>?_⟩⟩;have hlt:i<len:=by have:=(List.getElem?_eq_some_iff.1 hx).1;omega
  have ex:Classical.choose (F i)=x:=by simpa[hlt]using hx
  obtain⟨ci,l,r,ha⟩:=Classical.choose_spec (F i) hlt;rw[ex]at ha;refine⟨ci,l,fun j z hz=>?_,ha⟩;have:=r j z hz;rw[Addr.add_mid, <-Nat.add_assoc]at this;exact this
theorem cut_one (cs:List Value) (o s:Nat):cs.drop o=(cs.drop o).take s++cs.drop (o+s):=by
 rw[<-List.drop_drop,List.take_append_drop]
theorem opens_four {α0 α1 α2 α3:Type} {A0:RdA α0} {A1:RdA α1} {A2:RdA α2} {A3:RdA α3} {f0 f1 f2 f3:Field} {s0 s1 s2 s3:Nat} (ht:P.underlying t=some (.struct #[f0,f1,f2,f3]))
  (o0:f0.offset=0) (o1:f1.offset=s0) (o2:f2.offset=s0+s1) (o3:f3.offset=s0+s1+s2) (hs:P.cellsOf t=s0+s1+s2+s3)
  (c0:P.cellsOf f0.type=s0) (c1:P.cellsOf f1.type=s1) (c2:P.cellsOf f2.type=s2) (c3:P.cellsOf f3.type=s3)
  (O0:Opens enc P w f0.type A0) (O1:Opens enc P w f1.type A1) (O2:Opens enc P w f2.type A2) (O3:Opens enc P w f3.type A3):Opens enc P w t (andA A0 (andA A1 (andA A2 (A3)))):=fun fuel cs y h=>by
 obtain⟨xs,n,_,_,hl,hx,hf⟩:=DataW.trod_struct ht h;rw[hs]at hl;have h0:=hf 0 f0 rfl;rw[o0,c0,List.getElem?_eq_getElem (by rw[hx];show 0<4;omega)]at h0;obtain⟨a0,r0⟩:=O0 _ _ _ h0;have h1:=hf 1 f1 rfl;rw[o1,c1,List.getElem?_eq_getElem (by rw[hx];show 1<4;omega)]at h1;obtain⟨a1,r1⟩:=O1 _ _ _ h1;have h2:=hf 2 f2 rfl;rw[o2,c2,List.getElem?_eq_getElem (by rw[hx];show 2<4;omega)]at h2
 obtain⟨a2,r2⟩:=O2 _ _ _ h2;have h3:=hf 3 f3 rfl;rw[o3,c3,List.getElem?_eq_getElem (by rw[hx];show 3<4;omega)]at h3;obtain⟨a3,r3⟩:=O3 _ _ _ h3;have e3:(cs.drop (s0+s1+s2)).take s3=cs.drop (s0+s1+s2):=List.take_of_length_le (by rw[List.length_drop];omega);rw[e3]at r3
 exact⟨(a0,a1,a2,a3),⟨_,_,(by have e:=cut_one cs 0 s0;rw[List.drop_zero,Nat.zero_add]at e;rw[List.drop_zero];exact e),r0,⟨_,_,cut_one cs (s0) s1,r1,⟨_,_,cut_one cs (s0+s1) s2,r2,r3⟩⟩⟩⟩
theorem opens_five {α0 α1 α2 α3 α4:Type} {A0:RdA α0} {A1:RdA α1} {A2:RdA α2} {A3:RdA α3} {A4:RdA α4} {f0 f1 f2 f3 f4:Field} {s0 s1 s2 s3 s4:Nat} (ht:P.underlying t=some (.struct #[f0,f1,f2,f3,f4]))
  (o0:f0.offset=0) (o1:f1.offset=s0) (o2:f2.offset=s0+s1) (o3:f3.offset=s0+s1+s2) (o4:f4.offset=s0+s1+s2+s3) (hs:P.cellsOf t=s0+s1+s2+s3+s4)
  (c0:P.cellsOf f0.type=s0) (c1:P.cellsOf f1.type=s1) (c2:P.cellsOf f2.type=s2) (c3:P.cellsOf f3.type=s3) (c4:P.cellsOf f4.type=s4)
  (O0:Opens enc P w f0.type A0) (O1:Opens enc P w f1.type A1) (O2:Opens enc P w f2.type A2) (O3:Opens enc P w f3.type A3) (O4:Opens enc P w f4.type A4):Opens enc P w t (andA A0 (andA A1 (andA A2 (andA A3 (A4))))):=fun fuel cs y h=>by
 obtain⟨xs,n,_,_,hl,hx,hf⟩:=DataW.trod_struct ht h;rw[hs]at hl;have h0:=hf 0 f0 rfl;rw[o0,c0,List.getElem?_eq_getElem (by rw[hx];show 0<5;omega)]at h0;obtain⟨a0,r0⟩:=O0 _ _ _ h0;have h1:=hf 1 f1 rfl;rw[o1,c1,List.getElem?_eq_getElem (by rw[hx];show 1<5;omega)]at h1;obtain⟨a1,r1⟩:=O1 _ _ _ h1;have h2:=hf 2 f2 rfl;rw[o2,c2,List.getElem?_eq_getElem (by rw[hx];show 2<5;omega)]at h2
 obtain⟨a2,r2⟩:=O2 _ _ _ h2;have h3:=hf 3 f3 rfl;rw[o3,c3,List.getElem?_eq_getElem (by rw[hx];show 3<5;omega)]at h3;obtain⟨a3,r3⟩:=O3 _ _ _ h3;have h4:=hf 4 f4 rfl;rw[o4,c4,List.getElem?_eq_getElem (by rw[hx];show 4<5;omega)]at h4;obtain⟨a4,r4⟩:=O4 _ _ _ h4;have e4:(cs.drop (s0+s1+s2+s3)).take s4=cs.drop (s0+s1+s2+s3):=List.take_of_length_le (by rw[List.length_drop];omega);rw[e4]at r4
 exact⟨(a0,a1,a2,a3,a4),⟨_,_,(by have e:=cut_one cs 0 s0;rw[List.drop_zero,Nat.zero_add]at e;rw[List.drop_zero];exact e),r0,⟨_,_,cut_one cs (s0) s1,r1,⟨_,_,cut_one cs (s0+s1) s2,r2,⟨_,_,cut_one cs (s0+s1+s2) s3,r3,r4⟩⟩⟩⟩⟩
theorem opens_six {α0 α1 α2 α3 α4 α5:Type} {A0:RdA α0} {A1:RdA α1} {A2:RdA α2} {A3:RdA α3} {A4:RdA α4} {A5:RdA α5} {f0 f1 f2 f3 f4 f5:Field} {s0 s1 s2 s3 s4 s5:Nat} (ht:P.underlying t=some (.struct #[f0,f1,f2,f3,f4,f5]))
  (o0:f0.offset=0) (o1:f1.offset=s0) (o2:f2.offset=s0+s1) (o3:f3.offset=s0+s1+s2) (o4:f4.offset=s0+s1+s2+s3) (o5:f5.offset=s0+s1+s2+s3+s4) (hs:P.cellsOf t=s0+s1+s2+s3+s4+s5)
  (c0:P.cellsOf f0.type=s0) (c1:P.cellsOf f1.type=s1) (c2:P.cellsOf f2.type=s2) (c3:P.cellsOf f3.type=s3) (c4:P.cellsOf f4.type=s4) (c5:P.cellsOf f5.type=s5)
  (O0:Opens enc P w f0.type A0) (O1:Opens enc P w f1.type A1) (O2:Opens enc P w f2.type A2) (O3:Opens enc P w f3.type A3) (O4:Opens enc P w f4.type A4) (O5:Opens enc P w f5.type A5):Opens enc P w t (andA A0 (andA A1 (andA A2 (andA A3 (andA A4 (A5)))))):=fun fuel cs y h=>by
 obtain⟨xs,n,_,_,hl,hx,hf⟩:=DataW.trod_struct ht h;rw[hs]at hl;have h0:=hf 0 f0 rfl;rw[o0,c0,List.getElem?_eq_getElem (by rw[hx];show 0<6;omega)]at h0;obtain⟨a0,r0⟩:=O0 _ _ _ h0;have h1:=hf 1 f1 rfl;rw[o1,c1,List.getElem?_eq_getElem (by rw[hx];show 1<6;omega)]at h1;obtain⟨a1,r1⟩:=O1 _ _ _ h1;have h2:=hf 2 f2 rfl;rw[o2,c2,List.getElem?_eq_getElem (by rw[hx];show 2<6;omega)]at h2
 obtain⟨a2,r2⟩:=O2 _ _ _ h2;have h3:=hf 3 f3 rfl;rw[o3,c3,List.getElem?_eq_getElem (by rw[hx];show 3<6;omega)]at h3;obtain⟨a3,r3⟩:=O3 _ _ _ h3;have h4:=hf 4 f4 rfl;rw[o4,c4,List.getElem?_eq_getElem (by rw[hx];show 4<6;omega)]at h4;obtain⟨a4,r4⟩:=O4 _ _ _ h4;have h5:=hf 5 f5 rfl;rw[o5,c5,List.getElem?_eq_getElem (by rw[hx];show 5<6;omega)]at h5;obtain⟨a5,r5⟩:=O5 _ _ _ h5
 have e5:(cs.drop (s0+s1+s2+s3+s4)).take s5=cs.drop (s0+s1+s2+s3+s4):=List.take_of_length_le (by rw[List.length_drop];omega);rw[e5]at r5;exact⟨(a0,a1,a2,a3,a4,a5),⟨_,_,(by have e:=cut_one cs 0 s0;rw[List.drop_zero,Nat.zero_add]at e;rw[List.drop_zero];exact e),r0,⟨_,_,cut_one cs (s0) s1,r1,⟨_,_,cut_one cs (s0+s1) s2,r2,⟨_,_,cut_one cs (s0+s1+s2) s3,r3,⟨_,_,cut_one cs (s0+s1+s2+s3) s4,r4,r5⟩⟩⟩⟩⟩⟩
end
end Go.Proofs.YtcblbdpdbggkbaaGreat
set_option linter.unusedVariables false
namespace Go.Proofs.YtcblbdpdbggkbaaGreat
open Go.RowKit Go.Sort
theorem OwnR.form {w:World} {B:Nat} {u:Value} {rs:List (List Int)} {G C:Nat->Nat} (h:OwnR w B u rs G C):∃x c,u=.slice x rs.length c:=by
 rcases h.hdr.2 with ⟨rfl,h0⟩|⟨g,cap,cur,rfl,_⟩
 ·exact⟨none,0,by rw[h0]⟩
 ·exact⟨_,_,rfl⟩
theorem OwnI.form' {w:World} {B:Nat} {u:Value} {zs:List Int} (h:OwnI w B u zs):∃x c,u=.slice x zs.length c:=by
 rcases h.2 with ⟨rfl,h0⟩|⟨g,cap,cur,rfl,_⟩
 ·exact⟨none,0,by rw[h0]⟩
 ·exact⟨_,_,rfl⟩
theorem T.OwnP.form' {w:World} {B:Nat} {u:Value} {zs:List T.Pr} (h:T.OwnP w B u zs):∃x c,u=.slice x zs.length c:=by
 rcases h.2 with ⟨rfl,h0⟩|⟨g,cap,cur,rfl,_⟩
 ·exact⟨none,0,by rw[h0]⟩
 ·exact⟨_,_,rfl⟩
theorem K.OwnP.form' {w:World} {B:Nat} {u:Value} {zs:List K.Pr} (h:K.OwnP w B u zs):∃x c,u=.slice x zs.length c:=by
 rcases h.2 with ⟨rfl,h0⟩|⟨g,cap,cur,rfl,_⟩
 ·exact⟨none,0,by rw[h0]⟩
 ·exact⟨_,_,rfl⟩
theorem OwnS.rows {w:World} {B:Nat} {x:Option Addr} {n c:Nat} {rs:List (List Int)} {G C:Nat->Nat} (h:OwnR w B (.slice x n c) rs G C) (hB:B<=w.heap.size):OwnS w B w.heap.size ⟨x,n,c,Option.none,0,0,Option.none,0,0,Option.none,0,0⟩ ⟨rs,[],[],0,0,[],0⟩:=
 ⟨⟨w.heap.size,hB,Nat.le_refl _,h.bounds,World.ownsRow_nil _ _ _ _⟩,World.ownsRow_nil _ _ _ _,World.ownsRow_nil _ _ _ _,fun _ e=>(by cases e),fun _ e=>(by cases e),fun _ e=>(by cases e),Nat.le_refl _⟩
section
variable {w:World} {B U b:Nat} {x0 x1 x2 x3 x4 x5 x6:Value}
theorem OwnRR.box7 {v:Value} {rs:List (List Int)} (h:OwnRR w B U v rs) (X:Box7 w b 46 x0 x1 x2 x3 x4 x5 x6) (y0 y1 y2 y3 y4 y5 y6:Value):OwnRR (set7 w b y0 y1 y2 y3 y4 y5 y6) B U v rs:=by
 obtain⟨G,C,ho,q1,q2,q3⟩:=h;have hk:KeptB (fun k=>k=b) w (set7 w b y0 y1 y2 y3 y4 y5 y6):=KeptB.of_grown (set7_grown w b y0 y1 y2 y3 y4 y5 y6) rfl;exact⟨G,C,⟨ownsRow_keptB ho.hdr hk fun k e1 e2=>X.not_row (by decide) ho.hdr (by rw[e1,e2]),fun i hi=>ownsRow_keptB (ho.row i hi) hk fun k e1 e2=>X.not_row (by decide) (ho.row i hi) (by rw[e1,e2]),ho.off,ho.apart⟩,q1,q2,by rw[set7_size];exact q3⟩
theorem OwnI.box7 {v:Value} {zs:List Int} (h:OwnI w B v zs) (X:Box7 w b 46 x0 x1 x2 x3 x4 x5 x6) (y0 y1 y2 y3 y4 y5 y6:Value):OwnI (set7 w b y0 y1 y2 y3 y4 y5 y6) B v zs:=h.keep (set7_grown w b y0 y1 y2 y3 y4 y5 y6) (X.not_row (by decide) h)
theorem T.OwnP.box7 {v:Value} {zs:List T.Pr} (h:T.OwnP w B v zs) (X:Box7 w b 46 x0 x1 x2 x3 x4 x5 x6) (y0 y1 y2 y3 y4 y5 y6:Value):T.OwnP (set7 w b y0 y1 y2 y3 y4 y5 y6) B v zs:=h.keep (set7_grown w b y0 y1 y2 y3 y4 y5 y6) (X.not_row (by decide) h)
theorem K.OwnP.box7 {v:Value} {zs:List K.Pr} (h:K.OwnP w B v zs) (X:Box7 w b 46 x0 x1 x2 x3 x4 x5 x6) (y0 y1 y2 y3 y4 y5 y6:Value):K.OwnP (set7 w b y0 y1 y2 y3 y4 y5 y6) B v zs:=h.keep (set7_grown w b y0 y1 y2 y3 y4 y5 y6) (X.not_row (by decide) h)
theorem OwnRR.cell7 {v:Value} {rs:List (List Int)} (h:OwnRR w B U v rs) (X:Box7 w b 46 x0 x1 x2 x3 x4 x5 x6) (i:Nat) (y:Value):OwnRR (w.setCell ⟨b,i,none⟩ y) B U v rs:=by
 obtain⟨G,C,ho,q1,q2,q3⟩:=h;have hk:KeptB (fun k=>k=b) w (w.setCell ⟨b,i,none⟩ y):=KeptB.of_grown (grownBy_setCell w ⟨b,i,none⟩ y) rfl;exact⟨G,C,⟨ownsRow_keptB ho.hdr hk fun k e1 e2=>X.not_row (by decide) ho.hdr (by rw[e1,e2]),fun i hi=>ownsRow_keptB (ho.row i hi) hk fun k e1 e2=>X.not_row (by decide) (ho.row i hi) (by rw[e1,e2]),ho.off,ho.apart⟩,q1,q2,by simpa using q3⟩
theorem OwnI.cell7 {v:Value} {zs:List Int} (h:OwnI w B v zs) (X:Box7 w b 46 x0 x1 x2 x3 x4 x5 x6) (i:Nat) (y:Value):OwnI (w.setCell ⟨b,i,none⟩ y) B v zs:=h.keep (grownBy_setCell w ⟨b,i,none⟩ y) (X.not_row (by decide) h)
theorem T.OwnP.cell7 {v:Value} {zs:List T.Pr} (h:T.OwnP w B v zs) (X:Box7 w b 46 x0 x1 x2 x3 x4 x5 x6) (i:Nat) (y:Value):T.OwnP (w.setCell ⟨b,i,none⟩ y) B v zs:=h.keep (grownBy_setCell w ⟨b,i,none⟩ y) (X.not_row (by decide) h)
theorem K.OwnP.cell7 {v:Value} {zs:List K.Pr} (h:K.OwnP w B v zs) (X:Box7 w b 46 x0 x1 x2 x3 x4 x5 x6) (i:Nat) (y:Value):K.OwnP (w.setCell ⟨b,i,none⟩ y) B v zs:=h.keep (grownBy_setCell w ⟨b,i,none⟩ y) (X.not_row (by decide) h)
end
theorem OwnS.box7 {w:World} {B U b:Nat} {V:SV} {s:Sm} {x0 x1 x2 x3 x4 x5 x6:Value} (h:OwnS w B U V s) (X:Box7 w b 46 x0 x1 x2 x3 x4 x5 x6) (y0 y1 y2 y3 y4 y5 y6:Value):OwnS (set7 w b y0 y1 y2 y3 y4 y5 y6) B U V s:=by
 obtain⟨M,h1,h2,hr,hf⟩:=h.mid;have hg:=set7_grown w b y0 y1 y2 y3 y4 y5 y6;have hk:KeptB (fun k=>k=b) w (set7 w b y0 y1 y2 y3 y4 y5 y6):=KeptB.of_grown hg rfl;have e:=set7_size w b y0 y1 y2 y3 y4 y5 y6;refine⟨⟨M,h1,h2,?_,?_⟩,?_,?_,h.ft,h.tt,h.kt,by rw[e];exact h.top⟩
 ·obtain⟨G,C,ho,q1,q2,q3⟩:=hr
  exact⟨G,C,⟨ownsRow_keptB ho.hdr hk fun k e1 e2=>X.not_row (by decide) ho.hdr (by rw[e1,e2]),fun i hi=>ownsRow_keptB (ho.row i hi) hk fun k e1 e2=>X.not_row (by decide) (ho.row i hi) (by rw[e1,e2]),ho.off,ho.apart⟩,q1,q2,by rw[e];exact q3⟩
 ·exact hf.keep hg (X.not_row (by decide) hf)
 ·exact h.t.keep hg (X.not_row (by decide) h.t)
 ·exact h.k.keep hg (X.not_row (by decide) h.k)
theorem OwnS.make {W:World} {B B1 M B2 B3 B4:Nat} {V:SV} {s:Sm} (hr:OwnRR W B1 M V.r s.rs) (hf:OwnI W B2 V.f s.zs) (ht:T.OwnP W B3 V.t s.ps) (hk:K.OwnP W B4 V.k s.ks) (h1:B<=B1) (hM:B<=M) (h2:M<=B2) (h3:B<=B3) (h4:B<=B4):OwnS W B W.heap.size V s:=
 ⟨⟨M,hM,hr.top,hr.base h1,ownsRow_base hf h2⟩,ownsRow_base ht h3,ownsRow_base hk h4,fun _ e=>(World.ownsRow.lt hf _ e).2,fun _ e=>(World.ownsRow.lt ht _ e).2,fun _ e=>(World.ownsRow.lt hk _ e).2,Nat.le_refl _⟩
theorem joinA_yes {ra rb:List (List Int)} (h:joinB ra rb=true):joinA ra rb=joinV ra rb:=by unfold joinA;rw[h];rfl
structure Got (w wx:World) (P:Nat) (V:SV) (s:Sm):Prop where
 below:Below w.heap.size w wx
 own:OwnS wx w.heap.size wx.heap.size V s
 box:BoxS wx P V s
 lo:w.heap.size<=P
theorem Got.last {w wx:World} {B:Nat} {V:SV} {s:Sm} (hb:Below w.heap.size w wx) (ho:OwnS wx B wx.heap.size V s) (hB:w.heap.size<=B):Got w (wx.alloc (.cells #[.slice V.xr V.nr V.cr,.slice V.xf V.nf V.cf,.slice V.xt V.nt V.ct,.int .i64 s.lo,.int .i64 s.al,.slice V.xk V.nk V.ck,.int .i64 s.ka] 46)) wx.heap.size V s:=
 ⟨hb.alloc hb.size _,(ho.alloc _).base hB (by simp) lr_,Box7.new _ _ _ _ _ _ _ _ _,hb.size⟩
theorem Got.stored {w wx:World} {B P:Nat} {V:SV} {s:Sm} {x0 x1 x2 x3 x4 x5 x6:Value} (hb:Below w.heap.size w wx) (ho:OwnS wx B wx.heap.size V s) (hB:w.heap.size<=B) (X:Box7 wx P 46 x0 x1 x2 x3 x4 x5 x6) (hP:w.heap.size<=P):
  Got w (set7 wx P (.slice V.xr V.nr V.cr) (.slice V.xf V.nf V.cf) (.slice V.xt V.nt V.ct) (.int .i64 s.lo) (.int .i64 s.al) (.slice V.xk V.nk V.ck) (.int .i64 s.ka)) P V s:=
 ⟨below_set7 hb hP _ _ _ _ _ _ _,(ho.box7 X _ _ _ _ _ _ _).base hB (by rw[set7_size];exact Nat.le_refl _) lr_,X.set _ _ _ _ _ _ _,hP⟩
end Go.Proofs.YtcblbdpdbggkbaaGreat
set_option linter.unusedVariables false
namespace Go.Proofs.YtcblbdpdbggkbaaGreat
open Go.RowKit Go.ChangeShapes Go.WideShapes Go.ChangeAt Go.Deep
def ArgI (w:World) (v:Value) (zs:List Int):Prop:=
 (zs=[]/\∃x c,v=.slice x 0 c)\/
 ∃b o c,v=.slice (some ⟨b,o,none⟩) zs.length c/\0<zs.length/\zs.length<=maxLen/\b<w.heap.size/\∀i,i<zs.length->w.cell? ⟨b,o+i,none⟩=some (.int .i64 (zs.getD i 0))
theorem ArgI.below {w w':World} {v:Value} {zs:List Int} (h:ArgI w v zs) {B:Nat} (hb:Below B w w') (hB:w.heap.size<=B):ArgI w' v zs:=by
 rcases h with h|⟨b,o,c,e,h0,h1,h2,h3⟩
 ·exact .inl h
 ·exact .inr ⟨b,o,c,e,h0,h1,Nat.lt_of_lt_of_le h2 hb.size,fun i hi=>by rw[hb.cell (p:=⟨b,o+i,none⟩) (by show b<B;omega)];exact h3 i hi⟩
theorem ArgI.form {w:World} {v:Value} {zs:List Int} (h:ArgI w v zs):∃x c,v=.slice x zs.length c:=by
 rcases h with ⟨rfl,x,c,e⟩|⟨b,o,c,e,_⟩
 ·exact⟨x,c,e⟩
 ·exact⟨_,c,e⟩
theorem ArgI.len {w:World} {v:Value} {zs:List Int} (h:ArgI w v zs):zs.length<=maxLen:=by
 rcases h with ⟨rfl,_⟩|⟨b,o,c,e,h0,h1,_⟩
 ·exact Nat.zero_le _
 ·exact h1
def ArgR (w:World) (v:Value) (rs:List (List Int)):Prop:=
 (rs=[]/\∃x c,v=.slice x 0 c)\/
 ∃b o c,v=.slice (some ⟨b,o,none⟩) rs.length c/\0<rs.length/\rs.length<=maxLen/\b<w.heap.size/\∀i,i<rs.length->∃x,w.cell? ⟨b,o+i,none⟩=some x/\ArgI w x (rs.getD i [])
theorem ArgR.below {w w':World} {v:Value} {rs:List (List Int)} (h:ArgR w v rs) {B:Nat} (hb:Below B w w') (hB:w.heap.size<=B):ArgR w' v rs:=by
 rcases h with h|⟨b,o,c,e,h0,h1,h2,h3⟩
 ·exact .inl h
 ·refine .inr ⟨b,o,c,e,h0,h1,Nat.lt_of_lt_of_le h2 hb.size,fun i hi=>?_⟩
  obtain⟨x,hx,hi'⟩:=h3 i hi;exact⟨x,by rw[hb.cell (p:=⟨b,o+i,none⟩) (by show b<B;omega)];exact hx,hi'.below hb hB⟩
theorem ArgR.form {w:World} {v:Value} {rs:List (List Int)} (h:ArgR w v rs):∃x c,v=.slice x rs.length c:=by
 rcases h with ⟨rfl,x,c,e⟩|⟨b,o,c,e,_⟩
 ·exact⟨x,c,e⟩
 ·exact⟨_,c,e⟩
section
variable {H:Type} {enc:TypeId × Value->H} {P:Program} {w:World} {base:Nat} {spare:Nat->Bool} {held:Bool}
end
theorem addr_add (b o i:Nat):(⟨b,o,none⟩:Addr).add i=⟨b,o+i,none⟩:=by unfold Addr.add;split<;>simp_all
theorem argI_of {w:World} {a:Option Addr} {len cap:Nat} {zs:List Int} (hl:len<=cap) (hm:cap<=maxLen) (hz:zs.length=cap) (hn:a=none->cap=0) (hc:∀x,a=some x->∀i,i<zs.length->w.cell? (x.add i)=some (.int .i64 (zs.getD i 0))):
  ArgI w (.slice a len cap) (zs.take len):=by
 by_cases h0:len=0
 ·subst h0
  exact .inl ⟨rfl,_,_,rfl⟩
 cases a with
 |none=>exact absurd (hn rfl) (by omega)
 |some x=>
  obtain⟨b,o,sp⟩:=x;have hc:=hc _ rfl;have h1:=hc 0 (by omega);have hs:sp=none:=by simpa[Addr.add]using World.cell?_spot h1
  subst hs;have e:(zs.take len).length=len:=by simp;omega
  refine .inr ⟨b,o,cap,by rw[e],by omega,by omega,by simpa[Addr.add]using World.block_lt_of_cell? _ _ h1,fun i hi=>?_⟩;rw[<-addr_add,hc i (by omega)];have:i<len:=by omega
  simp[this]
end Go.Proofs.YtcblbdpdbggkbaaGreat
namespace Go.Proofs.YtcblbdpdbggkbaaGreat
open Go.RowKit Go.Sort
def szV (left:Int) (n:Nat):Int:=if left<n then -1 else left - n
theorem szV_in {left:Int} {n:Nat} (h:(n:Int)<=left):szV left n=left - n:=if_neg (by omega)
theorem szV_out {left:Int} {n:Nat} (h:left<n):szV left n= -1:=if_pos h
theorem szIntS_at (w:World) (v:Value) (zs:List Int) (left:Int) (h:ArgI w v zs) (h0:0<=left) (h1:left<=1048576):
  Calls Tryz.prog 235 #[v,.int .i64 left] w fun e w'=>e=.returned (.int .i64 (szV left zs.length))/\w=w':=by
 obtain⟨x,c,hx⟩:=h.form;have hl:=h.len;obtain⟨n,hn⟩:∃n,n=zs.length:=⟨_,rfl⟩
 rw[<-hn]at hx hl ⊢;subst hx;unfold maxLen at hl;clear h hn
 by_cases hle:left<n
 ·rw[szV_out hle]
  have h2:left - (n:Int)<0:=by omega
  go_enter Tryz.func235,Tryz.ntmps235;go_wp2;go_ret;exact⟨rfl,rfl⟩
 ·rw[szV_in (by omega)]
  have h2:¬left - (n:Int)<0:=by omega
  go_enter Tryz.func235,Tryz.ntmps235;go_wp2;go_ret;exact⟨rfl,rfl⟩
theorem int_make (n:Nat) (hn:n<=1048576):∀w,(Instr.makeSlice 23 (.int .i64 (n:Int)) (.int .i64 (n:Int))).run Tryz.prog w=.ok (.slice (some ⟨w.heap.size,0,none⟩) n n) (w.alloc (.cells (madeCells #[.int .i64 0] n) 3)):=
 run_make_row' (P:=Tryz.prog) 23 3 (.int .i64 0) 8 Tryz.underlying23 few_info rfl .i64 .i64 n (by omega) (by omega)
theorem ints_set (zs:List Int) (k:Nat) (x:Int):(ints zs).set k (.int .i64 x)=ints (zs.set k x):=by simp[ints,List.map_set]
theorem toIntS_at (w:World) (v:Value) (zs:List Int) (h:ArgI w v zs) (hn:zs.length<=1048576):
  Calls Tryz.prog 236 #[v] w fun e w'=>e=.returned (.slice (some ⟨w.heap.size,0,none⟩) zs.length zs.length)/\OwnI w' w.heap.size (.slice (some ⟨w.heap.size,0,none⟩) zs.length zs.length) zs/\Below w.heap.size w w':=by
 obtain⟨x,c,hx⟩:=h.form;obtain⟨n,hn'⟩:∃n,n=zs.length:=⟨_,rfl⟩
 have HZ:Hid (∀i,i<n->∃b o,x=some ⟨b,o,none⟩/\b<w.heap.size/\w.cell? ⟨b,o+i,none⟩=some (.int .i64 (zs.getD i 0))):=fun i hi=>by
  rcases h with ⟨rfl,_⟩|⟨b,o,c',e,_,_,hb,hc⟩
  ·rw[hn']at hi;cases hi
  ·rw[hx]at e
   exact⟨b,o,(Value.slice.inj e).1,hb,hc i (by rw[<-hn'];exact hi)⟩
 have HN:=hd_ hn';rw[<-hn']at hx hn ⊢;have hmk:=int_make n hn;have own0:OwnI (w.alloc (.cells (madeCells #[.int .i64 0] n) 3)) w.heap.size (.slice (some ⟨w.heap.size,0,none⟩) n n) (List.replicate n 0):=by
  have:=World.ownsRow_lit (base:=w.heap.size) (e:=3) (size:=1) w (madeCells #[.int .i64 0] n) n lr_ (by unfold maxLen;omega) (by rw[size_madeCells];omega);rw[toList_madeCells_one]at this;unfold OwnI;rw[List.length_replicate];simpa[ints]using this
 have O0:=hd_ own0;subst hx;clear h hn' own0;go_enter Tryz.func236,Tryz.ntmps236;go_wp2;go_loopw [4] (fun i wr=>∃(k:Nat) (ys:List Int),k<=n/\i=.int .i64 k/\ys.length=n/\(∀i,i<k->ys.getD i 0=zs.getD i 0)/\OwnI wr w.heap.size (.slice (some ⟨w.heap.size,0,none⟩) n n) ys/\Below w.heap.size w wr) (fun i _=>n - (intOf i).toNat)
 case atStart=>exact⟨0,List.replicate n 0,Nat.zero_le _,rfl,by simp,fun _ h=>absurd h (Nat.not_lt_zero _),O0.out,(Below.refl _ _).alloc lr_ _⟩
 case round=>
  obtain⟨k,ys,hk,rfl,hy,hys,hown,hbl⟩:=hrel;have HY:=hd_ hy;have HYS:=hd_ hys;have HB:=hd_ hbl;have ho:wr.ownsRow w.heap.size 3 1 (.slice (some ⟨w.heap.size,0,none⟩) n n) n (ints ys):=by have h:=hown;unfold OwnI at h;rw[hy]at h;exact h
  have HO:=hd_ ho;clear hy hys hbl hown ho
  by_cases hlt:k<n
  ·obtain⟨b,o,rfl,hb,h1⟩:=HZ.out k hlt
   rw[<-HB.out.cell (p:=⟨b,o+k,none⟩) hb]at h1;obtain⟨y,hyk⟩:∃y,zs.getD k 0=y:=⟨_,rfl⟩
   rw[hyk]at h1;have HK:=hd_ hyk;obtain⟨u,hc⟩:∃u,wr.cell? ⟨w.heap.size,k,none⟩=some u:=by
    rw[HO.out.cellAt k (by omega)];exact⟨_,ints_get _ _ (by rw[HY.out];exact hlt)⟩
   have hf:=HO.out.frozenAt k;have hs:=HO.out.stored k (.int .i64 y);rw[ints_set]at hs;have HS:=hd_ hs;have k0:(0:Int)<=(k:Int):=by omega
   have kn:(k:Int)<(n:Int):=by omega
   clear hyk hs;go_wp2;go_roundw
   case rel=>
    refine⟨k+1,ys.set k y,by omega,by go_num,by simpa using HY.out,fun i hi=>?_,?_,HB.out.setCell lr_ _⟩
    ·by_cases e:i=k
     ·subst e
      rw[HK.out,List.getD_eq_getElem?_getD,List.getElem?_set_self (by rw[HY.out];exact hlt)];rfl
     ·have e1:(ys.set k y).getD i 0=ys.getD i 0:=by simp[Ne.symm e]
      rw[e1];exact HYS.out i (by omega)
    ·unfold OwnI
     rw[List.length_set,HY.out];exact HS.out.1
   case measure=>simp[intOf];omega
  ·obtain rfl:k=n:=by omega
   have fin0:ys=zs:=of_decide_eq_true (eq_of_get (d:=0) HY.out HN.out.symm HYS.out);have fin:=hd_ fin0;clear fin0;go_wp2;go_ret;refine⟨rfl,?_,HB.out⟩;rw[<-fin.out];unfold OwnI;rw[HY.out];exact HO.out
theorem szFew_at (w:World) (u:Value) (zs:List Int) (left:Int) (h:ArgI w u zs) (h0:0<=left) (h1:left<=1048576):
  Calls Tryz.prog 240 #[.agg #[u],.int .i64 left] w fun e w'=>e=.returned (.int .i64 (szV left zs.length))/\Below w.heap.size w w':=by
 have hA:=(Below.refl w.heap.size w).alloc lr_ (.cells #[u] 173);have K:=hd_ (szIntS_at _ u zs left (h.below hA lr_) h0 h1);have HA:=hd_ hA;obtain⟨x,c,hx⟩:=h.form;obtain⟨n,hn⟩:∃n,n=zs.length:=⟨_,rfl⟩
 rw[<-hn]at hx K ⊢;subst hx;clear h hn hA
 by_cases hle:left<n
 ·rw[szV_out hle]at K ⊢
  go_enter Tryz.func240,Tryz.ntmps240
  go_wp2_with fail
  refine K.out.mono ?_;rintro e w1 ⟨rfl,rfl⟩;go_wp2;go_ret;exact⟨rfl,HA.out⟩
 ·rw[szV_in (by omega)]at K ⊢
  have h2:¬left - (n:Int)<0:=by omega
  go_enter Tryz.func240,Tryz.ntmps240
  go_wp2_with fail
  refine K.out.mono ?_;rintro e w1 ⟨rfl,rfl⟩;go_wp2;go_ret;exact⟨rfl,HA.out⟩
theorem toFew_at (w:World) (u:Value) (zs:List Int) (h:ArgI w u zs) (hn:zs.length<=1048576):
  Calls Tryz.prog 244 #[.agg #[u]] w fun e w'=>∃g,e=.returned (.agg #[.slice (some ⟨g,0,none⟩) zs.length zs.length])/\OwnI w' w.heap.size (.slice (some ⟨g,0,none⟩) zs.length zs.length) zs/\Below w.heap.size w w':=by
 have hA:=(((Below.refl w.heap.size w).alloc lr_ (.cells #[u] 173)).alloc (by simp) (.cells #[.slice none 0 0] 38)).alloc (by simp;omega) (.cells #[.slice none 0 0] 38);have K:=hd_ (toIntS_at _ u zs (h.below hA lr_) hn);have HA:=hd_ hA;obtain⟨x,c,hx⟩:=h.form;obtain⟨n,hn'⟩:∃n,n=zs.length:=⟨_,rfl⟩
 rw[<-hn']at hx K hn ⊢;subst hx;clear h hn' hA;obtain⟨w0,hw0⟩:∃w0,w0=(((w.alloc (.cells #[.slice x n c] 173)).alloc (.cells #[.slice none 0 0] 38)).alloc (.cells #[.slice none 0 0] 38)):=⟨_,rfl⟩
 have c1:w0.cell? ⟨w.heap.size+1,0,none⟩=some (.slice none 0 0):=by rw[hw0,World.cell?_alloc_past (hn:=by simp),World.cell?_alloc_at (hn:=by simp)];simp
 have f1:w0.frozen? ⟨w.heap.size+1,0,none⟩=false:=by rw[hw0,World.frozen?_alloc_past (hn:=by simp)];exact World.frozen?_alloc_at _ _ _ _ (by simp)
 have c2:w0.cell? ⟨w.heap.size+1+1,0,none⟩=some (.slice none 0 0):=by rw[hw0,World.cell?_alloc_at (hn:=by simp)];simp
 have f2:w0.frozen? ⟨w.heap.size+1+1,0,none⟩=false:=by rw[hw0];exact World.frozen?_alloc_at _ _ _ _ (by simp)
 have sz:=hd_ (show w0.heap.size=w.heap.size+3 by rw[hw0];simp);rw[<-hw0]at K HA;have HW:=hd_ hw0;clear hw0;go_enter Tryz.func244,Tryz.ntmps244
 go_wp2_with fail
 rw[<-HW.out];refine K.out.mono ?_;rintro e w1 ⟨rfl,ho1,hb1⟩;have d1:=cell_later hb1 c1;have d2:=cell_later hb1 c2;have g1:w1.frozen? ⟨w.heap.size+1,0,none⟩=false:=(hb1.frozen (p:=⟨w.heap.size+1,0,none⟩) (by have:=sz.out;simp;omega)).trans f1;have g2:w1.frozen? ⟨w.heap.size+1+1,0,none⟩=false:=(hb1.frozen (p:=⟨w.heap.size+1+1,0,none⟩) (by have:=sz.out;simp;omega)).trans f2
 have B1:=hd_ (HA.out.trans (hb1.mono HA.out.size));have O1:=hd_ ho1;have e1:(w1.setCell ⟨w.heap.size+1+1,0,none⟩ (.slice (some ⟨w0.heap.size,0,none⟩) n n)).cell? ⟨w.heap.size+1,0,none⟩=some (.slice none 0 0):=(World.cell?_setCell_other (h:=by simp) ..).trans d1
 have e2:(w1.setCell ⟨w.heap.size+1+1,0,none⟩ (.slice (some ⟨w0.heap.size,0,none⟩) n n)).frozen? ⟨w.heap.size+1,0,none⟩=false:=by rw[World.frozen?_setCell];exact g1
 have e3:=World.cell?_setCell_same w1 ⟨w.heap.size+1+1,0,none⟩ (.slice (some ⟨w0.heap.size,0,none⟩) n n) d2;clear hb1 ho1 HW c1 c2 f1 f2;go_wp2;have hr:=World.cell?_setCell_same _ ⟨w.heap.size+1,0,none⟩ (.slice (some ⟨w0.heap.size,0,none⟩) n n) e1;have s1:=grownBy_setCell w1 ⟨w.heap.size+1+1,0,none⟩ (.slice (some ⟨w0.heap.size,0,none⟩) n n)
 have s2:=grownBy_setCell (w1.setCell ⟨w.heap.size+1+1,0,none⟩ (.slice (some ⟨w0.heap.size,0,none⟩) n n)) ⟨w.heap.size+1,0,none⟩ (.slice (some ⟨w0.heap.size,0,none⟩) n n);refine bodyPost_ret (v:=.agg #[.slice (some ⟨w0.heap.size,0,none⟩) n n]) (by simp[results,Tryz.results244,go_sem,hr]) rfl ⟨_,rfl,?_,?_⟩
 ·exact ((O1.out.kept s1 (fun k e=>by have:=sz.out;simp at e;omega)).kept s2 (fun k e=>by have:=sz.out;simp at e;omega)).base (by have:=sz.out;omega)
 ·exact (B1.out.setCell (by simp;omega) _).setCell (by simp) _
theorem eqFew_at (w:World) (u v:Value) (za zb:List Int) (ha:Ints w u za) (hb:Ints w v zb) (hl:za.length<=maxLen):
  Calls Tryz.prog 136 #[.agg #[u],.agg #[v]] w fun e w'=>e=.returned (.bool (decide (za=zb)))/\Below w.heap.size w w':=by
 have hA:=((Below.refl w.heap.size w).alloc lr_ (.cells #[u] 38)).alloc (by simp) (.cells #[v] 38);have K:=hd_ (eqIntS_at _ u v za zb (ha.below hA lr_) (hb.below hA lr_) hl);have HA:=hd_ hA;obtain⟨⟨x,c,hx⟩,_⟩:=ha.cases;obtain⟨⟨y,d,hy⟩,_⟩:=hb.cases;obtain⟨n,hn⟩:∃n,n=za.length:=⟨_,rfl⟩
 obtain⟨m,hm⟩:∃m,m=zb.length:=⟨_,rfl⟩
 rw[<-hn]at hx;rw[<-hm]at hy;subst hx hy;clear ha hb hn hm hl hA
 by_cases h:za=zb
 ·rw[decide_eq_true h]at K ⊢
  clear h;go_enter Tryz.func136,Tryz.ntmps136
  go_wp2_with fail
  refine K.out.mono ?_;rintro e w1 ⟨rfl,q,rfl⟩;go_wp2;go_ret;exact⟨rfl,below_drewN HA.out _⟩
 ·rw[decide_eq_false h]at K ⊢
  clear h;go_enter Tryz.func136,Tryz.ntmps136
  go_wp2_with fail
  refine K.out.mono ?_;rintro e w1 ⟨rfl,q,rfl⟩;go_wp2;go_ret;exact⟨rfl,below_drewN HA.out _⟩
theorem ahead_mono (rs:List (List Int)):∀i j,i<=j->ahead rs i<=ahead rs j:=fun i j h=>by
 induction h with
 |refl=>exact Nat.le_refl _
 |step _ ih=>exact Nat.le_trans ih (by simp[ahead])
theorem ahead_row (rs:List (List Int)) (i n:Nat) (h:i<n):(rs.getD i []).length<=ahead rs n:=
 Nat.le_trans (by show _<=ahead rs i+(rs.getD i []).length;omega) (ahead_mono rs (i+1) n h)
theorem ArgR.len {w:World} {v:Value} {rs:List (List Int)} (h:ArgR w v rs):rs.length<=maxLen:=by
 rcases h with ⟨rfl,_⟩|⟨b,o,c,e,h0,h1,_⟩
 ·exact Nat.zero_le _
 ·exact h1
theorem ArgR.cells {w:World} {x:Option Addr} {n c:Nat} {rs:List (List Int)} (h:ArgR w (.slice x n c) rs):∀i,i<rs.length->∃b o u,x=some ⟨b,o,none⟩/\b<w.heap.size/\w.cell? ⟨b,o+i,none⟩=some u/\ArgI w u (rs.getD i []):=fun i hi=>by
 rcases h with ⟨rfl,_⟩|⟨b,o,c',e,_,_,hb,hc⟩
 ·cases hi
 ·obtain⟨u,hu,ha⟩:=hc i hi
  exact⟨b,o,u,(Value.slice.inj e).1,hb,hu,ha⟩
theorem szIntSS_at (w:World) (v:Value) (rs:List (List Int)) (left:Int) (h:ArgR w v rs) (h0:0<=left) (h1:left<=1048576):
  Calls Tryz.prog 184 #[v,.int .i64 left] w fun e w'=>e=.returned (.int .i64 (szV left (rs.length+ahead rs rs.length)))/\w=w':=by
 obtain⟨x,c,hx⟩:=h.form;have hl:=h.len;have hcs:=fun hx':v=.slice x rs.length c=>(hx' ▸ h:ArgR w (.slice x rs.length c) rs).cells
 obtain⟨n,hn⟩:∃n,n=rs.length:=⟨_,rfl⟩
 have HC:=hd_ (hcs hx);rw[<-hn]at hx hl HC ⊢;have HN:=hd_ hn;subst hx;unfold maxLen at hl;clear h hn hcs
 by_cases hle:left<n
 ·rw[szV_out (by omega)]
  have h2:left - (n:Int)<0:=by omega
  go_enter Tryz.func184,Tryz.ntmps184;go_wp2;go_ret;exact⟨rfl,rfl⟩
 ·have h2:¬left - (n:Int)<0:=by omega
  have HM:=hd_ (ahead_mono rs);go_enter Tryz.func184,Tryz.ntmps184;go_wp2
  go_loop [1,5] (fun q i=>∃(k a:Nat),k<=n/\i=.int .i64 k/\q=.int .i64 (left - n - a)/\a=ahead rs k/\(a:Int)<=left - n) (fun _ i=>n - (intOf i).toNat)
  case atStart=>exact⟨0,0,Nat.zero_le _,rfl,by simp,rfl,by omega⟩
  case round=>
   obtain⟨k,a,hk,rfl,rfl,ha,hal⟩:=hrel;have HA:=hd_ ha;clear ha
   by_cases hlt:k<n
   ·obtain⟨b,o,u,rfl,hb,hu,hai⟩:=HC.out k hlt
    obtain⟨m,hm⟩:∃m,m=(rs.getD k []).length:=⟨_,rfl⟩
    have KS:=hd_ (szIntS_at w u (rs.getD k []) (left - n - a) hai (by omega) (by omega));obtain⟨xu,cu,hxu⟩:=hai.form;rw[<-hm]at KS hxu;have e3:ahead rs (k+1)=a+m:=by rw[hm,HA.out];rfl
    have E3:=hd_ e3;have mono:=HM.out (k+1) n hlt;rw[e3]at mono;have MO:=hd_ mono;have k0:(0:Int)<=(k:Int):=by omega
    have kn:(k:Int)<(n:Int):=by omega
    subst hxu;clear hm e3 mono hai
    by_cases hlm:left - n - a<m
    ·rw[szV_out hlm]at KS
     have fin:Hid (szV left (n+ahead rs n)= -1):=szV_out (by have:=MO.out;omega)
     go_wp2_with fail
     refine KS.out.mono ?_;rintro e w1 ⟨rfl,rfl⟩;go_wp2;go_ret;exact⟨by rw[fin.out];rfl,rfl⟩
    ·rw[szV_in (by omega)]at KS
     have h3:¬left - (n:Int) - (a:Int) - (m:Int)<0:=by omega
     go_wp2_with fail
     refine KS.out.mono ?_;rintro e w1 ⟨rfl,rfl⟩;go_wp2
     go_round
     case rel=>exact⟨k+1,a+m,by omega,by go_num,by rw[show left - (n:Int) - (a:Int) - (m:Int)=left - n - ((a+m:Nat):Int) by omega],E3.out.symm,by omega⟩
     case measure=>simp[intOf];omega
   ·obtain rfl:k=n:=by omega
    have fin:Hid (szV left (k+ahead rs k)=left - k - a):=by
     show szV left (k+ahead rs k)=_
     rw[<-HA.out,szV_in (by omega)];omega
    go_wp2;go_ret;exact⟨by rw[fin.out];rfl,rfl⟩
theorem info_slice:(Tryz.prog.info? 23).map (fun i=>(i.zero,i.size,i.bytes))=some (some (.slice none 0 0),1,24):=by kernel_rfl
theorem rows_make (n:Nat) (hn:n<=1048576):∀w,(Instr.makeSlice 34 (.int .i64 (n:Int)) (.int .i64 (n:Int))).run Tryz.prog w=.ok (.slice (some ⟨w.heap.size,0,none⟩) n n) (w.alloc (.cells (madeCells #[.slice none 0 0] n) 23)):=
 run_make_row' (P:=Tryz.prog) 34 23 (.slice none 0 0) 24 Tryz.underlying34 info_slice rfl .i64 .i64 n (by omega) (by omega)
theorem szRough_at (w:World) (u:Value) (rs:List (List Int)) (left:Int) (h:ArgR w u rs) (h0:0<=left) (h1:left<=1048576):
  Calls Tryz.prog 239 #[.agg #[u],.int .i64 left] w fun e w'=>e=.returned (.int .i64 (szV left (rs.length+ahead rs rs.length)))/\Below w.heap.size w w':=by
 have hA:=(Below.refl w.heap.size w).alloc lr_ (.cells #[u] 172);have K:=hd_ (szIntSS_at _ u rs left (h.below hA lr_) h0 h1);have HA:=hd_ hA;obtain⟨x,c,hx⟩:=h.form;obtain⟨n,hn⟩:∃n,n=rs.length:=⟨_,rfl⟩
 obtain⟨m,hm⟩:∃m,m=rs.length+ahead rs rs.length:=⟨_,rfl⟩
 rw[<-hm]at K ⊢;rw[<-hn]at hx;subst hx;clear h hn hA hm
 by_cases hle:left<m
 ·rw[szV_out hle]at K ⊢
  go_enter Tryz.func239,Tryz.ntmps239
  go_wp2_with fail
  refine K.out.mono ?_;rintro e w1 ⟨rfl,rfl⟩;go_wp2;go_ret;exact⟨rfl,HA.out⟩
 ·rw[szV_in (by omega)]at K ⊢
  have h2:¬left - (m:Int)<0:=by omega
  go_enter Tryz.func239,Tryz.ntmps239
  go_wp2_with fail
  refine K.out.mono ?_;rintro e w1 ⟨rfl,rfl⟩;go_wp2;go_ret;exact⟨rfl,HA.out⟩
end Go.Proofs.YtcblbdpdbggkbaaGreat
set_option linter.unusedVariables false
namespace Go.Proofs.YtcblbdpdbggkbaaGreat
open Go.RowKit Go.Sort
theorem markIntS_nil (w:World) (k:Int):Calls Tryz.prog 53 #[.slice none 0 0,.int .i64 k] w fun e w'=>e=.returned (.int .i64 k)/\w=w':=by
 go_enter Tryz.func53,Tryz.ntmps53;go_wp2;refine wp_loop_rounds 1 ?_;rw[rounds_succ];go_wp2;go_ret;exact⟨rfl,rfl⟩
theorem markIntS_own (w:World) (B:Nat) (v:Value) (zs:List Int) (k:Int) (h:OwnI w B v zs) (hn:zs.length<=200000000) (hk:0<=k) (hk':k<=1000000000000):
  Calls Tryz.prog 53 #[v,.int .i64 k] w fun e w'=>e=.returned (.int .i64 (k+zs.length))/\OwnI w' B v (mkRow k zs.length)/\w.grownBy w' v.ownBlock:=by
 by_cases h0:v=.slice none 0 0
 ·subst h0
  have hz:zs=[]:=by
   rcases h.2 with ⟨_,e⟩|⟨g,cap,cur,e,_⟩
   ·exact List.eq_nil_of_length_eq_zero e
   ·cases e
  subst hz;exact (markIntS_nil w k).mono fun e w' ⟨he,hw⟩=>⟨by rw[he];simp,by subst hw;exact OwnI.nil _ _,by subst hw;exact grownBy_refl _ _⟩
 ·rcases h.2 with ⟨e,_⟩|⟨g,cap,cur,e,hb,hh,hc,hm,hs,ht⟩
  ·exact absurd e h0
  ·subst e
   refine (markIntS_at w B g cap zs.length zs k rfl hn hk hk' h).mono fun e w' ⟨he,ho,hg⟩=>⟨he,?_,hg⟩
   unfold OwnI;rw[mkRow_len];exact ho
def CopiedTo (W:World) (L:Nat) (rs:List (List Int)) (xs:List Value) (G:Nat->Nat) (k:Nat):Prop:=
 ∀j,j<k->xs[j]? =some (.slice (some ⟨G j,0,none⟩) (rs.getD j []).length (rs.getD j []).length)/\OwnI W (L+1) (.slice (some ⟨G j,0,none⟩) (rs.getD j []).length (rs.getD j []).length) (rs.getD j [])/\L<G j/\G j<W.heap.size/\∀i,i<j->G i<G j
theorem copied_own {W:World} {L n:Nat} {rs:List (List Int)} {xs:List Value} {G:Nat->Nat} (hn:n=rs.length) (hx:xs.length=n) (ho:W.ownsRow L 23 1 (.slice (some ⟨L,0,none⟩) n n) n xs) (hc:CopiedTo W L rs xs G n):
  OwnR W L (.slice (some ⟨L,0,none⟩) n n) rs G (fun i=>(rs.getD i []).length):=by
 subst hn;have e:xs=(List.range rs.length).map (rowV rs G fun i=>(rs.getD i []).length):=by
  refine List.ext_getElem? fun i=>?_
  by_cases hi:i<rs.length
  ·rw[(hc i hi).1,List.getElem?_map,List.getElem?_range hi];rfl
  ·rw[List.getElem?_eq_none (by omega),List.getElem?_eq_none (by simp;omega)]
 refine⟨by rw[<-e];exact ho,fun i hi=>OwnI.base (hc i hi).2.1 (Nat.le_succ _),fun i hi q=>?_,fun i j hi hj hne q=>?_⟩
 ·have h:=(hc i hi).2.2.1
  simp[Value.ownBlock]at q;omega
 ·rcases Nat.lt_or_gt_of_ne hne with h|h
  ·have:=(hc j hj).2.2.2.2 i h;omega
  ·have:=(hc i hi).2.2.2.2 j h;omega
theorem toIntSS_own (w:World) (v:Value) (rs:List (List Int)) (h:ArgR w v rs) (hn:rs.length<=1048576) (hr:∀i,i<rs.length->(rs.getD i []).length<=1048576):
  Calls Tryz.prog 187 #[v] w fun e w'=>e=.returned (.slice (some ⟨w.heap.size,0,none⟩) rs.length rs.length)/\(∃G:Nat->Nat,OwnR w' w.heap.size (.slice (some ⟨w.heap.size,0,none⟩) rs.length rs.length) rs G (fun i=>(rs.getD i []).length))/\Below w.heap.size w w':=by
 obtain⟨x,c,hx⟩:=h.form;have hcs:=fun hx':v=.slice x rs.length c=>(hx' ▸ h:ArgR w (.slice x rs.length c) rs).cells
 obtain⟨n,hn'⟩:∃n,n=rs.length:=⟨_,rfl⟩
 have HC:=hd_ (hcs hx);rw[<-hn']at hx hn HC hr ⊢;have HR:=hd_ hr;have hmk:=rows_make n hn;have own0:=World.ownsRow_lit (base:=w.heap.size) (e:=23) (size:=1) w (madeCells #[.slice none 0 0] n) n lr_ (by unfold maxLen;omega) (by rw[size_madeCells];omega);have O0:=hd_ own0;have HN:=hd_ hn';subst hx;clear h hn' hcs own0 hr;go_enter Tryz.func187,Tryz.ntmps187;go_wp2
 go_loopw [4] (fun i wr=>∃(k:Nat) (xs:List Value) (G:Nat->Nat),k<=n/\i=.int .i64 k/\xs.length=n/\CopiedTo wr w.heap.size rs xs G k/\wr.ownsRow w.heap.size 23 1 (.slice (some ⟨w.heap.size,0,none⟩) n n) n xs/\Below w.heap.size w wr) (fun i _=>n - (intOf i).toNat)
 case atStart=>exact⟨0,_,fun _=>0,Nat.zero_le _,rfl,by rw[Array.length_toList,size_madeCells],fun _ h=>absurd h (Nat.not_lt_zero _),O0.out,(Below.refl _ _).alloc lr_ _⟩
 case round=>
  obtain⟨k,xs,G,hk,rfl,hy,hys,hown,hbl⟩:=hrel;have HY:=hd_ hy;have HYS:=hd_ hys;have HB:=hd_ hbl;have HO:=hd_ hown;clear hy hys hbl hown
  by_cases hlt:k<n
  ·obtain⟨b,o,u,rfl,hb,h1,hai⟩:=HC.out k hlt
   rw[<-HB.out.cell (p:=⟨b,o+k,none⟩) hb]at h1;have KT:=hd_ (toIntS_at wr u (rs.getD k []) (hai.below HB.out lr_) (HR.out k hlt));obtain⟨xu,cu,hxu⟩:=hai.form;obtain⟨m,hm⟩:∃m,m=(rs.getD k []).length:=⟨_,rfl⟩
   rw[<-hm]at KT hxu;subst hxu;have hlw:w.heap.size<wr.heap.size:=(World.ownsRow.lt HO.out w.heap.size rfl).2;have k0:(0:Int)<=(k:Int):=by omega
   have kn:(k:Int)<(n:Int):=by omega
   have HM:=hd_ hm;clear hai hm
   go_wp2_with fail
   refine KT.out.mono ?_;rintro e w1 ⟨rfl,ho1,hb1⟩;have ho2:=HO.out.kept (grownBy_below (row:=none) hb1) (.inr (by simp[Value.ownBlock]));obtain⟨uu,hc⟩:∃uu,w1.cell? ⟨w.heap.size,k,none⟩=some uu:=by
    rw[ho2.cellAt k (by omega)];exact⟨_,List.getElem?_eq_getElem (by rw[HY.out];exact hlt)⟩
   have hf:=ho2.frozenAt k;have hs:=ho2.stored k (.slice (some ⟨wr.heap.size,0,none⟩) m m);have HS:=hd_ hs;have O1:=hd_ ho1;have B1:=hd_ hb1;clear hs ho1 ho2 hb1;go_wp2;go_roundw
   case rel=>
    have sg:=grownBy_setCell w1 ⟨w.heap.size,k,none⟩ (.slice (some ⟨wr.heap.size,0,none⟩) m m);have hg:=hlw;refine⟨k+1,xs.set k (.slice (some ⟨wr.heap.size,0,none⟩) m m),fun i=>if i=k then wr.heap.size else G i,by omega,by go_num,by simpa using HY.out,fun j hj=>?_,HS.out.1,(HB.out.trans (B1.out.mono HB.out.size)).setCell lr_ _⟩
    have sz1:wr.heap.size<w1.heap.size:=(World.ownsRow.lt O1.out wr.heap.size rfl).2
    by_cases e:j=k
    ·subst e
     simp only[if_pos];refine⟨by rw[List.getElem?_set_self (by rw[HY.out];exact hlt),HM.out],by rw[<-HM.out];exact (O1.out.base (by omega)).kept sg (fun q eq=>by simp at eq;omega),hlw,by simpa using sz1,fun i hi=>?_⟩;rw[if_neg (by omega)];exact (HYS.out i (by omega)).2.2.2.1
    ·obtain⟨hx,hox,h1,h2,h3⟩:=HYS.out j (by omega)
     simp only[if_neg e];refine⟨by rw[List.getElem?_set_ne (Ne.symm e)];exact hx,(hox.kept (grownBy_below (row:=none) B1.out) (fun q eq=>by cases eq)).kept sg (fun q eq=>by simp at eq;omega),h1,by simp;omega,fun i hi=>?_⟩;rw[if_neg (by omega)];exact h3 i hi
   case measure=>simp[intOf];omega
  ·obtain rfl:k=n:=by omega
   go_wp2;go_ret;exact⟨rfl,⟨G,copied_own HN.out HY.out HO.out HYS.out⟩,HB.out⟩
theorem toRough_own (w:World) (u:Value) (rs:List (List Int)) (h:ArgR w u rs) (hn:rs.length<=1048576) (hr:∀i,i<rs.length->(rs.getD i []).length<=1048576):
  Calls Tryz.prog 243 #[.agg #[u]] w fun e w'=>∃g,e=.returned (.agg #[.slice (some ⟨g,0,none⟩) rs.length rs.length])/\OwnRR w' w.heap.size w'.heap.size (.slice (some ⟨g,0,none⟩) rs.length rs.length) rs/\Below w.heap.size w w':=by
 have hA:=(((Below.refl w.heap.size w).alloc lr_ (.cells #[u] 172)).alloc (by simp) (.cells #[.slice none 0 0] 36)).alloc (by simp;omega) (.cells #[.slice none 0 0] 36);have K:=hd_ (toIntSS_own _ u rs (h.below hA lr_) hn hr);have HA:=hd_ hA;obtain⟨x,c,hx⟩:=h.form;obtain⟨n,hn'⟩:∃n,n=rs.length:=⟨_,rfl⟩
 rw[<-hn']at hx K hn ⊢;subst hx;have HNN:=hd_ hn';clear h hn' hA hr;obtain⟨w0,hw0⟩:∃w0,w0=(((w.alloc (.cells #[.slice x n c] 172)).alloc (.cells #[.slice none 0 0] 36)).alloc (.cells #[.slice none 0 0] 36)):=⟨_,rfl⟩
 have c1:w0.cell? ⟨w.heap.size+1,0,none⟩=some (.slice none 0 0):=by rw[hw0,World.cell?_alloc_past (hn:=by simp),World.cell?_alloc_at (hn:=by simp)];simp
 have f1:w0.frozen? ⟨w.heap.size+1,0,none⟩=false:=by rw[hw0,World.frozen?_alloc_past (hn:=by simp)];exact World.frozen?_alloc_at _ _ _ _ (by simp)
 have c2:w0.cell? ⟨w.heap.size+1+1,0,none⟩=some (.slice none 0 0):=by rw[hw0,World.cell?_alloc_at (hn:=by simp)];simp
 have f2:w0.frozen? ⟨w.heap.size+1+1,0,none⟩=false:=by rw[hw0];exact World.frozen?_alloc_at _ _ _ _ (by simp)
 have sz:=hd_ (show w0.heap.size=w.heap.size+3 by rw[hw0];simp);rw[<-hw0]at K HA;have HW:=hd_ hw0;clear hw0;go_enter Tryz.func243,Tryz.ntmps243
 go_wp2_with fail
 rw[<-HW.out];refine K.out.mono ?_;rintro e w1 ⟨rfl,ho1,hb1⟩;have d1:=cell_later hb1 c1;have d2:=cell_later hb1 c2;have g1:w1.frozen? ⟨w.heap.size+1,0,none⟩=false:=(hb1.frozen (p:=⟨w.heap.size+1,0,none⟩) (by have:=sz.out;simp;omega)).trans f1;have g2:w1.frozen? ⟨w.heap.size+1+1,0,none⟩=false:=(hb1.frozen (p:=⟨w.heap.size+1+1,0,none⟩) (by have:=sz.out;simp;omega)).trans f2
 have B1:=hd_ (HA.out.trans (hb1.mono HA.out.size));have O1:=hd_ ho1;have e1:(w1.setCell ⟨w.heap.size+1+1,0,none⟩ (.slice (some ⟨w0.heap.size,0,none⟩) n n)).cell? ⟨w.heap.size+1,0,none⟩=some (.slice none 0 0):=(World.cell?_setCell_other (h:=by simp) ..).trans d1
 have e2:(w1.setCell ⟨w.heap.size+1+1,0,none⟩ (.slice (some ⟨w0.heap.size,0,none⟩) n n)).frozen? ⟨w.heap.size+1,0,none⟩=false:=by rw[World.frozen?_setCell];exact g1
 have e3:=World.cell?_setCell_same w1 ⟨w.heap.size+1+1,0,none⟩ (.slice (some ⟨w0.heap.size,0,none⟩) n n) d2;clear hb1 ho1 HW c1 c2 f1 f2;go_wp2;have hr:=World.cell?_setCell_same _ ⟨w.heap.size+1,0,none⟩ (.slice (some ⟨w0.heap.size,0,none⟩) n n) e1;have s1:=grownBy_setCell w1 ⟨w.heap.size+1+1,0,none⟩ (.slice (some ⟨w0.heap.size,0,none⟩) n n)
 have s2:=grownBy_setCell (w1.setCell ⟨w.heap.size+1+1,0,none⟩ (.slice (some ⟨w0.heap.size,0,none⟩) n n)) ⟨w.heap.size+1,0,none⟩ (.slice (some ⟨w0.heap.size,0,none⟩) n n);refine bodyPost_ret (v:=.agg #[.slice (some ⟨w0.heap.size,0,none⟩) n n]) (by simp[results,Tryz.results243,go_sem,hr]) rfl ⟨_,rfl,?_,?_⟩
 ·obtain⟨G,o1⟩:=O1.out
  exact (((o1.grown s1 (fun k e=>by have:=sz.out;simp at e;omega)).grown s2 (fun k e=>by have:=sz.out;simp at e;omega)).base (by have:=sz.out;omega)).bounds
 ·exact (B1.out.setCell (by simp;omega) _).setCell (by simp) _
structure Lens (A:List (List Int)):Prop where
 len:A.length<=1048576
 row:∀i,i<A.length->(A.getD i []).length<=1048576
 all:ahead A A.length<=100000000
 lenM:A.length<=maxLen
 rowM:∀i,i<A.length->(A.getD i []).length<=maxLen
theorem Lens.arg {A:List (List Int)} (h:A.length+ahead A A.length<=1048576):Lens A:=
 ⟨by omega,fun i hi=>by have:=ahead_row A i A.length hi;omega,by omega,by unfold maxLen;omega,fun i hi=>by have:=ahead_row A i A.length hi;unfold maxLen;omega⟩
end Go.Proofs.YtcblbdpdbggkbaaGreat
set_option linter.unusedVariables false
namespace Go.Proofs.YtcblbdpdbggkbaaGreat.T
open Go.RowKit Go.ChangeShapes Go.WideShapes Go.ChangeAt Go.Deep Go.Joins
def ArgP (w:World) (v:Value) (ps:List Pr):Prop:=
 (ps=[]/\∃x c,v=.slice x 0 c)\/
 ∃b o c,v=.slice (some ⟨b,o,none⟩) ps.length c/\0<ps.length/\ps.length<=maxLen/\b<w.heap.size/\
  ∀i,i<ps.length->w.cell? ⟨b,o+i * 2,none⟩=some (.int .i64 (pr ps i).1)/\w.cell? ⟨b,o+i * 2+1,none⟩=some (.int .i64 (pr ps i).2)
theorem ArgP.below {w w':World} {v:Value} {ps:List Pr} (h:ArgP w v ps) {B:Nat} (hb:Below B w w') (hB:w.heap.size<=B):ArgP w' v ps:=by
 rcases h with h|⟨b,o,c,e,h0,h1,h2,h3⟩
 ·exact .inl h
 ·exact .inr ⟨b,o,c,e,h0,h1,Nat.lt_of_lt_of_le h2 hb.size,fun i hi=>by
      rw[hb.cell (p:=⟨b,o+i * 2,none⟩) (by show b<B;omega),hb.cell (p:=⟨b,o+i * 2+1,none⟩) (by show b<B;omega)];exact h3 i hi⟩
theorem ArgP.form {w:World} {v:Value} {ps:List Pr} (h:ArgP w v ps):∃x c,v=.slice x ps.length c:=by
 rcases h with ⟨rfl,x,c,e⟩|⟨b,o,c,e,_⟩
 ·exact⟨x,c,e⟩
 ·exact⟨_,c,e⟩
theorem ArgP.len {w:World} {v:Value} {ps:List Pr} (h:ArgP w v ps):ps.length<=maxLen:=by
 rcases h with ⟨rfl,_⟩|⟨b,o,c,e,h0,h1,_⟩
 ·exact Nat.zero_le _
 ·exact h1
theorem ArgP.cells {w:World} {x:Option Addr} {n c:Nat} {ps:List Pr} (h:ArgP w (.slice x n c) ps):∀i,i<ps.length->∃b o,x=some ⟨b,o,none⟩/\b<w.heap.size/\w.cell? ⟨b,o+i * 2,none⟩=some (.int .i64 (pr ps i).1)/\w.cell? ⟨b,o+i * 2+1,none⟩=some (.int .i64 (pr ps i).2):=fun i hi=>by
 rcases h with ⟨rfl,_⟩|⟨b,o,c,e,h0,h1,h2,h3⟩
 ·cases hi
 ·exact⟨b,o,(Value.slice.inj e).1,h2,h3 i hi⟩
def szV (left:Int) (n:Nat):Int:=if left<n then -1 else left - n
theorem szV_in {left:Int} {n:Nat} (h:(n:Int)<=left):szV left n=left - n:=if_neg (by omega)
theorem szV_out {left:Int} {n:Nat} (h:left<n):szV left n= -1:=if_pos h
theorem open_pairs {H:Type} {enc:TypeId × Value->H} {w:World} {fuel:Nat} {u:Value} {y:DataW H × List MemPlace} (h:DataW.trod enc Tryz.prog w 0 (fun _=>true) true fuel 174 [u]=some y):∃ps,ArgP w u ps:=by
 have hC:Tryz.prog.cellsOf 318=2:=by kernel_rfl
 have hC0:Tryz.prog.cellsOf 3=1:=by kernel_rfl
 rcases open_slice Tryz.underlying174 h with ⟨e,_⟩|⟨a,len,cap,m,n,D,Pl,e,_,hl,hm,hmm,_,hi⟩
 ·simp at e
  exact⟨[],.inl ⟨rfl,_,_,e⟩⟩
 ·simp at e
  simp only[if_true]at hmm;subst e;rw[hC]at hi;have key:∀i,i<len->∃p:Pr,w.cell? (a.add (i * 2))=some (.int .i64 p.1)/\w.cell? (a.add (i * 2+1))=some (.int .i64 p.2):=fun i hlt=>by
   obtain⟨cs,hc,ht⟩:=hi i (by omega);obtain⟨y0,y1,k,_,hlen,h0,h1⟩:=trod_struct2 Tryz.underlying318 ht;obtain⟨_,hcl,hat⟩:=World.cells?_some hc;obtain⟨l0,l1,rfl⟩:∃l0 l1,cs=[l0,l1]:=by
    match cs,hcl with
    | [l0,l1],_=>exact⟨l0,l1,rfl⟩
   simp[hC0]at h0 h1;obtain⟨t,e0,_⟩:=DataW.trod_int Tryz.underlying3 h0;obtain⟨z,e1,_⟩:=DataW.trod_int Tryz.underlying3 h1;simp at e0 e1;have a0:=hat 0 (by omega);have a1:=hat 1 (by omega);rw[Go.Deep.add_add]at a0 a1;exact⟨(t,z),by simpa[e0]using a0,by simpa[e1]using a1⟩
  by_cases h0:len=0
  ·subst h0
   exact⟨[],.inl ⟨rfl,_,_,rfl⟩⟩
  obtain⟨b,o,sp⟩:=a;have f:∀i,∃p:Pr,i<len->w.cell? ((⟨b,o,sp⟩:Addr).add (i * 2))=some (.int .i64 p.1)/\w.cell? ((⟨b,o,sp⟩:Addr).add (i * 2+1))=some (.int .i64 p.2):=fun i=>by
   by_cases hlt:i<len
   ·obtain⟨p,hp⟩:=key i hlt
    exact⟨p,fun _=>hp⟩
   ·exact⟨(0,0),fun hc=>absurd hc hlt⟩
  have f':∃F:Nat->Pr,∀i,i<len->w.cell? ((⟨b,o,sp⟩:Addr).add (i * 2))=some (.int .i64 (F i).1)/\w.cell? ((⟨b,o,sp⟩:Addr).add (i * 2+1))=some (.int .i64 (F i).2):=⟨fun i=>Classical.choose (f i),fun i=>Classical.choose_spec (f i)⟩
  obtain⟨F,hF⟩:=f';have c0:=(hF 0 (by omega)).1;have hs:sp=none:=by simpa[Addr.add]using World.cell?_spot c0
  subst hs;have e:((List.range len).map F).length=len:=by simp
  refine⟨(List.range len).map F,.inr ⟨b,o,cap,by rw[e],by omega,by omega,by simpa[Addr.add]using World.block_lt_of_cell? _ _ c0,fun i hi=>?_⟩⟩;rw[e]at hi;have eg:pr ((List.range len).map F) i=F i:=by simp[pr,hi]
  rw[eg];have:=hF i hi;rw[addr_plus,addr_plus, <-Nat.add_assoc]at this;exact this
theorem szPairS_at (w:World) (v:Value) (ps:List Pr) (left:Int) (h:ArgP w v ps) (h0:0<=left) (h1:left<=1048576):
  Calls Tryz.prog 280 #[v,.int .i64 left] w fun e w'=>e=.returned (.int .i64 (szV left ps.length))/\w=w':=by
 obtain⟨x,c,hx⟩:=h.form;have hl:=h.len;obtain⟨n,hn⟩:∃n,n=ps.length:=⟨_,rfl⟩
 rw[<-hn]at hx hl ⊢;subst hx;unfold maxLen at hl;clear h hn
 by_cases hle:left<n
 ·rw[szV_out hle]
  have h2:left - (n:Int)<0:=by omega
  go_enter Tryz.func280,Tryz.ntmps280;go_wp2;go_ret;exact⟨rfl,rfl⟩
 ·rw[szV_in (by omega)]
  have h2:¬left - (n:Int)<0:=by omega
  go_enter Tryz.func280,Tryz.ntmps280;go_wp2;go_ret;exact⟨rfl,rfl⟩
theorem szTop_at (w:World) (u:Value) (ps:List Pr) (lost all left:Int) (h:ArgP w u ps) (h0:0<=left) (h1:left<=1048576):
  Calls Tryz.prog 241 #[.agg #[u,.int .i64 lost,.int .i64 all],.int .i64 left] w fun e w'=>e=.returned (.int .i64 (szV left ps.length))/\Below w.heap.size w w':=by
 have hA:=(Below.refl w.heap.size w).alloc lr_ (.cells #[u,.int .i64 lost,.int .i64 all] 176);have K:=hd_ (szPairS_at _ u ps left (h.below hA lr_) h0 h1);have HA:=hd_ hA;obtain⟨x,c,hx⟩:=h.form;obtain⟨n,hn⟩:∃n,n=ps.length:=⟨_,rfl⟩
 rw[<-hn]at hx K ⊢;subst hx;clear h hn hA
 by_cases hle:left<n
 ·rw[szV_out hle]at K ⊢
  go_enter Tryz.func241,Tryz.ntmps241
  go_wp2_with fail
  refine K.out.mono ?_;rintro e w1 ⟨rfl,rfl⟩;go_wp2;go_ret;exact⟨rfl,HA.out⟩
 ·rw[szV_in (by omega)]at K ⊢
  have h2:¬left - (n:Int)<0:=by omega
  go_enter Tryz.func241,Tryz.ntmps241
  go_wp2_with fail
  refine K.out.mono ?_;rintro e w1 ⟨rfl,rfl⟩;go_wp2;go_ret;exact⟨rfl,HA.out⟩
end Go.Proofs.YtcblbdpdbggkbaaGreat.T
namespace Go.Proofs.YtcblbdpdbggkbaaGreat.T
open Go.RowKit Go.Sort
theorem prs_zero (n:Nat):prs (List.replicate n (0,0))=List.replicate (n * 2) (.int .i64 0):=by
 induction n with
 |zero=>rfl
 |succ n ih=>rw[List.replicate_succ,prs_cons,ih,show (n+1) * 2=n * 2+1+1 by omega,List.replicate_succ,List.replicate_succ]
theorem made_pairs (n:Nat):(madeCells #[.int .i64 0,.int .i64 0] (n * 2)).toList=prs (List.replicate n (0,0)):=by
 rw[prs_zero];apply List.ext_getElem?;intro j
 by_cases hj:j<n * 2
 ·have h2:j % 2=0\/j % 2=1:=by omega
  rcases h2 with h|h<;>simp[madeCells,hj,h]
 ·simp[madeCells,hj]
theorem pair_make (n:Nat) (hn:n<=1048576):∀w,(Instr.makeSlice 39 (.int .i64 (n:Int)) (.int .i64 (n:Int))).run Tryz.prog w=.ok (.slice (some ⟨w.heap.size,0,none⟩) n n) (w.alloc (.cells (madeCells #[.int .i64 0,.int .i64 0] (n * 2)) 213)):=fun w=>by
 obtain⟨i0,hi,hz0,hz1,hz2⟩:=info_parts pair_info;have h:=run_make (P:=Tryz.prog) w 39 213 i0 (.agg #[.int .i64 0,.int .i64 0]) Tryz.underlying39 hi hz0 .i64 .i64 n n (by omega) (Int.le_refl _) (by rw[hz2];omega) (by omega);simp only[Int.toNat_natCast,hz1]at h;exact h
theorem prs_set2 (ps:List Pr) (k:Nat) (t z:Int) (h:k<ps.length):((prs ps).set (k * 2) (.int .i64 t)).set (k * 2+1) (.int .i64 z)=prs (ps.set k (t,z)):=by
 induction ps generalizing k with
 |nil=>cases h
 |cons p ps ih=>
  cases k with
  |zero=>rfl
  |succ k=>
   have:=ih k (by simpa using h);rw[List.set_cons_succ,prs_cons,prs_cons, <-this,show (k+1) * 2=k * 2+1+1 by omega];simp
theorem toPair_at (w:World) (t z:Int):Calls Tryz.prog 299 #[.agg #[.int .i64 t,.int .i64 z]] w fun e w'=>e=.returned (.agg #[.int .i64 t,.int .i64 z])/\Below w.heap.size w w':=by
 go_enter Tryz.func299,Tryz.ntmps299;go_wp2;refine bodyPost_ret (v:=.agg #[.int .i64 t,.int .i64 z]) (by simp[results,Tryz.results299,go_sem]) rfl ⟨rfl,?_⟩;exact (((Below.refl _ _).alloc lr_ _).alloc (by simp) _).alloc (by simp;omega) _
theorem toPairS_at (w:World) (v:Value) (ps:List Pr) (h:ArgP w v ps) (hn:ps.length<=1048576):
  Calls Tryz.prog 282 #[v] w fun e w'=>e=.returned (.slice (some ⟨w.heap.size,0,none⟩) ps.length ps.length)/\OwnP w' w.heap.size (.slice (some ⟨w.heap.size,0,none⟩) ps.length ps.length) ps/\Below w.heap.size w w':=by
 obtain⟨x,c,hx⟩:=h.form;obtain⟨n,hn'⟩:∃n,n=ps.length:=⟨_,rfl⟩
 have HZ:Hid (∀i,i<n->∃b o,x=some ⟨b,o,none⟩/\b<w.heap.size/\w.cell? ⟨b,o+i * 2,none⟩=some (.int .i64 (pr ps i).1)/\w.cell? ⟨b,o+i * 2+1,none⟩=some (.int .i64 (pr ps i).2)):=fun i hi=>by
  rw[hx]at h;exact h.cells i (by rw[<-hn'];exact hi)
 have HN:=hd_ hn';rw[<-hn']at hx hn ⊢;have hmk:=pair_make n hn;have own0:OwnP (w.alloc (.cells (madeCells #[.int .i64 0,.int .i64 0] (n * 2)) 213)) w.heap.size (.slice (some ⟨w.heap.size,0,none⟩) n n) (List.replicate n (0,0)):=by
  have:=World.ownsRow_lit (base:=w.heap.size) (e:=213) (size:=2) w (madeCells #[.int .i64 0,.int .i64 0] (n * 2)) n lr_ (by unfold maxLen;omega) (by rw[size_madeCells]);rw[made_pairs]at this;unfold OwnP;rw[List.length_replicate];exact this
 have O0:=hd_ own0;subst hx;clear h hn' own0;go_enter Tryz.func282,Tryz.ntmps282;go_wp2;go_loopw [4] (fun i wr=>∃(k:Nat) (ys:List Pr),k<=n/\i=.int .i64 k/\ys.length=n/\(∀i,i<k->pr ys i=pr ps i)/\OwnP wr w.heap.size (.slice (some ⟨w.heap.size,0,none⟩) n n) ys/\Below w.heap.size w wr) (fun i _=>n - (intOf i).toNat)
 case atStart=>exact⟨0,List.replicate n (0,0),Nat.zero_le _,rfl,by simp,fun _ h=>absurd h (Nat.not_lt_zero _),O0.out,(Below.refl _ _).alloc lr_ _⟩
 case round=>
  obtain⟨k,ys,hk,rfl,hy,hys,hown,hbl⟩:=hrel;have HY:=hd_ hy;have HYS:=hd_ hys;have HB:=hd_ hbl;have HO:=hd_ hown;clear hy hys hbl hown
  by_cases hlt:k<n
  ·obtain⟨b,o,rfl,hb,h1,h2⟩:=HZ.out k hlt
   rw[<-HB.out.cell (p:=⟨b,o+k * 2,none⟩) hb]at h1;rw[<-HB.out.cell (p:=⟨b,o+k * 2+1,none⟩) hb]at h2;obtain⟨y,hyk⟩:∃y,pr ps k=y:=⟨_,rfl⟩
   rw[hyk]at h1 h2;have HK:=hd_ hyk;obtain⟨t,z⟩:=y;simp only at h1 h2;have k0:(0:Int)<=(k:Int):=by omega
   have kn:(k:Int)<(n:Int):=by omega
   clear hyk
   go_wp2_with fail
   refine (toPair_at wr t z).mono ?_;rintro e w1 ⟨rfl,hb1⟩;have ho:w1.ownsRow w.heap.size 213 2 (.slice (some ⟨w.heap.size,0,none⟩) n n) n (prs ys):=by have h:=HO.out.below hb1;unfold OwnP at h;rw[HY.out]at h;exact h
   have hl:=prs_len ys;rw[HY.out]at hl;obtain⟨u0,hc0⟩:∃u,w1.cell? ⟨w.heap.size,k * 2,none⟩=some u:=by
    rw[ho.cellAt (k * 2) (by omega)];exact⟨_,List.getElem?_eq_getElem (by omega)⟩
   obtain⟨u1,hc1⟩:∃u,w1.cell? ⟨w.heap.size,k * 2+1,none⟩=some u:=by
    rw[ho.cellAt (k * 2+1) (by omega)];exact⟨_,List.getElem?_eq_getElem (by omega)⟩
   have hf0:=ho.frozenAt (k * 2);have hf1:=ho.frozenAt (k * 2+1);have hs:=((ho.stored (k * 2) (.int .i64 t)).1.stored (k * 2+1) (.int .i64 z)).1;rw[prs_set2 ys k t z (by rw[HY.out];exact hlt)]at hs;have HS:=hd_ hs;have B1:=hd_ (HB.out.trans (hb1.mono HB.out.size));clear hs ho hl hb1 h1 h2;go_wp2;go_roundw
   case rel=>
    refine⟨k+1,ys.set k (t,z),by omega,by go_num,by simpa using HY.out,fun i hi=>?_,?_,(B1.out.setCell lr_ _).setCell lr_ _⟩
    ·by_cases e:i=k
     ·subst e
      rw[HK.out];simp[pr,HY.out,hlt]
     ·have e1:pr (ys.set k (t,z)) i=pr ys i:=by simp[pr,Ne.symm e]
      rw[e1];exact HYS.out i (by omega)
    ·unfold OwnP
     rw[List.length_set,HY.out];exact HS.out
   case measure=>simp[intOf];omega
  ·obtain rfl:k=n:=by omega
   have fin0:ys=ps:=by
    apply List.ext_getElem (by rw[HY.out,HN.out]);intro i h1 h2;have:=HYS.out i (by rw[<-HY.out];exact h1);simpa[pr,h1,h2]using this
   have fin:=hd_ fin0;clear fin0;go_wp2;go_ret;refine⟨rfl,?_,HB.out⟩;rw[<-fin.out];exact HO.out
theorem toTop_at (w:World) (u:Value) (ps:List Pr) (lost all:Int) (h:ArgP w u ps) (hn:ps.length<=1048576):
  Calls Tryz.prog 245 #[.agg #[u,.int .i64 lost,.int .i64 all]] w fun e w'=>∃g,e=.returned (.agg #[.slice (some ⟨g,0,none⟩) ps.length ps.length,.int .i64 lost,.int .i64 all])/\OwnP w' w.heap.size (.slice (some ⟨g,0,none⟩) ps.length ps.length) ps/\Below w.heap.size w w':=by
 obtain⟨W,hW⟩:∃W,W=((w.alloc (.cells #[u,.int .i64 lost,.int .i64 all] 176)).alloc (.cells #[.slice none 0 0,.int .i64 0,.int .i64 0] 41)).alloc (.cells #[.slice none 0 0,.int .i64 0,.int .i64 0] 41):=⟨_,rfl⟩
 have hA:Below w.heap.size w W:=by rw[hW];exact (((Below.refl _ _).alloc lr_ _).alloc (by simp) _).alloc (by simp;omega) _
 have sW:W.heap.size=w.heap.size+3:=by rw[hW];simp
 have A:Box3 W w.heap.size 176 u (.int .i64 lost) (.int .i64 all):=by rw[hW];exact ((Box3.new w _ _ _ _).alloc _).alloc _
 have X:Box3 W (w.heap.size+1) 41 (.slice none 0 0) (.int .i64 0) (.int .i64 0):=by
  rw[hW];have:=Box3.new (w.alloc (.cells #[u,.int .i64 lost,.int .i64 all] 176)) 41 (.slice none 0 0) (.int .i64 0) (.int .i64 0);rw[World.size_alloc]at this;exact this.alloc _
 have Y:Box3 W (w.heap.size+1+1) 41 (.slice none 0 0) (.int .i64 0) (.int .i64 0):=by
  rw[hW];have:=Box3.new ((w.alloc (.cells #[u,.int .i64 lost,.int .i64 all] 176)).alloc (.cells #[.slice none 0 0,.int .i64 0,.int .i64 0] 41)) 41 (.slice none 0 0) (.int .i64 0) (.int .i64 0);rw[World.size_alloc,World.size_alloc]at this;exact this
 have K:=hd_ (toPairS_at W u ps (h.below hA lr_) hn);obtain⟨x,c,hx⟩:=h.form;obtain⟨n,hn'⟩:∃n,n=ps.length:=⟨_,rfl⟩
 rw[<-hn']at hx K hn ⊢;subst hx;have HA:=hd_ hA;have HS:=hd_ sW;clear h hn' hA sW;go_enter Tryz.func245,Tryz.ntmps245
 go_wp2_with fail
 rw[<-hW];clear hW;refine K.out.mono ?_;rintro e w1 ⟨rfl,ho,hb1⟩;have A1:=A.later hb1;have X1:=X.later hb1;have Y1:=Y.later hb1;have L1:=hd_ (HA.out.trans (hb1.mono HA.out.size));rw[HS.out]at ho ⊢;clear hb1 A X Y
 -- the copy,filled field by field
 have gy:=((grownBy_setCell w1 ⟨w.heap.size+1+1,0,none⟩ (.slice (some ⟨w.heap.size+3,0,none⟩) n n)).trans (grownBy_setCell _ ⟨w.heap.size+1+1,1,none⟩ (.int .i64 lost))).trans (grownBy_setCell _ ⟨w.heap.size+1+1,2,none⟩ (.int .i64 all));have Yb:=Y1.set (.slice (some ⟨w.heap.size+3,0,none⟩) n n) (.int .i64 lost) (.int .i64 all);have Xb:=X1.kept gy (by simp)
 have o1:=ho.set3 (b:=w.heap.size+1+1) (Y1.not_row (by decide) ho) (.slice (some ⟨w.heap.size+3,0,none⟩) n n) (.int .i64 lost) (.int .i64 all);have o2:=hd_ ((o1.set3 (b:=w.heap.size+1) (Xb.not_row (by decide) o1) (.slice (some ⟨w.heap.size+3,0,none⟩) n n) (.int .i64 lost) (.int .i64 all)).base (B':=w.heap.size) (by omega))
 have L2:=hd_ (below_set3 (b:=w.heap.size+1) (below_set3 (b:=w.heap.size+1+1) L1.out (by omega) (.slice (some ⟨w.heap.size+3,0,none⟩) n n) (.int .i64 lost) (.int .i64 all)) (by omega) (.slice (some ⟨w.heap.size+3,0,none⟩) n n) (.int .i64 lost) (.int .i64 all));have Xc:=Xb.set (.slice (some ⟨w.heap.size+3,0,none⟩) n n) (.int .i64 lost) (.int .i64 all);have a0:=A1.cell0;have a1:=A1.cell1
 have a2:=A1.cell2;have y0:=Y1.cell0;have y1:=Y1.cell1;have y2:=Y1.cell2;have yf:=Y1.free;have yb0:=Yb.cell0;have yb1:=Yb.cell1;have yb2:=Yb.cell2;have xb0:=Xb.cell0;have xb1:=Xb.cell1;have xb2:=Xb.cell2;have xbf:=Xb.free;have xc0:=Xc.cell0;have xc1:=Xc.cell1;have xc2:=Xc.cell2;clear A1 X1 Y1 gy Yb Xb Xc o1 ho K;go_wp2
 exact bodyPost_ret (v:=.agg #[.slice (some ⟨w.heap.size+3,0,none⟩) n n,.int .i64 lost,.int .i64 all]) (by simp[results,Tryz.results245,go_sem,xc0,xc1,xc2]) rfl ⟨_,rfl,o2.out,L2.out⟩
theorem eqPair_same (w:World) (t z:Int):Calls Tryz.prog 237 #[.agg #[.int .i64 t,.int .i64 z],.agg #[.int .i64 t,.int .i64 z]] w fun e w'=>e=.returned (.bool true)/\Below w.heap.size w w':=by
 have e1:(t != t)=false:=by simp
 have e2:(z != z)=false:=by simp
 have e3:decide (t=t)=true:=by simp
 have e4:decide (z=z)=true:=by simp
 go_enter Tryz.func237,Tryz.ntmps237;go_wp2;go_ret;exact⟨rfl,((Below.refl _ _).alloc lr_ _).alloc (by simp) _⟩
theorem eqPairS_in (w:World) (x:Option Addr) (c:Nat) (y:Option Addr) (d n:Nat) (ps:List Pr) (hl:ps.length=n) (hp:Prs w (.slice x n c) ps) (hq:Prs w (.slice y n d) ps) (hn:n<=1048576):
  Calls Tryz.prog 191 #[.slice x n c,.slice y n d] w fun e w'=>e=.returned (.bool true)/\Below w.heap.size w w':=by
 have PC:=hd_ hp.cells;have QC:=hd_ hq.cells;have HL:=hd_ hl;have e3:((n:Int) != (n:Int))=false:=by simp
 have e6:decide ((n:Int)=(n:Int))=true:=by simp
 clear hp hq hl;go_enter Tryz.func191,Tryz.ntmps191;go_wp2;go_loopw [5] (fun i wr=>∃k:Nat,k<=n/\i=.int .i64 k/\Below w.heap.size w wr) (fun i _=>n - (intOf i).toNat)
 case atStart=>exact⟨0,Nat.zero_le _,rfl,Below.refl _ _⟩
 case round=>
  obtain⟨k,hk,rfl,hb0⟩:=hrel;have BB:=hd_ hb0;clear hb0
  by_cases hlt:k<n
  ·obtain⟨b,o,rfl,hb,h1,h2⟩:=PC.out k (by rw[HL.out];exact hlt)
   obtain⟨b',o',rfl,hb',h3,h4⟩:=QC.out k (by rw[HL.out];exact hlt);rw[<-BB.out.cell (p:=⟨b,o+k * 2,none⟩) hb]at h1;rw[<-BB.out.cell (p:=⟨b,o+k * 2+1,none⟩) hb]at h2;rw[<-BB.out.cell (p:=⟨b',o'+k * 2,none⟩) hb']at h3;rw[<-BB.out.cell (p:=⟨b',o'+k * 2+1,none⟩) hb']at h4;generalize pr ps k=q at h1 h2 h3 h4;obtain⟨t,z⟩:=q;have k0:(0:Int)<=(k:Int):=by omega
   have k1:(k:Int)<(n:Int):=by omega
   have KE:=hd_ (fun W=>eqPair_same W t z);go_wp2
   go_region_with (first
        |(go_at_call 237;refine (KE.out _).mono ?_;rintro e w1 ⟨rfl,hb1⟩))
   all_goals
    have B1:=hd_ ((BB.out.trans (Below.drew (Below.refl _ _))).trans (hb1.mono BB.out.size));clear hb1;go_wp2;go_roundw
    case rel=>exact⟨k+1,by omega,by go_num,B1.out⟩
    case measure=>simp[intOf];omega
  ·obtain rfl:k=n:=by omega
   go_wp2;go_ret;exact⟨by first|rfl|simp,BB.out⟩
theorem eqPairS_same (w:World) (u v:Value) (ps:List Pr) (hp:Prs w u ps) (hq:Prs w v ps) (hn:ps.length<=1048576):
  Calls Tryz.prog 191 #[u,v] w fun e w'=>e=.returned (.bool true)/\Below w.heap.size w w':=by
 obtain⟨x,c,rfl,_,_⟩:=hp.form;obtain⟨y,d,rfl,_,_⟩:=hq.form;exact eqPairS_in w x c y d _ ps rfl hp hq hn
theorem eqTop_same (w:World) (u v:Value) (ps:List Pr) (lost all:Int) (hp:Prs w u ps) (hq:Prs w v ps) (hn:ps.length<=1048576):
  Calls Tryz.prog 137 #[.agg #[u,.int .i64 lost,.int .i64 all],.agg #[v,.int .i64 lost,.int .i64 all]] w fun e w'=>e=.returned (.bool true)/\Below w.heap.size w w':=by
 obtain⟨W,hW⟩:∃W,W=(w.alloc (.cells #[u,.int .i64 lost,.int .i64 all] 41)).alloc (.cells #[v,.int .i64 lost,.int .i64 all] 41):=⟨_,rfl⟩
 have B0:Below w.heap.size w W:=by rw[hW];exact ((Below.refl _ _).alloc lr_ _).alloc (by simp) _
 have X:Box3 W w.heap.size 41 u (.int .i64 lost) (.int .i64 all):=by rw[hW];exact (Box3.new w _ _ _ _).alloc _
 have Y:Box3 W (w.heap.size+1) 41 v (.int .i64 lost) (.int .i64 all):=by rw[hW];have:=Box3.new (w.alloc (.cells #[u,.int .i64 lost,.int .i64 all] 41)) 41 v (.int .i64 lost) (.int .i64 all);rwa[World.size_alloc]at this
 have K:=hd_ (eqPairS_same W u v ps (hp.below B0 lr_) (hq.below B0 lr_) hn);obtain⟨x,c,rfl,_,_⟩:=hp.form;obtain⟨y,d,rfl,_,_⟩:=hq.form;obtain⟨n,hn'⟩:∃n,n=ps.length:=⟨_,rfl⟩
 rw[<-hn']at K X Y hW ⊢;have BB:=hd_ B0;have e1:(lost != lost)=false:=by simp
 have e2:(all != all)=false:=by simp
 have e4:decide (lost=lost)=true:=by simp
 have e5:decide (all=all)=true:=by simp
 clear hp hq hn' B0;go_enter Tryz.func137,Tryz.ntmps137
 go_wp2_with fail
 rw[<-hW];clear hW;refine K.out.mono ?_;rintro e w1 ⟨rfl,hb1⟩;have X1:=X.later hb1;have Y1:=Y.later hb1;have x1:=X1.cell1;have x2:=X1.cell2;have y1:=Y1.cell1;have y2:=Y1.cell2;go_wp2;go_ret;exact⟨by first|rfl|simp,BB.out.trans (hb1.mono BB.out.size)⟩
def mkP (k:Int) (n:Nat):List Pr:=(List.range n).map fun (i:Nat)=>(k+2 * (i:Int),k+2 * (i:Int)+1)
theorem mkP_len (k:Int) (n:Nat):(mkP k n).length=n:=by simp[mkP]
theorem mark_setP (k:Int) (ps:List Pr) (j:Nat) (hj:j<ps.length):
  (mkP k j++ps.drop j).set j (k+2 * (j:Int),k+2 * (j:Int)+1)=mkP k (j+1)++ps.drop (j+1):=by
 apply List.ext_getElem?;intro i;simp only[List.getElem?_set,List.length_append,mkP_len,List.length_drop];rcases Nat.lt_trichotomy i j with h|h|h
 ·rw[if_neg (by omega),List.getElem?_append_left (by rw[mkP_len];exact h),List.getElem?_append_left (by rw[mkP_len];omega)]
  simp[mkP,h,show i<j+1 by omega]
 ·subst h
  rw[if_pos rfl,if_pos (by omega),List.getElem?_append_left (by rw[mkP_len];omega)];simp[mkP]
 ·rw[if_neg (by omega),List.getElem?_append_right (by rw[mkP_len];omega),List.getElem?_append_right (by rw[mkP_len];omega),mkP_len,mkP_len]
  simp only[List.getElem?_drop];rw[show j+(i - j)=i by omega,show j+1+(i - (j+1))=i by omega]
theorem markPairS_nil (w:World) (k:Int):Calls Tryz.prog 130 #[.slice none 0 0,.int .i64 k] w fun e w'=>e=.returned (.int .i64 k)/\w=w':=by
 go_enter Tryz.func130,Tryz.ntmps130;go_wp2;refine wp_loop_rounds 1 ?_;rw[rounds_succ];go_wp2;go_ret;exact⟨rfl,rfl⟩
theorem markPairS_in (w:World) (B g c n:Nat) (ps:List Pr) (k:Int) (hl:ps.length=n) (hn:n<=100000000) (hk:0<=k) (hk':k<=1000000000000)
  (h:w.ownsRow B 213 2 (.slice (some ⟨g,0,none⟩) n c) n (prs ps)):
  Calls Tryz.prog 130 #[.slice (some ⟨g,0,none⟩) n c,.int .i64 k] w fun e w'=>
   e=.returned (.int .i64 (k+2 * (n:Int)))/\w'.ownsRow B 213 2 (.slice (some ⟨g,0,none⟩) n c) n (prs (mkP k n))/\w.grownBy w' (some g):=by
 have HL:=hd_ hl;have H:=hd_ h;clear hl h;go_enter Tryz.func130,Tryz.ntmps130;go_wp2;go_loopw [1,5] (fun q i wr=>∃j:Nat,j<=n/\i=.int .i64 j/\q=.int .i64 (k+2 * (j:Int))/\wr.ownsRow B 213 2 (.slice (some ⟨g,0,none⟩) n c) n (prs (mkP k j++ps.drop j))/\w.grownBy wr (some g)) (fun _ i _=>n - (intOf i).toNat)
 case atStart=>exact⟨0,Nat.zero_le _,rfl,by go_num,by simpa[mkP]using H.out,grownBy_refl _ _⟩
 case round=>
  obtain⟨j,hj,rfl,rfl,hown,hg⟩:=hrel;have HO:=hd_ hown;have HG:=hd_ hg;clear hown hg
  by_cases hlt:j<n
  ·have hl2:(prs (mkP k j++ps.drop j)).length=n * 2:=by rw[prs_len];simp[mkP_len,HL.out];omega
   obtain⟨x0,hc0⟩:∃x,wr.cell? ⟨g,j * 2,none⟩=some x:=by
    rw[HO.out.cellAt (j * 2) (by omega)];exact⟨_,List.getElem?_eq_getElem (by omega)⟩
   obtain⟨x1,hc1⟩:∃x,wr.cell? ⟨g,j * 2+1,none⟩=some x:=by
    rw[HO.out.cellAt (j * 2+1) (by omega)];exact⟨_,List.getElem?_eq_getElem (by omega)⟩
   have hf0:=HO.out.frozenAt (j * 2);have hf1:=HO.out.frozenAt (j * 2+1);have s1:=HO.out.stored (j * 2) (.int .i64 (k+2 * (j:Int)));have s2:=s1.1.stored (j * 2+1) (.int .i64 (k+2 * (j:Int)+1));rw[prs_set2 _ j _ _ (by simp[mkP_len,HL.out];omega),mark_setP k ps j (by rw[HL.out];exact hlt)]at s2;have G:=hd_ (grownBy_trans HG.out (grownBy_trans s1.2 s2.2));have HS:=hd_ s2.1
   have j0:(0:Int)<=(j:Int):=by omega
   have jn:(j:Int)<(n:Int):=by omega
   clear s1 s2 hl2;go_wp2;go_roundw
   case rel=>exact⟨j+1,by omega,by go_num,by rw[show ((j+1:Nat):Int)=(j:Int)+1 by omega];congr 1;omega,HS.out,G.out⟩
   case measure=>simp[intOf];omega
  ·obtain rfl:j=n:=by omega
   go_wp2;go_ret;have h0:ps.drop j=[]:=List.drop_of_length_le (by rw[HL.out];exact Nat.le_refl _);have ho:=HO.out;rw[h0,List.append_nil]at ho;exact⟨rfl,ho,HG.out⟩
theorem markPairS_own (w:World) (B:Nat) (v:Value) (ps:List Pr) (k:Int) (h:OwnP w B v ps) (hn:ps.length<=100000000) (hk:0<=k) (hk':k<=1000000000000):
  Calls Tryz.prog 130 #[v,.int .i64 k] w fun e w'=>e=.returned (.int .i64 (k+2 * (ps.length:Int)))/\OwnP w' B v (mkP k ps.length)/\w.grownBy w' v.ownBlock:=by
 by_cases h0:v=.slice none 0 0
 ·subst h0
  have hz:ps=[]:=by
   rcases h.2 with ⟨_,e⟩|⟨g,cap,cur,e,_⟩
   ·exact List.eq_nil_of_length_eq_zero e
   ·cases e
  subst hz;exact (markPairS_nil w k).mono fun e w' ⟨he,hw⟩=>⟨by rw[he];simp,by subst hw;exact OwnP.nil _ _,by subst hw;exact grownBy_refl _ _⟩
 ·rcases h.2 with ⟨e,_⟩|⟨g,cap,cur,e,hb,hh,hc,hm,hs,ht⟩
  ·exact absurd e h0
  ·subst e
   refine (markPairS_in w B g cap ps.length ps k rfl hn hk hk' h).mono fun e w' ⟨he,ho,hg⟩=>⟨he,?_,hg⟩
   unfold OwnP;rw[mkP_len];exact ho
end Go.Proofs.YtcblbdpdbggkbaaGreat.T
