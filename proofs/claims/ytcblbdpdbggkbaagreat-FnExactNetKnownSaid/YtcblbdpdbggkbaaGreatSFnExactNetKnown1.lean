/-
  What the law FnExactNetKnown needs of the texts before it, part 1.
-/
import Derived.BigQuiet
import Derived.Deep.AppendLies
import Derived.Deep.DrawnRows
import Derived.Deep.QuietTactic
import Derived.Deep.RegionHeld3
import Derived.Deep.RegionLaw
import Derived.Deep.RegionWith
import Derived.IntWalk
import Derived.Lib.Hide
import Derived.Lib.QuietBelow
import Derived.LoopIn
import Derived.LoopNIn
import Derived.Maps.AppendAt
import Derived.OneCell
import Derived.OwnWalkIn
import Derived.RangeFuncBound
import Derived.RangeFuncBox
import Derived.RangeFuncCalls
import Derived.RangeFuncLeaves
import Derived.RangeFuncNested
import Derived.Shelf.Abstract
import Derived.Shelf.RegionOpen
import Derived.StillTail
import Derived.TacticsInMore
import Derived.Test.YtcblbdpdbggkbaaGreatRows
import Derived.WalkKit
import Derived.WalkLawsBesides
import Derived.WalkSpells
set_option maxRecDepth 100000
set_option maxHeartbeats 16000000
set_option linter.unusedVariables false
set_option linter.unusedSectionVars false
set_option linter.unusedSimpArgs false
namespace Go.Proofs.YtcblbdpdbggkbaaGreat
theorem hd_ {P : Prop} (h : P) : Go.RowKit.Hid P := h
theorem lr_ {n : Nat} : n ≤ n := Nat.le_refl n
end Go.Proofs.YtcblbdpdbggkbaaGreat
set_option linter.unusedVariables false
namespace Go.Proofs.YtcblbdpdbggkbaaGreat
open Go.RowKit
theorem iE {k:IntKind} {a b:Int} (h:a=b):Ending.returned (.int k a)=.returned (.int k b):=by rw[h]
theorem aL {a b:Bool} (h:a=b):Ending.returned (.bool a)=.returned (.bool b):=by rw[h]
theorem iZ (a:Int) (w:World) (h0:0<=a) (h1:a<64):
  Calls Tryz.prog 106 #[.int .i64 a] w fun e w'=>e=.returned (.bool true)/\w=w':=by
 go_enter Tryz.func106,Tryz.ntmps106;go_wp2;go_ret;exact⟨rfl,rfl⟩
theorem mJ (a:Int) (w:World) (h:a<0\/64<=a):
  Calls Tryz.prog 106 #[.int .i64 a] w fun e w'=>e=.returned (.bool false)/\w=w':=by
 rcases h with h|h
 ·have h':¬ 0<=a:=by omega
  go_enter Tryz.func106,Tryz.ntmps106;go_wp2;go_ret;exact⟨rfl,rfl⟩
 ·have h':¬a<64:=by omega
  have h'':0<=a:=by omega
  go_enter Tryz.func106,Tryz.ntmps106;go_wp2;go_ret;exact⟨rfl,rfl⟩
theorem aN (n lo hi:Int) (w:World) (h0:lo<=n) (h1:n<=hi):
  Calls Tryz.prog 66 #[.int .i64 n,.int .i64 lo,.int .i64 hi] w fun e w'=>e=.returned (.bool true)/\w=w':=by
 go_enter Tryz.func66,Tryz.ntmps66;go_wp2;go_ret;exact⟨rfl,rfl⟩
theorem fL (n lo hi:Int) (w:World) (h:n<lo\/hi<n):
  Calls Tryz.prog 66 #[.int .i64 n,.int .i64 lo,.int .i64 hi] w fun e w'=>e=.returned (.bool false)/\w=w':=by
 by_cases h':lo<=n
 ·have h1:¬n<=hi:=by omega
  go_enter Tryz.func66,Tryz.ntmps66;go_wp2;go_ret;exact⟨rfl,rfl⟩
 ·go_enter Tryz.func66,Tryz.ntmps66
  go_wp2;go_ret;exact⟨rfl,rfl⟩
def nA (i t:Int):Int:=if i=0 then (3 * t+t / 8) % 8 else if i=1 then (5 * t+t / 16+1) % 8 else (t+t / 4+2) % 8
theorem aIE (i t:Int):0<=nA i t/\nA i t<8:=by unfold nA;split<;>(try split)<;>omega
theorem aAc (i t:Int) (w:World) (h0:0<=i) (h1:i<3) (h2:0<=t) (h3:t<64):
  Calls Tryz.prog 179 #[.int .i64 i,.int .i64 t] w fun e w'=>e=.returned (.int .i64 (nA i t))/\w=w':=by
 rcases (by omega:i=0\/i=1\/i=2)with rfl|rfl|rfl
 all_goals
  clear h0 h1;go_enter Tryz.func179,Tryz.ntmps179
  go_wp2_with (go_at_call 106;refine (iZ _ _ h2 h3).mono ?_;rintro e w' ⟨rfl,rfl⟩)
  go_ret;exact⟨iE rfl,rfl⟩
theorem aEl (i t:Int) (w:World) (h0:0<=i) (h1:i<3) (h2:0<=t) (h3:t<64):
  Calls Tryz.prog 320 #[.int .i64 i,.int .i64 t] w fun e w'=>e=.returned (.int .i64 (nA i t))/\Below w.heap.size w w':=by
 rcases (by omega:i=0\/i=1\/i=2)with rfl|rfl|rfl
 all_goals
  clear h0 h1;go_enter Tryz.func320,Tryz.ntmps320;go_wp2;go_ret;exact⟨iE (by first|(simp[nA];done)|(simp[nA];omega)),((Below.refl _ _).alloc lr_ _).alloc (by simp) _⟩
def cW (w:World) (v:Value) (zs:List Int):Prop:=
 (v=.slice none 0 0/\zs=[])\/
 ∃b o cap,v=.slice (some ⟨b,o,none⟩) zs.length cap/\zs.length<=cap/\cap<=maxLen/\b<w.heap.size/\∀i,i<zs.length->w.cell? ⟨b,o+i,none⟩=some (.int .i64 (zs.getD i 0))
def Rws (w:World) (v:Value) (rs:List (List Int)):Prop:=
 (v=.slice none 0 0/\rs=[])\/
 ∃b o cap,v=.slice (some ⟨b,o,none⟩) rs.length cap/\rs.length<=cap/\cap<=maxLen/\b<w.heap.size/\∀i,i<rs.length->∃x,w.cell? ⟨b,o+i,none⟩=some x/\cW w x (rs.getD i [])
theorem cW.below {w w':World} {v:Value} {zs:List Int} (h:cW w v zs) {B:Nat} (hb:Below B w w') (hB:w.heap.size<=B):cW w' v zs:=by
 rcases h with h|⟨b,o,cap,rfl,h1,h2,h3,h4⟩
 ·exact .inl h
 ·exact .inr ⟨b,o,cap,rfl,h1,h2,Nat.lt_of_lt_of_le h3 hb.size,fun i hi=>by rw[hb.cell (by show b<B;omega)];exact h4 i hi⟩
theorem Rws.below {w w':World} {v:Value} {rs:List (List Int)} (h:Rws w v rs) {B:Nat} (hb:Below B w w') (hB:w.heap.size<=B):Rws w' v rs:=by
 rcases h with h|⟨b,o,cap,rfl,h1,h2,h3,h4⟩
 ·exact .inl h
 ·refine .inr ⟨b,o,cap,rfl,h1,h2,Nat.lt_of_lt_of_le h3 hb.size,fun i hi=>?_⟩
  obtain⟨x,hx,hi'⟩:=h4 i hi;exact⟨x,by rw[hb.cell (by show b<B;omega)];exact hx,hi'.below hb hB⟩
theorem kO {α:Type} (l:List α) (k:Nat) (d:α) (h:k<l.length):l.getD k d ∈ l:=by
 rw[List.getD_eq_getElem?_getD,List.getElem?_eq_getElem h];exact List.getElem_mem h
theorem nO (zs:List Int) (k:Nat) (h:k<zs.length):(zs.take (k+1)).sum=(zs.take k).sum+zs.getD k 0:=by
 rw[List.take_succ_eq_append_getElem h,List.sum_append];simp[h]
theorem aH {P:Program} {f:FuncId} {args:Array Value} {w:World} {n:Nat} {v:Value}
  (h:Calls P f args (w.drewN n) fun e w'=>e=.returned v/\w.drewN n=w'):Calls P f args (w.drewN n) fun e w''=>e=.returned v/\∃m,w''=w.drewN m:=
 h.mono fun _ _ ⟨he,hm⟩=>⟨he,n,hm.symm⟩
theorem aLn (n:Int) (zs:List Int) (h:∀z ∈ zs,0<=z/\z<=n):0<=zs.sum/\zs.sum<=n * zs.length:=by
 induction zs with
 |nil=>simp
 |cons a l ih=>
  have h1:=ih (fun z hz=>h z (by simp[hz]));have h2:=h a (by simp);simp only[List.sum_cons,List.length_cons]
  constructor
  ·omega
  ·have:n * ((l.length+1:Nat):Int)=n * (l.length:Int)+n:=by rw[Int.natCast_add,Int.mul_add];simp
   omega
theorem rA (b o cap n:Nat) (zs:List Int) (w:World) (hn:zs.length=n) (hl:n<=8) (hz:∀k,k<n->0<=zs.getD k 0/\zs.getD k 0<=2000)
  (hc:∀i,i<n->w.cell? ⟨b,o+i,none⟩=some (.int .i64 (zs.getD i 0))):
  Calls Tryz.prog 224 #[.slice (some ⟨b,o,none⟩) n cap] w fun e w'=>e=.returned (.int .i64 zs.sum)/\w=w':=by
 subst hn;have hz:∀z ∈ zs,0<=z/\z<=2000:=fun z h=>by
  obtain⟨k,hk,rfl⟩:=List.getElem_of_mem h;have:=hz k hk;simpa[hk]using this
 have hp:∀k,0<=(zs.take k).sum/\(zs.take k).sum<=16000:=fun k=>by
  have h:=aLn 2000 (zs.take k) (fun z hz'=>hz z (List.mem_of_mem_take hz'));have:(zs.take k).length<=8:=by simp;omega
  omega
 have hg:∀k,k<zs.length->0<=zs.getD k 0/\zs.getD k 0<=2000:=fun k hk=>by
  have:=hz (zs.getD k 0) (by simp[hk]);exact this
 have Hhp:=hd_ hp;have Hhg:=hd_ hg;have Hc:=hd_ hc;clear hp hg hc hz;go_enter Tryz.func224,Tryz.ntmps224;go_wp2
 go_loop [3,4] (fun n i=>∃k:Nat,k<=zs.length/\i=.int .i64 k/\n=.int .i64 (zs.take k).sum) (fun _ i=>zs.length - (intOf i).toNat)
 case atStart=>exact⟨0,Nat.zero_le _,rfl,rfl⟩
 case round=>
  obtain⟨k,hk,rfl,rfl⟩:=hrel;have h1:=(Hhp.out k)
  by_cases hlt:k<zs.length
  ·have h2:=Hhg.out k hlt
   have h3:=Hc.out k hlt;have hs:=hd_ (nO zs k hlt);generalize zs.getD k 0=x at h2 h3 hs;go_wp2
   go_round
   case rel=>exact⟨k+1,by omega,by go_num,by rw[hs.out]⟩
   case measure=>simp[intOf];omega
  ·go_wp2
   go_ret;exact⟨iE (by rw[List.take_of_length_le (by omega)]),rfl⟩
theorem aQ {w w1 w2:World} {row:Option Nat} (h1:w.grownBy w1 row) (h2:w1.grownBy w2 row):w.grownBy w2 row:=
 ⟨h2.os.trans h1.os,h2.tape.trans h1.tape,h2.output.trans h1.output,Nat.le_trans h1.size h2.size,fun k hk hr=>(h2.block k (Nat.lt_of_lt_of_le hk h1.size) hr).trans (h1.block k hk hr)⟩
theorem eG (w:World) (row:Option Nat):w.grownBy w row:=⟨rfl,rfl,rfl,Nat.le_refl _,fun _ _ _=>rfl⟩
theorem cE {w w':World} {row:Option Nat} (h:Below w.heap.size w w'):w.grownBy w' row:=⟨h.os,h.tape,h.output,h.size,fun k hk _=>h.block k hk⟩
theorem nN {w w':World} {row:Option Nat} (h:w.grownBy w' row) (n:Nat):w.grownBy (w'.drewN n) row:=⟨h.os,h.tape,h.output,h.size,h.block⟩
theorem qG {w w':World} {B a:Nat} (h:w.grownBy w' (some a)) (hB:B<=a) (hw:B<=w.heap.size):Below B w w':=
 ⟨h.os,h.tape,h.output,h.size,fun k hk=>h.block k (by omega) (by simp;omega)⟩
theorem aA (w:World) (a:Addr) (u:Value):w.grownBy (w.setCell a u) (some a.block):=
 ⟨rfl,rfl,rfl,by simp,fun k _ hk=>heap_setCell_other w a k u (fun e=>hk (by simp[e]))⟩
structure dB (S:Nat->Prop) (w w':World):Prop where
 os:w'.os=w.os
 tape:w'.tape=w.tape
 output:w'.output=w.output
 size:w.heap.size<=w'.heap.size
 block:∀k,k<w.heap.size->¬S k->w'.heap[k]? =w.heap[k]?
theorem dB.refl (S:Nat->Prop) (w:World):dB S w w:=⟨rfl,rfl,rfl,Nat.le_refl _,fun _ _ _=>rfl⟩
theorem dB.trans {S:Nat->Prop} {a b c:World} (h:dB S a b) (k:dB S b c):dB S a c:=
 ⟨k.os.trans h.os,k.tape.trans h.tape,k.output.trans h.output,Nat.le_trans h.size k.size,fun i hi hs=>(k.block i (Nat.lt_of_lt_of_le hi h.size) hs).trans (h.block i hi hs)⟩
theorem dB.of_grown {w w':World} {g:Nat} {S:Nat->Prop} (h:w.grownBy w' (some g)) (hS:S g):dB S w w':=
 ⟨h.os,h.tape,h.output,h.size,fun k hk hs=>h.block k hk (fun e=>by cases e;exact hs hS)⟩
theorem dB.below {S:Nat->Prop} {w w':World} {B:Nat} (h:dB S w w') (hB:B<=w.heap.size) (hS:∀k,S k->B<=k):Below B w w':=
 ⟨h.os,h.tape,h.output,h.size,fun k hk=>h.block k (by omega) (fun hs=>by have:=hS k hs;omega)⟩
def mS (rs:List (List Int)) (G C:Nat->Nat) (i:Nat):Value:=.slice (some ⟨G i,0,none⟩) (rs.getD i []).length (C i)
def bM (zs:List Int):List Value:=zs.map (Value.int .i64)
structure cY (w:World) (B:Nat) (u:Value) (rs:List (List Int)) (G C:Nat->Nat):Prop where
 hdr:w.ownsRow B 23 1 u rs.length ((List.range rs.length).map (mS rs G C))
 row:∀i,i<rs.length->w.ownsRow B 3 1 (mS rs G C i) (rs.getD i []).length (bM (rs.getD i []))
 off:∀i,i<rs.length->u.ownBlock≠some (G i)
 apart:∀i j,i<rs.length->j<rs.length->i≠j->G i≠G j
theorem qV (zs:List Int):(bM zs).length=zs.length:=by simp[bM]
theorem iQ (zs:List Int) (i:Nat) (h:i<zs.length):(bM zs)[i]? =some (.int .i64 (zs.getD i 0)):=by simp[bM,h]
theorem aA4 {w:World} {B:Nat} {v:Value} {zs:List Int} (h:w.ownsRow B 3 1 v zs.length (bM zs)):cW w v zs:=by
 rcases h.2 with ⟨rfl,h0⟩|⟨g,cap,cur,rfl,hb,hg,hn,hc,hs,ht⟩
 ·exact .inl ⟨rfl,List.eq_nil_of_length_eq_zero h0⟩
 ·refine .inr ⟨g,0,cap,rfl,hn,hc,(Array.getElem?_eq_some_iff.1 hg).1,fun i hi=>?_⟩
  have:=World.ownsRow.cellAt h i (by omega);rw[Nat.zero_add,this,iQ _ _ hi]
theorem cY.rws {w:World} {B:Nat} {u:Value} {rs:List (List Int)} {G C:Nat->Nat} (h:cY w B u rs G C):Rws w u rs:=by
 have hh:=h.hdr;rcases hh.2 with ⟨rfl,h0⟩|⟨g,cap,cur,rfl,hb,hg,hn,hc,hs,ht⟩
 ·exact .inl ⟨rfl,List.eq_nil_of_length_eq_zero h0⟩
 ·refine .inr ⟨g,0,cap,rfl,hn,hc,(Array.getElem?_eq_some_iff.1 hg).1,fun i hi=>⟨_,?_,aA4 (h.row i hi)⟩⟩
  have:=World.ownsRow.cellAt hh i (by omega);rw[Nat.zero_add,this];simp[hi]
theorem cY.grown {w w':World} {B:Nat} {u:Value} {rs:List (List Int)} {G C:Nat->Nat} {row:Option Nat} (h:cY w B u rs G C) (hg:w.grownBy w' row) (hr:∀k,row=some k->k<B):cY w' B u rs G C:=by
 have ne:∀{v:Value} {n:Nat} {e:TypeId} {xs:List Value},w.ownsRow B e 1 v n xs->v.ownBlock=none\/v.ownBlock≠row:=fun {v n e xs} ho=>by
  cases hv:v.ownBlock with
  |none=>exact .inl rfl
  |some k=>exact .inr (fun e=>by have:=(ho.lt k hv).1;have:=hr k e.symm;omega)
 exact⟨h.hdr.kept hg (ne h.hdr),fun i hi=>(h.row i hi).kept hg (ne (h.row i hi)),h.off,h.apart⟩
theorem cY.below {w w':World} {B B':Nat} {u:Value} {rs:List (List Int)} {G C:Nat->Nat} (h:cY w B u rs G C) (hg:Below B' w w') (hB:w.heap.size<=B'):cY w' B u rs G C:=
 h.grown (row:=none) ⟨hg.os,hg.tape,hg.output,hg.size,fun k hk _=>hg.block k (by omega)⟩ (fun _ e=>by cases e)
theorem aR {w:World} {B B':Nat} {e:TypeId} {size:Nat} {v:Value} {n:Nat} {xs:List Value} (h:w.ownsRow B e size v n xs) (hB:B'<=B):w.ownsRow B' e size v n xs:=by
 obtain⟨h1,h2⟩:=h;refine⟨h1,?_⟩;rcases h2 with h2|⟨g,cap,cur,hv,hg,r⟩
 ·exact .inl h2
 ·exact .inr ⟨g,cap,cur,hv,Nat.le_trans hB hg,r⟩
theorem cY.base {w:World} {B B':Nat} {u:Value} {rs:List (List Int)} {G C:Nat->Nat} (h:cY w B u rs G C) (hB:B'<=B):cY w B' u rs G C:=
 ⟨aR h.hdr hB,fun i hi=>aR (h.row i hi) hB,h.off,h.apart⟩
theorem cY.snoc {w w':World} {B:Nat} {u:Value} {rs:List (List Int)} {G C:Nat->Nat} (h:cY w B u rs G C) {zs:List Int} {g c gg cap:Nat}
  (hz:w.ownsRow B 3 1 (.slice (some ⟨g,0,none⟩) zs.length c) zs.length (bM zs)) (hu:u.ownBlock≠some g) (hG:∀i,i<rs.length->G i≠g)
  (hown:w'.ownsRow B 23 1 (.slice (some ⟨gg,0,none⟩) (rs.length+1) cap) (rs.length+1) ((List.range rs.length).map (mS rs G C)++[.slice (some ⟨g,0,none⟩) zs.length c]))
  (hg:w.grownBy w' u.ownBlock) (hat:u.ownBlock=some gg\/gg=w.heap.size):
  cY w' B (.slice (some ⟨gg,0,none⟩) (rs.length+1) cap) (rs++[zs]) (fun i=>if i<rs.length then G i else g) (fun i=>if i<rs.length then C i else c):=by
 have e1:∀i,i<rs.length->mS (rs++[zs]) (fun i=>if i<rs.length then G i else g) (fun i=>if i<rs.length then C i else c) i=mS rs G C i:=fun i hi=>by
  simp[mS,hi,List.getElem?_append_left]
 have e2:mS (rs++[zs]) (fun i=>if i<rs.length then G i else g) (fun i=>if i<rs.length then C i else c) rs.length=.slice (some ⟨g,0,none⟩) zs.length c:=by
  simp[mS]
 have f1:∀i,i<rs.length->(rs++[zs]).getD i []=rs.getD i []:=fun i hi=>by simp[hi,List.getElem?_append_left]
 have f2:(rs++[zs]).getD rs.length []=zs:=by simp
 have lt1:∀i,i<rs.length->G i<w.heap.size:=fun i hi=>((h.row i hi).lt (G i) rfl).2
 have ltg:g<w.heap.size:=(hz.lt g rfl).2;refine⟨?_,fun i hi=>?_,fun i hi=>?_,fun i j hi hj hij=>?_⟩
 ·simp only[List.length_append,List.length_singleton]
  rw[List.range_succ,List.map_append,List.map_singleton,e2,List.map_congr_left (fun i hi=>e1 i (List.mem_range.1 hi))];exact hown
 ·simp only[List.length_append,List.length_singleton]at hi
  by_cases hi':i<rs.length
  ·rw[e1 i hi',f1 i hi']
   exact (h.row i hi').kept hg (.inr (fun e=>h.off i hi' e.symm))
  ·obtain rfl:i=rs.length:=by omega
   rw[e2,f2];exact hz.kept hg (.inr (fun e=>hu e.symm))
 ·simp only[List.length_append,List.length_singleton]at hi
  intro e;have e':gg=if i<rs.length then G i else g:=by simpa[Value.ownBlock]using e
  by_cases hi':i<rs.length
  ·rw[if_pos hi']at e'
   rcases hat with hat|hat
   ·exact h.off i hi' (by rw[hat,e'])
   ·have:=lt1 i hi';omega
  ·rw[if_neg hi']at e'
   rcases hat with hat|hat
   ·exact hu (by rw[hat,e'])
   ·omega
 ·simp only[List.length_append,List.length_singleton]at hi hj
  show (if i<rs.length then G i else g)≠(if j<rs.length then G j else g)
  by_cases hi':i<rs.length<;>by_cases hj':j<rs.length
  ·rw[if_pos hi',if_pos hj'];exact h.apart i j hi' hj' hij
  ·rw[if_pos hi',if_neg hj'];exact hG i hi'
  ·rw[if_neg hi',if_pos hj'];exact fun e=>hG j hj' e.symm
  ·omega
theorem cY.store {w:World} {B:Nat} {u:Value} {rs:List (List Int)} {G C:Nat->Nat} (h:cY w B u rs G C) (i k:Nat) (z:Int) (hi:i<rs.length) (hk:k<(rs.getD i []).length):
  cY (w.setCell ⟨G i,k,none⟩ (.int .i64 z)) B u (rs.set i ((rs.getD i []).set k z)) G C/\w.grownBy (w.setCell ⟨G i,k,none⟩ (.int .i64 z)) (some (G i)):=by
 have hg:=aA w ⟨G i,k,none⟩ (.int .i64 z);have eL:∀j,((rs.set i ((rs.getD i []).set k z)).getD j []).length=(rs.getD j []).length:=fun j=>by
  simp only[List.getD_eq_getElem?_getD,List.getElem?_set]
  by_cases e:i=j
  ·subst e;simp[hi]
  ·simp[e]
 have eV:∀j,mS (rs.set i ((rs.getD i []).set k z)) G C j=mS rs G C j:=fun j=>by unfold mS;rw[eL]
 refine⟨⟨?_,fun j hj=>?_,fun j hj=>h.off j (by simpa using hj),fun a b ha hb hab=>h.apart a b (by simpa using ha) (by simpa using hb) hab⟩,hg⟩
 ·simp only[List.length_set]
  rw[List.map_congr_left (fun j _=>eV j)];exact h.hdr.kept hg (.inr (h.off i hi))
 ·simp only[List.length_set]at hj
  rw[eV,eL]
  by_cases e:j=i
  ·subst e
   have:=((h.row j hj).stored k (.int .i64 z)).1;have e':bM ((rs.set j ((rs.getD j []).set k z)).getD j [])=(bM (rs.getD j [])).set k (.int .i64 z):=by
    simp[bM,hj,List.map_set]
   rw[e'];exact this
  ·have e':(rs.set i ((rs.getD i []).set k z)).getD j []=rs.getD j []:=by simp[Ne.symm e]
   rw[e'];exact (h.row j hj).kept hg (.inr (by simp[mS,Value.ownBlock];exact h.apart j i hj hi e))
end Go.Proofs.YtcblbdpdbggkbaaGreat
namespace Go.Proofs.YtcblbdpdbggkbaaGreat
open Go.RowKit Go.Sort
structure Boxed (p:Prop):Prop where
 out:p
theorem dG {P:Program} {ops:Array Oper} {C:World->Prop} {Q:Act->Prop} {a:Act} {o:Oper} {rest:List Oper}
  (h:∀K:Act->Prop,(∀a,Boxed (wpQuiet P ops C Q rest a)->K a)->if Region.wanted o (yielded ops a.tmps)then o.quiet P a C K else K (a.put o.dst undef)):Boxed (wpQuiet P ops C Q (o::rest) a):=
 ⟨wpQuiet_step fun K hK=>h K fun a ha=>hK a ha.out⟩
theorem eT {P:Program} {ops:Array Oper} {C:World->Prop} {Q:Act->Prop} {a:Act} (h:Q a):Boxed (wpQuiet P ops C Q [] a):=⟨h⟩
theorem eO {P:Program} {id:Nat} {Q:Exit->Act->World->Prop} {a:Act} {w:World} {l:List Oper} (hm:P.follows .mixedOrders=true) (hB:Region.lexB .any l.toArray=true)
  (h:Boxed (wpQuiet P l.toArray (fun w'=>∃p:Regrown,w'=grow (redrawn w p.d) p.os) (fun a'=>∀w',(∃p:Regrown,w'=grow (redrawn w p.d) p.os)->Q .normal a' w') l a)):(Code.region id l.toArray true).wp P Q a w:=
 wp_region_quiet_below hm hB h.out
def qC (o:Oper):Oper:={ o with op:=.move (.const (.bool false)) }
section
variable {P:Program} {md:Region.Mode} {C:World->Prop}
theorem aEx {A B:Array Oper} (hs:A.size=B.size) (h:∀j:Nat,(A[j]?).map Oper.after=(B[j]?).map Oper.after) (listed:Array Bool):Region.ready md A listed=Region.ready md B listed:=by
 have e:∀j,j ∈ Region.ready md A listed↔j ∈ Region.ready md B listed:=fun j=>by
  rw[mem_ready,mem_ready];have hj:=h j
  constructor
  ·rintro⟨h1,o,ho,h2⟩
   rw[ho]at hj;cases hB:B[j]? with
   |none=>rw[hB]at hj;cases hj
   |some o'=>
    rw[hB]at hj;have e:o.after=o'.after:=by simpa using hj
    exact⟨h1,o',rfl,fun e' he'=>h2 e' (by rw[e];exact he')⟩
  ·rintro⟨h1,o,ho,h2⟩
   rw[ho]at hj;cases hA:A[j]? with
   |none=>rw[hA]at hj;cases hj
   |some o'=>
    rw[hA]at hj;have e:o'.after=o.after:=by simpa using hj
    exact⟨h1,o',rfl,fun e' he'=>h2 e' (by rw[<-e];exact he')⟩
 unfold Region.ready at e ⊢;rw[hs]at e ⊢;apply List.filter_congr;intro j hj;have:=e j;simp only[List.mem_filter,hj,true_and]at this;exact Bool.eq_iff_iff.2 this
theorem aBK {A B:Array Oper} (h:∀j:Nat,(A[j]?).bind Oper.dst=(B[j]?).bind Oper.dst) (tmps:Array Value):yielded A tmps=yielded B tmps:=by
 funext j
 have h':((A[j]?).bind fun x=>x.dst)=(B[j]?).bind fun x=>x.dst:=h j
 unfold yielded;rw[h']
theorem qR {A B:Array Oper} (h:∀tmps,yielded A tmps=yielded B tmps) {Q:Act->Prop}:∀(l:List Oper) (a:Act),wpQuiet P A C Q l a->wpQuiet P B C Q l a
 | [],_,hh=>hh
 |o::l,a,hh=>by
  unfold wpQuiet at hh ⊢;rw[<-h]
  split
  ·rename_i hw
   rw[if_pos hw]at hh;exact Oper.quiet_mono (fun a'=>qR h l a') hh
  ·rename_i hw
   rw[if_neg hw]at hh;exact qR h l _ hh
theorem oT {A:Array Oper} {R R':Act->Prop} (ho:∀a,R a->R' a):∀(l:List Oper) (a:Act),wpQuiet P A C R l a->wpQuiet P A C R' l a
 | [],a,hh=>ho a hh
 |p::l,a,hh=>by
  unfold wpQuiet at hh ⊢
  split
  ·rename_i hw
   rw[if_pos hw]at hh;exact Oper.quiet_mono (fun a'=>oT ho l a') hh
  ·rename_i hw
   rw[if_neg hw]at hh;exact oT ho l _ hh
theorem oW {A:Array Oper} {R R':Act->Prop} {o:Oper} (ho:∀a,R a->wpQuiet P A C R' [o] a):∀(l:List Oper) (a:Act),wpQuiet P A C R l a->wpQuiet P A C R' (l++[o]) a
 | [],a,hh=>ho a hh
 |p::l,a,hh=>by
  rw[List.cons_append];unfold wpQuiet at hh ⊢
  split
  ·rename_i hw
   rw[if_pos hw]at hh;exact Oper.quiet_mono (fun a'=>oW ho l a') hh
  ·rename_i hw
   rw[if_neg hw]at hh;exact oW ho l _ hh
def sB (P:Program) (o:Oper) (Q:Exit->Act->World->Prop) (a:Act) (w:World):Prop:=o.wp P a w (fun a w=>Q .normal a w) Q\/(o.asks P a w/\LetsOut Q)
def aIC (A:Array Oper):Bool:=(List.range A.size).all fun i=>match A[i]? with|some o=>o.after.all fun e=>decide (e.on<i)|none=>true
theorem xS {A:Array Oper} {listed:Array Bool} (hb:aIC A=true) (hsz:listed.size=A.size):∀(i:Nat),i<A.size->listed.getD i true=false->∃j,j ∈ Region.ready md A listed:=by
 intro i
 induction i using Nat.strongRecOn with
 |_ i ih=>
  intro hi hun
  by_cases hr:i ∈ Region.ready md A listed
  ·exact⟨i,hr⟩
  ·have ho:A[i]? =some A[i]:=Array.getElem?_eq_getElem hi
   have h1:=List.all_eq_true.1 hb i (List.mem_range.2 hi);rw[ho]at h1;simp only at h1;have:∃e ∈ A[i].after,listed.getD e.on false≠true:=by
    apply Classical.byContradiction;intro hno;apply hr;rw[mem_ready];refine⟨hun,_,ho,fun e he _=>?_⟩;apply Classical.byContradiction;exact fun hne=>hno ⟨e,he,hne⟩
   obtain⟨e,he,hne⟩:=this;have hlt:e.on<i:=by
    obtain⟨k,hk,rfl⟩:=Array.getElem_of_mem he;have:=Array.all_eq_true.1 h1 k hk;simpa using this
   refine ih e.on hlt (by omega) ?_;exact getD_in (by omega) (by simpa using hne)
theorem sI {A B:Array Oper} {n:Nat} {o:Oper} {Q':Exit->Act->World->Prop} (hn:n+1=A.size) (hsz:B.size=A.size) (hrd:∀listed,Region.ready md B listed=Region.ready md A listed)
  (hhead:∀j,j<n->B[j]? =A[j]?) (hlast:A[n]? =some o) (hquiet:B[n]? =some (qC o)) (hdst:o.dst=none) (hguard:o.guard=none) (hy:∀tmps,yielded B tmps=yielded A tmps)
  (hs:Region.sinkB md A n=true) (hc:Region.chainB md A n=true) (hback:aIC A=true):
  ∀(fuel:Nat) (listed:Array Bool) (a:Act) (w:World),HeadInv md A n listed->(∃j,j ∈ Region.ready md A listed)->C w->
   wpAnyQ P md B C (fun a'=>∀w',C w'->sB P o Q' a' w') fuel listed a->wpAny P md A Q' fuel listed a w
 | 0,listed,a,w,_,hj,_,h=>by
  obtain⟨j,hj⟩:=hj;have h0:Region.ready md B listed=[]:=h.1;rw[hrd]at h0;rw[h0]at hj;cases hj
 |fuel+1,listed,a,w,inv,hj,hw,h=>by
  obtain⟨j,hj⟩:=hj;refine⟨fun h0=>(by rw[h0]at hj;cases hj),fun i hi=>?_⟩;have h2:=h.2 i (by rw[hrd];exact hi);have hiA:i<A.size:=by
   obtain⟨_,oi,hoi,_⟩:=mem_ready.1 hi;exact (Array.getElem?_eq_some_iff.1 hoi).1
  by_cases hin:i<n
  ·-- an operation dO of the last:the same in both
   have inv':=inv.set hi hin;have hB:B[i]? =A[i]? :=hhead i hin;have hq:qOp P A C i (wpAnyQ P md B C (fun a'=>∀w',C w'->sB P o Q' a' w') fuel (listed.setIfInBounds i true)) a:=by
    unfold qOp at h2 ⊢;rw[hB]at h2;cases hA:A[i]? with
    |none=>rw[hA]at h2;exact h2
    |some oi=>
     rw[hA]at h2;simp only at h2 ⊢;rw[hy]at h2;exact h2
   refine wpOp_of_qOp hw (fun a' w' hw' h3=>?_) hq
   -- the last is not yet carried out:something may come up
   have hlt:listed.getD n true=false:=inv.tail n lr_ (by omega);have hun:(listed.setIfInBounds i true).getD n true=false:=by rw[getD_set_ne true (by omega)];exact hlt
   have hsome:=xS (md:=md) hback inv'.size n (by omega) hun;exact sI hn hsz hrd hhead hlast hquiet hdst hguard hy hs hc hback fuel _ a' w' inv' hsome hw' h3
  ·obtain rfl:i=n:=by omega
   -- the last:all others are carried out
   have hall:∀k,k<i->listed.getD k true=true:=fun k hk=>by
    cases hl:listed.getD k true with
    |true=>rfl
    |false=>exact absurd hi (tail_waits hs hc (by omega) inv _ k rfl hk hl i lr_)
   have hend:Region.ready md A (listed.setIfInBounds i true)=[]:=by
    cases hr:Region.ready md A (listed.setIfInBounds i true)with
    |nil=>rfl
    |cons x xs=>
     have hx:x ∈ Region.ready md A (listed.setIfInBounds i true):=by rw[hr];simp
     obtain⟨hu,ox,hox,_⟩:=mem_ready.1 hx;have hxA:=(Array.getElem?_eq_some_iff.1 hox).1;have hxs:x<listed.size:=by rw[inv.size];exact hxA
     by_cases e:i=x
     ·subst e
      simp[hxs]at hu
     ·rw[getD_set_ne true e]at hu
      rw[hall x (by omega)]at hu;cases hu
   have hq:wpAnyQ P md B C (fun a'=>∀w',C w'->sB P o Q' a' w') fuel (listed.setIfInBounds i true) a:=by
    unfold qOp at h2;rw[hquiet]at h2;simp only at h2;have hp:∀v,a.put (qC o).dst v=a:=fun v=>by show a.put o.dst v=a;rw[hdst];rfl
    split at h2
    ·obtain⟨v,_,h3⟩:=h2
     rw[hp]at h3;exact h3
    ·rw[hp]at h2
     exact h2
   have hR:∀w',C w'->sB P o Q' a w':=by
    cases fuel with
    |zero=>exact hq.2
    |succ f=>exact hq.1 (by rw[hrd];exact hend)
   unfold wpOp;rw[hlast];simp only;have hwd:Region.wanted o (yielded A a.tmps)=true:=by simp[Region.wanted,hguard]
   rw[if_pos hwd];rcases hR w hw with h3|h3
   ·refine .inl (Oper.wp_mono (fun a' w' hq'=>?_) h3)
    cases fuel with
    |zero=>exact⟨hend,hq'⟩
    |succ f=>exact⟨fun _=>hq',fun k hk=>by rw[hend]at hk;cases hk⟩
   ·exact .inr h3
theorem jP {id:Nat} {Q:Exit->Act->World->Prop} {a:Act} {w:World} {l:List Oper} (n:Nat) (o:Oper) (hl:l.drop n=[o]) (hdst:o.dst=none) (hguard:o.guard=none)
  (hm:P.follows .mixedOrders=true) (hB:Region.lexB .any (l.take n++[qC o]).toArray=true) (hs:Region.sinkB .any l.toArray n=true) (hc:Region.chainB .any l.toArray n=true) (hback:aIC l.toArray=true)
  (hC:C { w with drawn:=w.drawn+1 }) (h:Boxed (wpQuiet P l.toArray C (fun a'=>∀w',C w'->wpList P l.toArray Q [o] a' w') (l.take n) a)):(Code.region id l.toArray true).wp P Q a w:=by
 replace h:=h.out;have hn:n<l.length:=by
  apply Classical.byContradiction;intro hno;rw[List.drop_of_length_le (by omega)]at hl;cases hl
 have hlen:n+1=l.length:=by
  have:=congrArg List.length hl;simp at this;omega
 have htake:(l.take n).length=n:=by simp;omega
 have hsplit:l=l.take n++[o]:=by rw[<-hl,List.take_append_drop]
 have gA:∀j:Nat,l.toArray[j]? =if j<n then (l.take n)[j]? else if j=n then some o else none:=fun j=>by
  rw[List.getElem?_toArray]
  conv=>lhs;rw[hsplit]
  rw[List.getElem?_append];simp only[htake]
  split
  ·rfl
  ·split
   ·rename_i h1 h2;subst h2;simp
   ·rename_i h1 h2;rw[List.getElem?_eq_none (by simp;omega)]
 have gB:∀j:Nat,(l.take n++[qC o]).toArray[j]? =if j<n then (l.take n)[j]? else if j=n then some (qC o)else none:=fun j=>by
  rw[List.getElem?_toArray,List.getElem?_append];simp only[htake]
  split
  ·rfl
  ·split
   ·rename_i h1 h2;subst h2;simp
   ·rename_i h1 h2;rw[List.getElem?_eq_none (by simp;omega)]
 have hsz:(l.take n++[qC o]).toArray.size=l.toArray.size:=by simp;omega
 have haft:∀j:Nat,((l.take n++[qC o]).toArray[j]?).map Oper.after=(l.toArray[j]?).map Oper.after:=fun j=>by
  rw[gA,gB];split
  ·rfl
  ·split<;>rfl
 have hdd:∀j:Nat,((l.take n++[qC o]).toArray[j]?).bind Oper.dst=(l.toArray[j]?).bind Oper.dst:=fun j=>by
  rw[gA,gB];split
  ·rfl
  ·split<;>rfl
 have hy:=aBK hdd;have hwd:∀t,Region.wanted o t=true:=fun t=>by simp[Region.wanted,hguard]
 have h1:wpQuiet P (l.take n++[qC o]).toArray C (fun a'=>∀w',C w'->sB P o Q a' w') (l.take n++[qC o]) a:=by
  refine oW (R:=fun a'=>∀w',C w'->sB P o Q a' w') (fun a' hR=>?_) _ _ (qR (fun t=>(hy t).symm) _ _ ?_)
  ·unfold wpQuiet
   have hw':Region.wanted (qC o) (yielded (l.take n++[qC o]).toArray a'.tmps)=true:=by simp[Region.wanted,qC,hguard]
   rw[if_pos hw'];refine⟨.bool false,fun w' _=>?_,?_⟩
   ·unfold Oper.quietAt
    show Oper.quietUpon P C w' (.bool false) ((execOp a'.eval (qC o)).run P w')
    simp[qC,execOp,Oper.quietUpon,Act.eval]
   ·unfold wpQuiet
    have:a'.put (qC o).dst (.bool false)=a':=by show a'.put o.dst _=a';rw[hdst];rfl
    rw[this];exact hR
  ·refine oT (fun a' h2 w' hw'=>?_) _ _ h
   have h3:=h2 w' hw';unfold wpList at h3;rw[if_pos (hwd _)]at h3;exact h3
 refine wp_region_any hm ?_;have hlex:=hB;simp only[Region.lexB,Bool.and_eq_true]at hlex;have h2:=wpAnyQ_lex (C:=C) (md:=.any) hlex.1 (l.take n++[qC o]) 0 (Array.replicate l.toArray.size false) a (by simp) (by rw[<-hsz];simpa using hlex.2) h1;have h3:(l.take n++[qC o]).length=l.toArray.size:=by simp;omega
 rw[h3]at h2;have inv0:HeadInv .any l.toArray n (Array.replicate l.toArray.size false):=
  ⟨by simp,fun j oj _ hl=>(by rw[getD_replicate_false]at hl;cases hl),fun t _ ht=>getD_in (by simpa using ht) (getD_replicate_false _ _)⟩
 have hrd:=fun listed=>aEx (md:=.any) hsz haft listed
 refine sI (n:=n) (o:=o) (by simpa using hlen) hsz hrd (fun j hj=>by rw[gA,gB,if_pos hj,if_pos hj]) (by rw[gA,if_neg (by omega),if_pos rfl]) (by rw[gB,if_neg (by omega),if_pos rfl]) hdst hguard hy hs hc hback _ _ _ _ inv0 ?_ hC h2;exact xS hback (by simp) n (by simpa using hn) (getD_in (by simpa using hn) (getD_replicate_false _ _))
end
end Go.Proofs.YtcblbdpdbggkbaaGreat
set_option linter.unusedVariables false
namespace Go.Proofs.YtcblbdpdbggkbaaGreat
open Go.RowKit
theorem cW.cases {w:World} {v:Value} {zs:List Int} (h:cW w v zs):
  (∃x c,v=.slice x zs.length c)/\(zs.length=0\/∃b o c,v=.slice (some ⟨b,o,none⟩) zs.length c/\∀i,i<zs.length->w.cell? ⟨b,o+i,none⟩=some (.int .i64 (zs.getD i 0))):=by
 rcases h with ⟨rfl,rfl⟩|⟨b,o,c,rfl,_,_,_,hc⟩
 ·exact⟨⟨_,_,rfl⟩,.inl rfl⟩
 ·exact⟨⟨_,_,rfl⟩,.inr ⟨b,o,c,rfl,hc⟩⟩
theorem Rws.cases {w:World} {v:Value} {rs:List (List Int)} (h:Rws w v rs):
  (∃x c,v=.slice x rs.length c)/\(rs.length=0\/∃b o c,v=.slice (some ⟨b,o,none⟩) rs.length c/\∀i,i<rs.length->∃x,w.cell? ⟨b,o+i,none⟩=some x/\cW w x (rs.getD i [])):=by
 rcases h with ⟨rfl,rfl⟩|⟨b,o,c,rfl,_,_,_,hc⟩
 ·exact⟨⟨_,_,rfl⟩,.inl rfl⟩
 ·exact⟨⟨_,_,rfl⟩,.inr ⟨b,o,c,rfl,hc⟩⟩
theorem wA {α:Type} [DecidableEq α] {a b:List α} (h:a.length≠b.length):decide (a=b)=false:=by
 simp only[decide_eq_false_iff_not];exact fun e=>h (by rw[e])
theorem vI {α:Type} [DecidableEq α] {a b:List α} {i:Nat} {d:α} (h:a.getD i d≠b.getD i d):decide (a=b)=false:=by
 simp only[decide_eq_false_iff_not];exact fun e=>h (by rw[e])
theorem fY {α:Type} [DecidableEq α] {a b:List α} {n:Nat} {d:α} (ha:a.length=n) (hb:b.length=n) (h:∀i,i<n->a.getD i d=b.getD i d):decide (a=b)=true:=by
 simp only[decide_eq_true_eq];apply List.ext_getElem (by omega);intro i h1 h2;have:=h i (by omega);simpa[h1,h2]using this
theorem cW.drewN {w:World} {v:Value} {zs:List Int} (h:cW w v zs) (n:Nat):cW (w.drewN n) v zs:=h
theorem aCp (x y:Option Addr) (n m c d:Nat) (w:World) (h:n≠m\/(n=0/\m=0)):
  Calls Tryz.prog 51 #[.slice x n c,.slice y m d] w fun e w'=>e=.returned (.bool (decide (n=m)))/\w=w':=by
 rcases h with h|⟨rfl,rfl⟩
 ·have hn:((n:Int) != (m:Int))=true:=by simp;omega
  go_enter Tryz.func51,Tryz.ntmps51;go_wp2;go_ret;exact⟨by simpa using h,rfl⟩
 ·go_enter Tryz.func51,Tryz.ntmps51
  go_wp2;refine wp_loop_rounds 1 ?_;rw[rounds_succ];go_wp2;go_ret;exact⟨by simp,rfl⟩
theorem aCT (b o c b' o' c' n:Nat) (za zb:List Int) (w:World) (hn:n<=maxLen) (ha:za.length=n) (hb:zb.length=n)
  (hca:∀i,i<n->w.cell? ⟨b,o+i,none⟩=some (.int .i64 (za.getD i 0))) (hcb:∀i,i<n->w.cell? ⟨b',o'+i,none⟩=some (.int .i64 (zb.getD i 0))):
  Calls Tryz.prog 51 #[.slice (some ⟨b,o,none⟩) n c,.slice (some ⟨b',o',none⟩) n c'] w fun e w'=>e=.returned (.bool (decide (za=zb)))/\∃m,w'=w.drewN m:=by
 unfold maxLen at hn;have Ha:=hd_ ha;have Hb:=hd_ hb;have Hca:=hd_ hca;have Hcb:=hd_ hcb;clear ha hb hca hcb;go_enter Tryz.func51,Tryz.ntmps51;go_wp2;go_loopw [5] (fun i wr=>∃k:Nat,k<=n/\i=.int .i64 k/\(∀j,j<k->za.getD j 0=zb.getD j 0)/\∃m,wr=w.drewN m) (fun i _=>n - (intOf i).toNat)
 case atStart=>exact⟨0,Nat.zero_le _,rfl,fun _ h=>absurd h (Nat.not_lt_zero _),0,rfl⟩
 case round=>
  obtain⟨k,hk,rfl,heq,m,rfl⟩:=hrel;have HE:=hd_ heq;clear heq
  by_cases hlt:k<n
  ·have h1:=Hca.out k hlt
   have h2:=Hcb.out k hlt;obtain⟨x,hx⟩:∃x,za.getD k 0=x:=⟨_,rfl⟩
   obtain⟨y,hy⟩:∃y,zb.getD k 0=y:=⟨_,rfl⟩
   rw[hx]at h1;rw[hy]at h2;have HX:=hd_ hx;have HY:=hd_ hy;clear hx hy;have k0:(0:Int)<=(k:Int):=by omega
   have k1:(k:Int)<(n:Int):=by omega
   by_cases he:x=y
   ·subst he
    go_wp2
    go_quiet (fail)
    go_wp2;go_roundw
    case rel=>exact⟨k+1,by omega,by go_num,fun j hj=>by
          by_cases h:j<k
          · exact HE.out j h
          · obtain rfl:j=k:=by omega
            rw[HX.out,HY.out],_,rfl⟩
    case measure=>simp[intOf];omega
   ·have he':(x != y)=true:=by simpa using he
    go_wp2
    go_quiet (fail)
    go_wp2;go_ret;exact⟨aL (vI (i:=k) (d:=0) (by rw[HX.out,HY.out];exact he)).symm,_,World.drewN_drewN _ _ _⟩
  ·have fin:Hid (decide (za=zb)=true):=fY (d:=0) Ha.out Hb.out (fun i hi=>HE.out i (by omega))
   go_wp2;go_ret;exact⟨aL fin.out.symm,_,rfl⟩
theorem aBs (w:World) (u v:Value) (za zb:List Int) (ha:cW w u za) (hb:cW w v zb) (hl:za.length<=maxLen):
  Calls Tryz.prog 51 #[u,v] w fun e w'=>e=.returned (.bool (decide (za=zb)))/\∃m,w'=w.drewN m:=by
 obtain⟨⟨x,c,hx⟩,qa⟩:=ha.cases;obtain⟨⟨y,d,hy⟩,qb⟩:=hb.cases
 by_cases h:za.length≠zb.length\/(za.length=0/\zb.length=0)
 ·rw[hx,hy]
  refine (aCp x y _ _ c d w h).mono fun e w' ⟨he,hw⟩=>⟨?_,0,hw.symm⟩
  rw[he];refine aL ?_;rcases h with h|⟨h1,h2⟩
  ·rw[wA h];simpa using h
  ·rw[List.eq_nil_of_length_eq_zero h1,List.eq_nil_of_length_eq_zero h2];simp
 ·have e:za.length=zb.length:=by omega
  rcases qa with qa|⟨b,o,c,rfl,hca⟩
  ·omega
  rcases qb with qb|⟨b',o',c',rfl,hcb⟩
  ·omega
  rw[<-e]at hcb ⊢;exact aCT b o c b' o' c' _ za zb w hl rfl e.symm hca hcb
theorem aAr (x y:Option Addr) (n m c d:Nat) (w:World) (h:n≠m\/(n=0/\m=0)):
  Calls Tryz.prog 190 #[.slice x n c,.slice y m d] w fun e w'=>e=.returned (.bool (decide (n=m)))/\Below w.heap.size w w':=by
 rcases h with h|⟨rfl,rfl⟩
 ·have hn:((n:Int) != (m:Int))=true:=by simp;omega
  go_enter Tryz.func190,Tryz.ntmps190;go_wp2;go_ret;exact⟨by simpa using h,Below.refl _ _⟩
 ·go_enter Tryz.func190,Tryz.ntmps190
  go_wp2;refine wp_loop_rounds 1 ?_;rw[rounds_succ];go_wp2;go_ret;exact⟨by simp,Below.refl _ _⟩
theorem aBW (b o c b' o' c' n:Nat) (ra rb:List (List Int)) (w:World) (hn:n<=maxLen) (ha:ra.length=n) (hb:rb.length=n) (hla:∀i,i<n->(ra.getD i []).length<=maxLen) (hlb:b<w.heap.size) (hlb':b'<w.heap.size)
  (hca:∀i,i<n->∃x,w.cell? ⟨b,o+i,none⟩=some x/\cW w x (ra.getD i [])) (hcb:∀i,i<n->∃x,w.cell? ⟨b',o'+i,none⟩=some x/\cW w x (rb.getD i [])):
  Calls Tryz.prog 190 #[.slice (some ⟨b,o,none⟩) n c,.slice (some ⟨b',o',none⟩) n c'] w fun e w'=>e=.returned (.bool (decide (ra=rb)))/\Below w.heap.size w w':=by
 unfold maxLen at hn;have Ha:=hd_ ha;have Hb:=hd_ hb;have Hla:=hd_ hla;have Hca:=hd_ hca;have Hcb:=hd_ hcb;clear ha hb hca hcb hla;go_enter Tryz.func190,Tryz.ntmps190;go_wp2;go_loopw [5] (fun i wr=>∃k:Nat,k<=n/\i=.int .i64 k/\(∀j,j<k->ra.getD j []=rb.getD j [])/\Below w.heap.size w wr) (fun i _=>n - (intOf i).toNat)
 case atStart=>exact⟨0,Nat.zero_le _,rfl,fun _ h=>absurd h (Nat.not_lt_zero _),Below.refl _ _⟩
 case round=>
  obtain⟨k,hk,rfl,heq,hbl⟩:=hrel;have HE:=hd_ heq;have HB:=hd_ hbl;clear heq hbl
  by_cases hlt:k<n
  ·obtain⟨x,h1,i1⟩:=Hca.out k hlt
   obtain⟨y,h2,i2⟩:=Hcb.out k hlt;rw[<-HB.out.cell (p:=⟨b,o+k,none⟩) hlb]at h1;rw[<-HB.out.cell (p:=⟨b',o'+k,none⟩) hlb']at h2;have I1:=hd_ (i1.below HB.out lr_);have I2:=hd_ (i2.below HB.out lr_);clear i1 i2;have k0:(0:Int)<=(k:Int):=by omega
   have k1:(k:Int)<(n:Int):=by omega
   have KC:Hid (∀q,Calls Tryz.prog 51 #[x,y] (wr.drewN q) fun e w''=>e=.returned (.bool (decide (ra.getD k []=rb.getD k [])))/\∃m,w''=(wr.drewN q).drewN m):=fun q=>
    aBs (wr.drewN q) x y _ _ (I1.out.drewN q) (I2.out.drewN q) (Hla.out k hlt)
   obtain⟨⟨xa,xc,hx⟩,_⟩:=I1.out.cases;obtain⟨⟨ya,yc,hy⟩,_⟩:=I2.out.cases;obtain⟨ln,hln⟩:∃ln,ln=(ra.getD k []).length:=⟨_,rfl⟩
   obtain⟨lm,hlm⟩:∃lm,lm=(rb.getD k []).length:=⟨_,rfl⟩
   rw[<-hln]at hx;rw[<-hlm]at hy;subst hx hy;clear hln hlm I1 I2
   by_cases he:ra.getD k []=rb.getD k []
   ·rw[show decide (ra.getD k []=rb.getD k [])=true from by simpa using he]at KC
    have HEQ:=hd_ he;clear he;go_wp2
    go_quiet ((with_reducible refine Calls.quiet_of (KC.out _)))
    go_wp2;go_roundw
    case rel=>exact⟨k+1,by omega,by go_num,fun j hj=>by
          by_cases h:j<k
          · exact HE.out j h
          · obtain rfl:j=k:=by omega
            exact HEQ.out,below_drewN HB.out _⟩
    case measure=>simp[intOf];omega
   ·rw[show decide (ra.getD k []=rb.getD k [])=false from by simpa using he]at KC
    have HNE:=hd_ he;clear he;go_wp2
    go_quiet ((with_reducible refine Calls.quiet_of (KC.out _)))
    go_wp2;go_ret;exact⟨aL (vI (i:=k) (d:=[]) HNE.out).symm,below_drewN HB.out _⟩
  ·have fin:Hid (decide (ra=rb)=true):=fY (d:=[]) Ha.out Hb.out (fun i hi=>HE.out i (by omega))
   go_wp2;go_ret;exact⟨aL fin.out.symm,HB.out⟩
theorem yG (w:World) (u v:Value) (ra rb:List (List Int)) (ha:Rws w u ra) (hb:Rws w v rb) (hl:ra.length<=maxLen) (hla:∀i,i<ra.length->(ra.getD i []).length<=maxLen):
  Calls Tryz.prog 190 #[u,v] w fun e w'=>e=.returned (.bool (decide (ra=rb)))/\Below w.heap.size w w':=by
 obtain⟨⟨x,c,hx⟩,qa⟩:=ha.cases;obtain⟨⟨y,d,hy⟩,qb⟩:=hb.cases
 by_cases h:ra.length≠rb.length\/(ra.length=0/\rb.length=0)
 ·rw[hx,hy]
  refine (aAr x y _ _ c d w h).mono fun e w' ⟨he,hw⟩=>⟨?_,hw⟩
  rw[he];refine aL ?_;rcases h with h|⟨h1,h2⟩
  ·rw[wA h];simpa using h
  ·rw[List.eq_nil_of_length_eq_zero h1,List.eq_nil_of_length_eq_zero h2];simp
 ·have e:ra.length=rb.length:=by omega
  rcases ha with ⟨rfl,rfl⟩|⟨b,o,c,rfl,_,_,hlb,hca⟩
  ·exact absurd (Or.inr ⟨rfl,e.symm⟩) h
  rcases hb with ⟨rfl,rfl⟩|⟨b',o',c',rfl,_,_,hlb',hcb⟩
  ·exact absurd (Or.inr ⟨e,rfl⟩) h
  rw[<-e]at hcb ⊢;exact aBW b o c b' o' c' _ ra rb w hl rfl e.symm hla hlb hlb' hca hcb
theorem aEA (w:World) (u v:Value) (ra rb:List (List Int)) (ha:Rws w u ra) (hb:Rws w v rb) (hl:ra.length<=maxLen) (hla:∀i,i<ra.length->(ra.getD i []).length<=maxLen):
  Calls Tryz.prog 135 #[.agg #[u],.agg #[v]] w fun e w'=>e=.returned (.bool (decide (ra=rb)))/\Below w.heap.size w w':=by
 obtain⟨⟨x,c,hx⟩,_⟩:=ha.cases;obtain⟨⟨y,d,hy⟩,_⟩:=hb.cases;obtain⟨n,hn⟩:∃n,n=ra.length:=⟨_,rfl⟩
 obtain⟨m,hm⟩:∃m,m=rb.length:=⟨_,rfl⟩
 rw[<-hn]at hx;rw[<-hm]at hy;subst hx hy;have K:Hid (∀W,Below w.heap.size w W->Calls Tryz.prog 190 #[.slice x n c,.slice y m d] W fun e w'=>e=.returned (.bool (decide (ra=rb)))/\Below W.heap.size W w'):=fun W hW=>
  yG W _ _ ra rb (ha.below hW lr_) (hb.below hW lr_) hl hla
 clear ha hb hn hm hl hla
 by_cases h:ra=rb
 ·rw[show decide (ra=rb)=true from by simpa using h]at K ⊢
  clear h;go_enter Tryz.func135,Tryz.ntmps135
  go_wp2_with (go_at_call 190;refine (K.out _ (((Below.refl _ _).alloc lr_ _).alloc (by simp) _)).mono ?_;rintro e w1 ⟨rfl,hb1⟩)
  go_ret;exact⟨rfl,(((Below.refl _ _).alloc lr_ _).alloc (by simp) _).trans (hb1.mono (by simp;omega))⟩
 ·rw[show decide (ra=rb)=false from by simpa using h]at K ⊢
  clear h;go_enter Tryz.func135,Tryz.ntmps135
  go_wp2_with (go_at_call 190;refine (K.out _ (((Below.refl _ _).alloc lr_ _).alloc (by simp) _)).mono ?_;rintro e w1 ⟨rfl,hb1⟩)
  go_ret;exact⟨rfl,(((Below.refl _ _).alloc lr_ _).alloc (by simp) _).trans (hb1.mono (by simp;omega))⟩
def aIe (zs:List Int):Bool:=zs.length==8&&zs.all fun z=>decide (0<=z)&&decide (z<=2000)
def okB (rs:List (List Int)):Bool:=rs.length==3&&rs.all fun zs=>aIe zs&&zs.sum==(rs.getD 0 []).sum&&decide (zs.sum<=2000)
def aBT (rs:List (List Int)) (i:Nat):Prop:=(rs.getD i []).length=8/\(∀k,k<8->0<=(rs.getD i []).getD k 0/\(rs.getD i []).getD k 0<=2000)/\(rs.getD i []).sum=(rs.getD 0 []).sum/\(rs.getD i []).sum<=2000
theorem fB (rs:List (List Int)):okB rs=true↔rs.length=3/\∀i,i<3->aBT rs i:=by
 unfold okB aBT aIe;simp only[Bool.and_eq_true,beq_iff_eq,List.all_eq_true,decide_eq_true_eq]
 constructor
 ·rintro⟨h3,h⟩
  refine⟨h3,fun i hi=>?_⟩;have hm:rs.getD i [] ∈ rs:=kO _ _ _ (by omega);obtain⟨⟨⟨h8,ha⟩,hs⟩,hl⟩:=h _ hm;refine⟨h8,fun k hk=>?_,hs,hl⟩;exact ha _ (kO _ _ _ (by omega))
 ·rintro⟨h3,h⟩
  refine⟨h3,fun zs hz=>?_⟩;obtain⟨i,hi,rfl⟩:=List.getElem_of_mem hz;have h':=h i (by omega);simp only[List.getD_eq_getElem?_getD,List.getElem?_eq_getElem hi,Option.getD_some]at h' ⊢;refine⟨⟨⟨h'.1,fun z hz=>?_⟩,h'.2.2.1⟩,h'.2.2.2⟩;obtain⟨k,hk,rfl⟩:=List.getElem_of_mem hz;have h2:=h'.2.1 k (by omega);simpa[hk]using h2
theorem vU {rs:List (List Int)} (h:rs.length≠3\/∃i,i<3/\¬aBT rs i):okB rs=false:=by
 cases hb:okB rs with
 |false=>rfl
 |true=>
  obtain⟨h3,hg⟩:=(fB rs).1 hb;rcases h with h|⟨i,hi,hn⟩
  ·exact absurd h3 h
  ·exact absurd (hg i hi) hn
theorem aDU (u:Value) (b o cap:Nat) (n:Nat) (w:World) (h:n≠3) (hu:u=.slice none 0 0/\n=0\/u=.slice (some ⟨b,o,none⟩) n cap):
  Calls Tryz.prog 219 #[.agg #[u]] w fun e w'=>e=.returned (.bool false)/\Below w.heap.size w w':=by
 rcases hu with ⟨rfl,rfl⟩|rfl
 ·go_enter Tryz.func219,Tryz.ntmps219
  go_wp2;go_ret;exact⟨rfl,(Below.refl _ _).alloc lr_ _⟩
 ·have hn:((n:Int)==3)=false:=by simp;omega
  go_enter Tryz.func219,Tryz.ntmps219;go_wp2;go_ret;exact⟨rfl,(Below.refl _ _).alloc lr_ _⟩
theorem aED (b o cap:Nat) (rs:List (List Int)) (w:World) (h3:rs.length=3) (hb:b<w.heap.size)
  (hc:∀i,i<3->∃x,w.cell? ⟨b,o+i,none⟩=some x/\cW w x (rs.getD i [])):
  Calls Tryz.prog 219 #[.agg #[.slice (some ⟨b,o,none⟩) 3 cap]] w fun e w'=>e=.returned (.bool (okB rs))/\Below w.heap.size w w':=by
 have hok:=hd_ (fB rs);have hno:=hd_ (@vU rs);have Hc:=hd_ hc;have H3:=hd_ h3;clear hc h3;go_enter Tryz.func219,Tryz.ntmps219;go_wp2;go_loopw [3] (fun i wr=>∃k:Nat,k<=3/\i=.int .i64 k/\(∀j,j<k->aBT rs j)/\Below w.heap.size w wr/\wr.cell? ⟨w.heap.size,0,none⟩=some (.slice (some ⟨b,o,none⟩) 3 cap)) (fun i _=>3 - (intOf i).toNat)
 case atStart=>exact⟨0,Nat.zero_le _,rfl,fun _ h=>by omega,(Below.refl _ _).alloc lr_ _,by simp⟩
 case round=>
  obtain⟨k,hk,rfl,hgood,hbl,hbox⟩:=hrel;have Hbl:=hd_ hbl;clear hbl
  by_cases hlt:k<3
  ·have hltB:decide ((k:Int)<3)=true:=by simp;omega
   obtain⟨x,hx,hi⟩:=Hc.out k hlt;rw[<-Hbl.out.cell (p:=⟨b,o+k,none⟩) hb]at hx;obtain⟨zs,hzs⟩:∃zs,zs=rs.getD k []:=⟨_,rfl⟩
   rw[<-hzs]at hi;have Hzs:=hd_ hzs;have Hgood:=hd_ hgood;clear hzs hgood;have bad:Hid (¬aBT rs k->okB rs=false):=fun h=>hno.out (.inr ⟨k,hlt,h⟩)
   rcases hi with ⟨rfl,hz0⟩|⟨b1,o1,c1,rfl,hl1,hm1,hb1,hc1⟩
   ·have hz0':=hd_ hz0
    clear hz0;go_wp2;go_ret;exact⟨aL (bad.out (fun h=>by have:=h.1;rw[<-Hzs.out,hz0'.out]at this;simp at this)).symm,Hbl.out⟩
   by_cases h8:zs.length=8
   ·rw[h8]at hx hc1
    replace hc1:∀(i:Nat),i<8->wr.cell? ⟨b1,o1+i,none⟩=some (.int .i64 (zs.getD i 0)):=fun i hi=>by rw[Hbl.out.cell (p:=⟨b1,o1+i,none⟩) hb1];exact hc1 i hi
    have H8:=hd_ h8;have Hc1:=hd_ hc1;clear h8 hc1 hl1 hm1;go_wp2
    go_loop [4] (fun j=>∃m:Nat,m<=8/\j=.int .i64 m/\∀i,i<m->0<=zs.getD i 0/\zs.getD i 0<=2000) (fun j=>8 - (intOf j).toNat)
    case atStart=>exact⟨0,Nat.zero_le _,rfl,fun _ h=>by omega⟩
    case round=>
     obtain⟨m,hm,rfl,hin⟩:=hrel;have Hin:=hd_ hin;clear hin
     by_cases hmt:m<8
     ·have hcm:=Hc1.out m hmt
      obtain⟨y,hy⟩:∃y,y=zs.getD m 0:=⟨_,rfl⟩
      rw[<-hy]at hcm;have Hy:=hd_ hy;clear hy
      by_cases hr:0<=y/\y<=2000
      ·obtain⟨r0,r1⟩:=hr
       go_wp2_with (go_at_call 66;refine (aN _ _ _ _ r0 r1).mono ?_;rintro e w' ⟨rfl,rfl⟩)
       go_round
       case rel=>exact⟨m+1,by omega,by go_num,fun i hi=>by
                by_cases h:i<m
                · exact Hin.out i h
                · obtain rfl:i=m:=by omega
                  rw[<-Hy.out];exact⟨r0,r1⟩⟩
       case measure=>simp[intOf];omega
      ·have hr':y<0\/2000<y:=by omega
       clear hr
       go_wp2_with (go_at_call 66;refine (fL _ _ _ _ hr').mono ?_;rintro e w' ⟨rfl,rfl⟩)
       go_ret;exact⟨aL (bad.out (fun h=>by have h':=h.2.1 m hmt;rw[<-Hzs.out, <-Hy.out]at h';omega)).symm,Hbl.out⟩
     ·have hin8:Hid (∀i,i<8->0<=zs.getD i 0/\zs.getD i 0<=2000):=fun i hi=>Hin.out i (by omega)
      go_wp2;obtain⟨b0,o0,c0,zs0,hx0,Hzs0,H80,Hin0,Hc0⟩:∃b0 o0 c0 zs0,wr.cell? ⟨b,o,none⟩=some (.slice (some ⟨b0,o0,none⟩) 8 c0)/\Hid (zs0=rs.getD 0 [])/\Hid (zs0.length=8)/\Hid (∀i,i<8->0<=zs0.getD i 0/\zs0.getD i 0<=2000)/\
        Hid (∀(i:Nat),i<8->wr.cell? ⟨b0,o0+i,none⟩=some (.int .i64 (zs0.getD i 0))):=by
       rcases Nat.eq_zero_or_pos k with h0|h0
       ·subst h0
        exact⟨b1,o1,c1,zs,hx,Hzs.out,H8.out,hin8.out,Hc1.out⟩
       ·obtain⟨x0,hx0,hi0⟩:=Hc.out 0 (by omega)
        rw[<-Hbl.out.cell (p:=⟨b,o+0,none⟩) hb]at hx0;have g0:=Hgood.out 0 h0;rcases hi0 with ⟨_,hz⟩|⟨b0,o0,c0,rfl,_,_,hb0,hc0⟩
        ·have:=g0.1;rw[hz]at this;simp at this
        ·rw[g0.1]at hx0 hc0
         exact⟨b0,o0,c0,_,hx0,rfl,g0.1,g0.2.1,fun i hi=>by rw[Hbl.out.cell (p:=⟨b0,o0+i,none⟩) hb0];exact hc0 i hi⟩
      obtain⟨S,hS⟩:∃S,zs.sum=S:=⟨_,rfl⟩
      obtain⟨S0,hS0⟩:∃S,zs0.sum=S:=⟨_,rfl⟩
      have HS:=hd_ hS;have HS0:=hd_ hS0;have HSS:Hid (aBT rs k->S=S0/\S<=2000):=fun h=>by have:=h.2.2;rw[<-Hzs0.out, <-Hzs.out,hS,hS0]at this;exact this
      have HSG:Hid (S=S0->S<=2000->aBT rs k):=fun h1 h2=>by
       unfold aBT;rw[<-Hzs0.out, <-Hzs.out,hS,hS0];exact⟨H8.out,hin8.out,h1,h2⟩
      clear hS hS0;have k1:∀W:World,(∀i,i<8->W.cell? ⟨b1,o1+i,none⟩=some (.int .i64 (zs.getD i 0)))->Calls Tryz.prog 224 #[.slice (some ⟨b1,o1,none⟩) 8 c1] W fun e w'=>e=.returned (.int .i64 S)/\W=w':=fun W h=>by
       rw[<-HS.out];exact rA b1 o1 c1 8 zs W H8.out (by omega) hin8.out h
      have k0:∀W:World,(∀i,i<8->W.cell? ⟨b0,o0+i,none⟩=some (.int .i64 (zs0.getD i 0)))->Calls Tryz.prog 224 #[.slice (some ⟨b0,o0,none⟩) 8 c0] W fun e w'=>e=.returned (.int .i64 S0)/\W=w':=fun W h=>by
       rw[<-HS0.out];exact rA b0 o0 c0 8 zs0 W H80.out (by omega) Hin0.out h
      have K1:=hd_ k1;have K0:=hd_ k0;clear k0 k1;have ki0:(0:Int)<=(k:Int):=by omega
      have ki3:(k:Int)<3:=by omega
      by_cases he:S=S0
      ·subst he
       by_cases h2:S<=2000
       ·have h2':¬ 2000<S:=by omega
        go_quiet (first
                  |((with_reducible refine aH (K1.out _ ?_));exact Hc1.out)
                  |((with_reducible refine aH (K0.out _ ?_));exact Hc0.out))
        go_wp2;go_roundw
        case rel=>exact⟨k+1,by omega,by go_num,fun j hj=>by
                  by_cases h:j<k
                  · exact Hgood.out j h
                  · obtain rfl:j=k:=by omega
                    exact HSG.out rfl h2,below_drewN Hbl.out _,by simpa using hbox⟩
        case measure=>simp[intOf];omega
       ·have h2':2000<S:=by omega
        go_quiet (first
                  |((with_reducible refine aH (K1.out _ ?_));exact Hc1.out)
                  |((with_reducible refine aH (K0.out _ ?_));exact Hc0.out))
        go_wp2;go_ret;exact⟨aL (bad.out (fun h=>by have:=(HSS.out h).2;omega)).symm,below_drewN Hbl.out _⟩
      ·have he':(S != S0)=true:=by simpa using he
       have he2:decide (S=S0)=false:=by simpa using he
       go_quiet (first
                |((with_reducible refine aH (K1.out _ ?_));exact Hc1.out)
                |((with_reducible refine aH (K0.out _ ?_));exact Hc0.out))
       go_wp2;go_ret;exact⟨aL (bad.out (fun h=>he (HSS.out h).1)).symm,below_drewN Hbl.out _⟩
   ·have hn8:((zs.length:Int)==8)=false:=by simp;omega
    clear hc1 hl1 hm1;go_wp2;go_ret;exact⟨aL (bad.out (fun h=>by have:=h.1;rw[<-Hzs.out]at this;exact h8 this)).symm,Hbl.out⟩
  ·go_wp2
   go_ret;exact⟨aL ((hok.out).2 ⟨H3.out,fun i hi=>hgood i (by omega)⟩).symm,Hbl.out⟩
theorem tM (u:Value) (rs:List (List Int)) (w:World) (h:Rws w u rs):
  Calls Tryz.prog 219 #[.agg #[u]] w fun e w'=>e=.returned (.bool (okB rs))/\Below w.heap.size w w':=by
 rcases h with ⟨rfl,rfl⟩|⟨b,o,cap,rfl,_,_,hb,hc⟩
 ·exact aDU _ 0 0 0 0 w (by omega) (.inl ⟨rfl,rfl⟩)
 ·by_cases h3:rs.length=3
  ·rw[h3]at hc ⊢
   exact aED b o cap rs w h3 hb hc
  ·refine (aDU _ b o cap _ w h3 (.inr rfl)).mono fun e w' ⟨he,hb'⟩=>⟨?_,hb'⟩
   rw[vU (.inl h3)];exact he
def gD:List Int:=[0,0,0,0,0,0,0,0]
theorem aIV:(Tryz.prog.info? 3).map (fun i=>(i.zero,i.size,i.bytes))=some (some (.int .i64 0),1,8):=by kernel_rfl
theorem aA7:(Tryz.prog.info? 23).map (fun i=>(i.zero,i.size,i.bytes))=some (some (.slice none 0 0),1,24):=by kernel_rfl
theorem aId:∀w,(Instr.makeSlice 23 (.int .i64 8) (.int .i64 8)).run Tryz.prog w=.ok (.slice (some ⟨w.heap.size,0,none⟩) 8 8) (w.alloc (.cells (bM gD).toArray 3)):=fun _=>by kernel_rfl
theorem aLd:∀w,(Instr.makeSlice 34 (.int .i64 3) (.int .i64 3)).run Tryz.prog w=.ok (.slice (some ⟨w.heap.size,0,none⟩) 3 3) (w.alloc (.cells #[.slice none 0 0,.slice none 0 0,.slice none 0 0] 23)):=fun _=>by kernel_rfl
def jJ:List (List Int):=[gD,gD,gD]
theorem eY {w:World} {b:Nat} {u:Value} {t:TypeId} (h:w.heap[b]? =some (.cells #[u] t (0,0))):w.cell? ⟨b,0,none⟩=some u/\w.frozen? ⟨b,0,none⟩=false/\b<w.heap.size:=
 ⟨by simp[World.cell?,h],by simp[World.frozen?,h],(Array.getElem?_eq_some_iff.1 h).1⟩
theorem cY.nil (w:World) (B:Nat):cY w B (.slice none 0 0) [] (fun _=>0) (fun _=>0):=
 ⟨World.ownsRow_nil w B _ 1,fun i h=>absurd h (Nat.not_lt_zero i),fun i h=>absurd h (Nat.not_lt_zero i),fun i _ h=>absurd h (Nat.not_lt_zero i)⟩
theorem cY.hdr_lt {w:World} {B:Nat} {u:Value} {rs:List (List Int)} {G C:Nat->Nat} (h:cY w B u rs G C):∀k,u.ownBlock=some k->B<=k/\k<w.heap.size:=h.hdr.lt
theorem iU {w w':World} {row:Option Nat} {b:Nat} {o:Obj} (h:w.heap[b]? =some o) (hg:w.grownBy w' row) (hr:row≠some b):w'.heap[b]? =some o:=by
 rw[hg.block b (Array.getElem?_eq_some_iff.1 h).1 (fun e=>hr e.symm)];exact h
theorem rK (w:World) (B:Nat) (zs:List Int) (hB:B<=w.heap.size) (hl:zs.length<=maxLen):
  (w.alloc (.cells (bM zs).toArray 3)).ownsRow B 3 1 (.slice (some ⟨w.heap.size,0,none⟩) zs.length zs.length) zs.length (bM zs):=by
 have:=World.ownsRow_lit (base:=B) (e:=3) (size:=1) w (bM zs).toArray zs.length hB hl (by simp[bM]);simpa using this
theorem aL8 (w:World) (o o':Obj):((w.alloc o).alloc o').drew.heap[w.heap.size+1]? =some o':=by
 have:=heap_alloc_new (w.alloc o) o';rw[show (w.alloc o).heap.size=w.heap.size+1 by simp]at this;exact this
theorem aKi {w w1:World} {o o':Obj} {b:Nat} {u:Value} {row:Option Nat} (c:w.cell? ⟨b,0,none⟩=some u) (f:w.frozen? ⟨b,0,none⟩=false) (l:b<w.heap.size)
  (hg:((w.alloc o).alloc o').drew.grownBy w1 row) (hr:row≠some b):w1.cell? ⟨b,0,none⟩=some u/\w1.frozen? ⟨b,0,none⟩=false:=by
 have l1:b<(w.alloc o).heap.size:=by simp;omega
 have l2:b<((w.alloc o).alloc o').drew.heap.size:=by simp;omega
 rw[hg.cell_far ⟨b,0,none⟩ l2 (Ne.symm hr),hg.frozen_far ⟨b,0,none⟩ l2 (Ne.symm hr)];simp only[World.cell?_drew,World.frozen?_drew];rw[World.cell?_alloc_past _ _ _ l1,World.cell?_alloc_past _ _ _ l,World.frozen?_alloc_past _ _ _ l1,World.frozen?_alloc_past _ _ _ l];exact⟨c,f⟩
theorem aCG {w w':World} {row:Option Nat} (h:w.grownBy w' row):w.grownBy w'.drew row:=⟨h.os,h.tape,h.output,h.size,h.block⟩
theorem aA9 {w wr X w1:World} {S R B W g c gg cap:Nat} {o:Obj} {u:Value} {t:TypeId} {rs:List (List Int)} {G C:Nat->Nat} {zs:List Int}
  (HO:cY wr B u rs G C) (hX:wr.grownBy X none) (hz:X.ownsRow B 3 1 (.slice (some ⟨g,0,none⟩) zs.length c) zs.length (bM zs)) (hg:wr.heap.size<=g)
  (hown1:w1.ownsRow B 23 1 (.slice (some ⟨gg,0,none⟩) (rs.length+1) cap) (rs.length+1) ((List.range rs.length).map (mS rs G C)++[.slice (some ⟨g,0,none⟩) zs.length c]))
  (hgrow:X.grownBy w1 u.ownBlock) (hat:u.ownBlock=some gg\/gg=X.heap.size)
  (hR:wr.heap[R]? =some (.cells #[u] t (0,0))) (hS:wr.heap[S]? =some o) (hRB:R<B) (hSB:S<B) (hSR:S≠R) (hbl:Below W w wr) (hWR:W<=R) (hWw:W<=w.heap.size):
  ∃G' C',cY (w1.setCell ⟨R,0,none⟩ (.slice (some ⟨gg,0,none⟩) (rs.length+1) cap)) B (.slice (some ⟨gg,0,none⟩) (rs.length+1) cap) (rs++[zs]) G' C'/\
   (w1.setCell ⟨R,0,none⟩ (.slice (some ⟨gg,0,none⟩) (rs.length+1) cap)).heap[S]? =some o/\
   (w1.setCell ⟨R,0,none⟩ (.slice (some ⟨gg,0,none⟩) (rs.length+1) cap)).heap[R]? =some (.cells #[.slice (some ⟨gg,0,none⟩) (rs.length+1) cap] t (0,0))/\
   Below W w (w1.setCell ⟨R,0,none⟩ (.slice (some ⟨gg,0,none⟩) (rs.length+1) cap)):=by
 have lt:∀k,u.ownBlock=some k->B<=k/\k<wr.heap.size:=HO.hdr_lt
 have HX:=HO.grown hX (fun _ e=>by cases e);have h1:=HX.snoc hz (fun e=>by have:=(lt g e).2;omega) (fun i hi e=>by have:=((HO.row i hi).lt (G i) rfl).2;omega) hown1 hgrow hat;have hRX:=iU hR hX (by simp);have hSX:=iU hS hX (by simp);have hR1:=iU hRX hgrow (fun e=>by have:=(lt R e).1;omega);have hS1:=iU hSX hgrow (fun e=>by have:=(lt S e).1;omega)
 refine⟨_,_,h1.grown (aA w1 ⟨R,0,none⟩ _) (fun k e=>by simp at e;omega),?_,?_,?_⟩
 ·rw[heap_setCell_other w1 ⟨R,0,none⟩ S _ hSR];exact hS1
 ·exact one_setCell hR1
 ·have hXb:Below W w X:=hbl.trans ⟨hX.os,hX.tape,hX.output,hX.size,fun k hk=>hX.block k (Nat.lt_of_lt_of_le hk (Nat.le_trans hWw hbl.size)) (by simp)⟩
  have h1b:Below W w w1:=hXb.grown hgrow (Nat.le_trans hWw hXb.size) (fun k e=>by have:=(lt k e).1;omega);exact h1b.setCell (by simpa using hWR) _
theorem aIt (w:World):
  Calls Tryz.prog 168 #[] w fun e w'=>∃u G C,e=.returned (.agg #[u])/\cY w' w.heap.size u jJ G C/\Below w.heap.size w w':=by
 have m8:=aId;obtain⟨i0,hi,hz0,hz1,hz2⟩:=info_parts aA7;go_enter Tryz.func168,Tryz.ntmps168;go_wp2;go_loopw [2] (fun i wr=>∃(k:Nat) (rs:List (List Int)) (u:Value) (G C:Nat->Nat),k<=3/\i=.int .i64 k/\rs=List.replicate k gD/\cY wr (w.heap.size+2) u rs G C/\
      wr.heap[w.heap.size]? =some (.cells #[.slice none 0 0] 36 (0,0))/\wr.heap[w.heap.size+1]? =some (.cells #[u] 36 (0,0))/\Below w.heap.size w wr) (fun i _=>3 - (intOf i).toNat)
 case atStart=>
  refine⟨0,_,_,_,_,Nat.zero_le _,rfl,rfl,cY.nil _ _,?_,?_,((Below.refl _ _).alloc lr_ _).alloc (by simp) _⟩
  ·exact (heap_alloc_old _ _ (by simp)).trans (heap_alloc_new _ _)
  ·have:=heap_alloc_new (w.alloc (Obj.cells #[Value.slice none 0 0] 36)) (Obj.cells #[Value.slice none 0 0] 36)
   simpa using this
 case round=>
  obtain⟨k,rs,u,G,C,hk,rfl,hrs,hown,hS,hR,hbl⟩:=hrel;have HRS:=hd_ hrs;have hn:rs.length<=3:=by rw[hrs];simpa using hk
  clear hrs;obtain⟨c1,f1,l1⟩:=eY hR;have hb0:w.heap.size+2<=wr.heap.size:=by omega
  have l2:w.heap.size+1<wr.heap.size+1:=by omega
  have hub:u.ownBlock≠some (w.heap.size+1):=fun e=>by have:=(hown.hdr_lt _ e).1;omega
  have HO:=hd_ hown;have HS:=hd_ hS;have HR:=hd_ hR;have HB:=hd_ hbl;clear hown hS hR hbl
  by_cases hlt:k<3
  ·go_wp2_with fail
   go_region_law
    ((refine step_append_lies _ (by rfl) _ _ _ (by rfl) (w.heap.size+2) 23 i0 _ 1 24 Tryz.underlying34 hi hz0 hz1 hz2 rfl (by omega) u rs.length _ (by rfl) (((HO.out.hdr.alloc _).alloc _).drew)
            ⟨wr.heap.size+1,0,none⟩ 1 1 [.slice (some ⟨wr.heap.size,0,none⟩) 8 8] (by rfl) (by rfl) (World.news_of_block (cs:=#[.slice (some ⟨wr.heap.size,0,none⟩) 8 8]) (t:=23) (fr:=(0,0)) (aL8 _ _ _)) (by simp[Value.oneCell'])
            (by omega) (by unfold maxLen;omega) (by omega) (by simp;omega) (wr.heap.size+2) (by simp) ?_;intro gg cap w1 hown1 hgrow hat hlt1;have d1:=aKi c1 f1 l1 hgrow hub;obtain⟨d2,d3⟩:=d1))
   all_goals
    have hX:wr.grownBy ((wr.alloc (.cells (bM gD).toArray 3)).alloc (.cells #[.slice (some ⟨wr.heap.size,0,none⟩) 8 8] 23)).drew none:=
     aCG (aQ (World.grownBy_alloc wr _ none) (World.grownBy_alloc _ _ none))
    have hz:=(((rK wr (w.heap.size+2) gD hb0 (by simp[gD,maxLen])).alloc (.cells #[.slice (some ⟨wr.heap.size,0,none⟩) 8 8] 23)).drew)
    have fin:=aA9 HO.out hX hz lr_ hown1 hgrow (by simpa using hat) HR.out HS.out (by omega) (by omega) (by omega) HB.out (by omega) lr_;have FIN:=hd_ fin;clear fin hX hz hown1 hgrow hat;go_wp2;go_roundw
    case rel=>
     obtain⟨G',C',q1,q2,q3,q4⟩:=FIN.out;exact⟨k+1,rs++[gD],_,G',C',by omega,by go_num,by rw[HRS.out,List.replicate_succ'],q1,q2,q3,q4⟩
    case measure=>simp[intOf];omega
  ·obtain⟨s1,s2,s3⟩:=eY HS.out
   have h3:rs.length=3:=by rw[HRS.out];simp;omega
   obtain⟨g,cap,hu,hg1,hg2⟩:=World.ownsRow.form HO.out.hdr (by omega);subst hu;have e3:rs=jJ:=by rw[HRS.out,show k=3 by omega];rfl
   have hw:=HO.out.grown (aA wr ⟨w.heap.size,0,none⟩ (.slice (some ⟨g,0,none⟩) rs.length cap)) (fun k e=>by simp at e;omega);have hb:=HB.out.setCell (p:=⟨w.heap.size,0,none⟩) lr_ (.slice (some ⟨g,0,none⟩) rs.length cap);rw[e3]at hw hb;have H1:=hd_ hw;have H2:=hd_ hb;have E3:=hd_ e3;clear hw hb h3 e3;go_wp2;rw[E3.out]
   have hr:=World.cell?_setCell_same wr ⟨w.heap.size,0,none⟩ (.slice (some ⟨g,0,none⟩) jJ.length cap) s1;exact bodyPost_ret (v:=.agg #[.slice (some ⟨g,0,none⟩) jJ.length cap]) (by simp[results,Tryz.results168,go_sem,hr]) rfl ⟨_,G,C,rfl,H1.out.base (by omega),H2.out⟩
theorem aG0 (w:World) (o:Obj) (r0 r1 r2:List Int) (n:Nat) (hn:w.heap.size=n) (h0:r0.length=8) (h1:r1.length=8) (h2:r2.length=8):
  cY (((((w.alloc o).alloc (.cells #[.slice (some ⟨n+1+1,0,none⟩) 8 8,.slice (some ⟨n+1+1+1,0,none⟩) 8 8,.slice (some ⟨n+1+1+1+1,0,none⟩) 8 8] 23)).alloc
      (.cells (bM r0).toArray 3)).alloc (.cells (bM r1).toArray 3)).alloc (.cells (bM r2).toArray 3)) n (.slice (some ⟨n+1,0,none⟩) 3 3) [r0,r1,r2] (fun i=>n+2+i) (fun _=>8):=by
 subst hn;have eV:∀i,mS [r0,r1,r2] (fun i=>w.heap.size+2+i) (fun _=>8) i=.slice (some ⟨w.heap.size+2+i,0,none⟩) ([r0,r1,r2].getD i []).length 8:=fun i=>rfl
 have hh:=World.ownsRow_lit (base:=w.heap.size) (e:=23) (size:=1) (w.alloc o) #[.slice (some ⟨w.heap.size+1+1,0,none⟩) 8 8,.slice (some ⟨w.heap.size+1+1+1,0,none⟩) 8 8,.slice (some ⟨w.heap.size+1+1+1+1,0,none⟩) 8 8] 3 (by simp) (by simp[maxLen]) (by simp)
 have z0:=rK ((w.alloc o).alloc (.cells #[.slice (some ⟨w.heap.size+1+1,0,none⟩) 8 8,.slice (some ⟨w.heap.size+1+1+1,0,none⟩) 8 8,.slice (some ⟨w.heap.size+1+1+1+1,0,none⟩) 8 8] 23)) w.heap.size r0 (by simp;omega) (by simp[h0,maxLen])
 have z1:=rK (((w.alloc o).alloc (.cells #[.slice (some ⟨w.heap.size+1+1,0,none⟩) 8 8,.slice (some ⟨w.heap.size+1+1+1,0,none⟩) 8 8,.slice (some ⟨w.heap.size+1+1+1+1,0,none⟩) 8 8] 23)).alloc (.cells (bM r0).toArray 3)) w.heap.size r1 (by simp;omega) (by simp[h1,maxLen])
 have z2:=rK ((((w.alloc o).alloc (.cells #[.slice (some ⟨w.heap.size+1+1,0,none⟩) 8 8,.slice (some ⟨w.heap.size+1+1+1,0,none⟩) 8 8,.slice (some ⟨w.heap.size+1+1+1+1,0,none⟩) 8 8] 23)).alloc (.cells (bM r0).toArray 3)).alloc (.cells (bM r1).toArray 3)) w.heap.size r2 (by simp;omega) (by simp[h2,maxLen]);simp only[World.size_alloc,h0,h1,h2]at hh z0 z1 z2
 refine⟨?_,fun i hi=>?_,fun i hi=>?_,fun i j hi hj hij=>?_⟩
 ·have:=((hh.alloc (.cells (bM r0).toArray 3)).alloc (.cells (bM r1).toArray 3)).alloc (.cells (bM r2).toArray 3)
  simpa[List.range_succ,mS,h0,h1,h2]using this
 ·simp only[List.length_cons,List.length_nil]at hi
  rw[eV];rcases (by omega:i=0\/i=1\/i=2)with rfl|rfl|rfl
  ·simpa[h0]using (z0.alloc (.cells (bM r1).toArray 3)).alloc (.cells (bM r2).toArray 3)
  ·simpa[h1]using z1.alloc (.cells (bM r2).toArray 3)
  ·simpa[h2]using z2
 ·simp[Value.ownBlock];omega
 ·simp;omega
theorem zL (w:World):
  Calls Tryz.prog 152 #[] w fun e w'=>∃u G C,e=.returned (.agg #[u])/\cY w' w.heap.size u jJ G C/\Below w.heap.size w w':=by
 have m8:=aId;have m3:=aLd;go_enter Tryz.func152,Tryz.ntmps152;go_wp2;refine wp_loop_rounds 4 ?_;rw[rounds_succ];go_wp2;rw[rounds_succ];go_wp2;rw[rounds_succ];go_wp2;rw[rounds_succ];go_wp2;exact bodyPost_ret (v:=.agg #[.slice (some ⟨w.heap.size+1,0,none⟩) 3 3]) (by simp[results,Tryz.results152,go_sem]) rfl
  ⟨_,_,_,rfl,aG0 w _ gD gD gD _ rfl rfl rfl rfl,(((((Below.refl _ _).alloc lr_ _).alloc (by simp) _).alloc (by simp;omega) _).alloc (by simp;omega) _).alloc (by simp;omega) _⟩
def mX (zs:List Int):Prop:=zs.length=8/\(∀k,k<8->0<=zs.getD k 0)/\zs.sum<=2000
instance (zs:List Int):Decidable (mX zs):=by unfold mX;infer_instance
def fM (zs:List Int):Int:=if mX zs then zs.sum else -1
def cX (rs:List (List Int)):Int:=if okB rs=true then (rs.getD 0 []).sum else -1
theorem aEB {zs:List Int} (h:∀k,k<zs.length->0<=zs.getD k 0):∀z ∈ zs,0<=z:=fun z hz=>by
 obtain⟨k,hk,rfl⟩:=List.getElem_of_mem hz;have:=h k hk;simpa[hk]using this
theorem tA {zs:List Int} (h:∀z ∈ zs,0<=z):0<=zs.sum:=by
 induction zs with
 |nil=>simp
 |cons a l ih=>simp only[List.sum_cons];have:=h a (by simp);have:=ih (fun z hz=>h z (by simp[hz]));omega
theorem wI {zs:List Int} (h:∀z ∈ zs,0<=z) (k:Nat):(zs.take k).sum<=zs.sum:=by
 have e:zs.sum=(zs.take k).sum+(zs.drop k).sum:=by rw[<-List.sum_append,List.take_append_drop]
 have:=tA (fun z hz=>h z (List.mem_of_mem_drop hz):∀z ∈ zs.drop k,0<=z);omega
theorem mX.bd {zs:List Int} (h:mX zs):(∀z ∈ zs,0<=z)/\0<=zs.sum/\(∀k,k<8->0<=zs.getD k 0/\zs.getD k 0<=2000):=by
 have hm:=aEB (fun k hk=>h.2.1 k (by rw[<-h.1];exact hk):∀k,k<zs.length->0<=zs.getD k 0);refine⟨hm,tA hm,fun k hk=>⟨h.2.1 k hk,?_⟩⟩;have h1:=nO zs k (by rw[h.1];exact hk);have h2:=wI hm (k+1);have h3:=tA (fun z hz=>hm z (List.mem_of_mem_take hz):∀z ∈ zs.take k,0<=z);have:=h.2.2;omega
theorem fF {zs:List Int} (h:mX zs):fM zs=zs.sum:=if_pos h
theorem kW {zs:List Int} (h:¬mX zs):fM zs= -1:=if_neg h
theorem aFZ (rs:List (List Int)):cX rs=if rs.length=3/\fM (rs.getD 1 [])=fM (rs.getD 0 [])/\fM (rs.getD 2 [])=fM (rs.getD 0 [])then fM (rs.getD 0 [])else -1:=by
 unfold cX
 by_cases hok:okB rs=true
 ·rw[if_pos hok]
  obtain⟨h3,hg⟩:=(fB rs).1 hok;have fine:∀i,i<3->mX (rs.getD i []):=fun i hi=>⟨(hg i hi).1,fun k hk=>((hg i hi).2.1 k hk).1,(hg i hi).2.2.2⟩
  rw[if_pos ⟨h3,by rw[fF (fine 1 (by omega)),fF (fine 0 (by omega))];exact (hg 1 (by omega)).2.2.1,by rw[fF (fine 2 (by omega)),fF (fine 0 (by omega))];exact (hg 2 (by omega)).2.2.1⟩,
      fF (fine 0 (by omega))]
 ·rw[if_neg hok]
  split
  ·rename_i h
   obtain⟨h3,h1,h2⟩:=h
   by_cases f0:mX (rs.getD 0 [])
   ·exfalso
    apply hok;rw[fB];have pos:=f0.bd.2.1;have all:∀i,i<3->mX (rs.getD i [])/\(rs.getD i []).sum=(rs.getD 0 []).sum:=fun i hi=>by
     have e:fM (rs.getD i [])=fM (rs.getD 0 []):=by
      rcases (by omega:i=0\/i=1\/i=2)with rfl|rfl|rfl
      ·rfl
      ·exact h1
      ·exact h2
     rw[fF f0]at e
     by_cases fi:mX (rs.getD i [])
     ·rw[fF fi]at e;exact⟨fi,e⟩
     ·rw[kW fi]at e;omega
    exact⟨h3,fun i hi=>⟨(all i hi).1.1,(all i hi).1.bd.2.2,(all i hi).2,(all i hi).1.2.2⟩⟩
   ·rw[kW f0]
  ·rfl
theorem aFz (v:Value) (x:Option Addr) (n c:Nat) (w:World) (hv:v=.slice x n c) (h:n≠8):
  Calls Tryz.prog 157 #[v] w fun e w'=>e=.returned (.int .i64 (-1))/\w=w':=by
 subst hv;have hn:((n:Int)==8)=false:=by simp;omega
 go_enter Tryz.func157,Tryz.ntmps157;go_wp2;go_ret;exact⟨rfl,rfl⟩
theorem aB3 (b o c:Nat) (zs:List Int) (w:World) (hl:zs.length=8) (hc:∀i,i<8->w.cell? ⟨b,o+i,none⟩=some (.int .i64 (zs.getD i 0))):
  Calls Tryz.prog 157 #[.slice (some ⟨b,o,none⟩) 8 c] w fun e w'=>e=.returned (.int .i64 (fM zs))/\w=w':=by
 have HL:=hd_ hl;have HC:=hd_ hc;clear hl hc;go_enter Tryz.func157,Tryz.ntmps157;go_wp2
 go_loop [3,11] (fun q i=>∃(j:Nat) (S:Int),j<=8/\i=.int .i64 j/\q=.int .i64 S/\(zs.take j).sum=S/\0<=S/\S<=2000/\∀i,i<j->0<=zs.getD i 0) (fun _ i=>8 - (intOf i).toNat)
 case atStart=>exact⟨0,0,Nat.zero_le _,rfl,rfl,rfl,by omega,by omega,fun _ h=>absurd h (Nat.not_lt_zero _)⟩
 case round=>
  obtain⟨j,S,hj,rfl,rfl,hS,S0,S1,hpos⟩:=hrel;have HS:=hd_ hS;have HP:=hd_ hpos;clear hS hpos
  by_cases hlt:j<8
  ·have hcell:=HC.out j hlt
   obtain⟨y,hy⟩:∃y,zs.getD j 0=y:=⟨_,rfl⟩
   rw[hy]at hcell;have HY:=hd_ hy;have hs:=nO zs j (by rw[HL.out];exact hlt);rw[HS.out,hy]at hs;have HT:=hd_ hs;clear hy hs
   by_cases y0:y<0
   ·have bad:Hid (fM zs= -1):=kW (fun f=>by have:=f.2.1 j hlt;rw[HY.out]at this;omega)
    go_wp2;go_ret;exact⟨iE bad.out.symm,rfl⟩
   by_cases y1:2000 - S<y
   ·have bad:Hid (fM zs= -1):=kW (fun f=>by have:=wI f.bd.1 (j+1);rw[HT.out]at this;have:=f.2.2;omega)
    go_wp2;go_ret;exact⟨iE bad.out.symm,rfl⟩
   ·go_wp2
    go_round
    case rel=>exact⟨j+1,S+y,by omega,by go_num,rfl,HT.out,by omega,by omega,fun i hi=>by
          by_cases h:i<j
          · exact HP.out i h
          · obtain rfl:i=j:=by omega
            rw[HY.out];omega⟩
    case measure=>simp[intOf];omega
  ·obtain rfl:j=8:=by omega
   have good:Hid (fM zs=S):=by
    have e:zs.sum=S:=by rw[<-HS.out,List.take_of_length_le (by rw[HL.out];exact Nat.le_refl _)]
    rw[<-e];exact fF ⟨HL.out,HP.out,by rw[e];exact S1⟩
   go_wp2;go_ret;exact⟨iE good.out.symm,rfl⟩
theorem vN (w:World) (v:Value) (zs:List Int) (h:cW w v zs):
  Calls Tryz.prog 157 #[v] w fun e w'=>e=.returned (.int .i64 (fM zs))/\w=w':=by
 obtain⟨⟨x,c,hx⟩,q⟩:=h.cases
 by_cases h8:zs.length=8
 ·rcases q with q|⟨b,o,c,rfl,hc⟩
  ·omega
  rw[h8]at hc ⊢;exact aB3 b o c zs w h8 hc
 ·rw[kW (fun f=>h8 f.1)]
  exact aFz v x _ c w hx h8
theorem tZ (u:Value) (x:Option Addr) (n c:Nat) (w:World) (hu:u=.slice x n c) (h:n≠3):
  Calls Tryz.prog 84 #[.agg #[u]] w fun e w'=>e=.returned (.int .i64 (-1))/\Below w.heap.size w w':=by
 subst hu;have hn:((n:Int)==3)=false:=by simp;omega
 go_enter Tryz.func84,Tryz.ntmps84;go_wp2;go_ret;exact⟨rfl,(Below.refl _ _).alloc lr_ _⟩
theorem yM (b o cap:Nat) (rs:List (List Int)) (w:World) (h3:rs.length=3) (hcap:3<=cap) (hb:b<w.heap.size)
  (hc:∀i,i<3->∃x,w.cell? ⟨b,o+i,none⟩=some x/\cW w x (rs.getD i [])):
  Calls Tryz.prog 84 #[.agg #[.slice (some ⟨b,o,none⟩) 3 cap]] w fun e w'=>e=.returned (.int .i64 (cX rs))/\Below w.heap.size w w':=by
 have HV:=hd_ (aFZ rs);have H3:=hd_ h3;obtain⟨x0,h0,i0⟩:=hc 0 (by omega);obtain⟨x1,h1,i1⟩:=hc 1 (by omega);obtain⟨x2,h2,i2⟩:=hc 2 (by omega);have hA:=(Below.refl w.heap.size w).alloc lr_ (.cells #[.slice (some ⟨b,o,none⟩) 3 cap] 36);have J0:=hd_ (vN _ x0 _ (i0.below hA lr_));have J1:=hd_ (vN _ x1 _ (i1.below hA lr_));have J2:=hd_ (vN _ x2 _ (i2.below hA lr_))
 have HA:=hd_ hA;obtain⟨⟨y0,c0,e0⟩,_⟩:=i0.cases;obtain⟨⟨y1,c1,e1⟩,_⟩:=i1.cases;obtain⟨⟨y2,c2,e2⟩,_⟩:=i2.cases;obtain⟨n0,m0⟩:∃n,n=(rs.getD 0 []).length:=⟨_,rfl⟩
 obtain⟨n1,m1⟩:∃n,n=(rs.getD 1 []).length:=⟨_,rfl⟩
 obtain⟨n2,m2⟩:∃n,n=(rs.getD 2 []).length:=⟨_,rfl⟩
 obtain⟨V0,v0⟩:∃n,n=fM (rs.getD 0 []):=⟨_,rfl⟩
 obtain⟨V1,v1⟩:∃n,n=fM (rs.getD 1 []):=⟨_,rfl⟩
 obtain⟨V2,v2⟩:∃n,n=fM (rs.getD 2 []):=⟨_,rfl⟩
 rw[<-v0, <-v1, <-v2]at HV;rw[<-v0]at J0;rw[<-v1]at J1;rw[<-v2]at J2;rw[<-m0]at e0;rw[<-m1]at e1;rw[<-m2]at e2;subst e0 e1 e2;clear i0 i1 i2 hc hA m0 m1 m2 v0 v1 v2 h3;have cap1:¬cap=1:=by omega
 have cap1':(1:Int)<=(cap:Int):=by omega
 have cap3:(3:Int)<=(cap:Int):=by omega
 have h0':w.cell? ⟨b,o,none⟩=some (.slice y0 n0 c0):=h0;have h2':w.cell? ⟨b,o+1+1,none⟩=some (.slice y2 n2 c2):=h2;go_enter Tryz.func84,Tryz.ntmps84
 go_wp2_with fail
 refine J0.out.mono ?_;rintro e w1 ⟨rfl,rfl⟩
 go_wp2_with fail
 by_cases q1:V1=V0
 ·by_cases q2:V2=V0
  ·subst q1
   subst q2;have fin:=hd_ (HV.out.trans (if_pos ⟨H3.out,rfl,rfl⟩));refine wp_loop_rounds 3 ?_;rw[rounds_succ]
   go_wp2_with fail
   refine J1.out.mono ?_;rintro e w1 ⟨rfl,rfl⟩
   go_wp2_with fail
   rw[rounds_succ]
   go_wp2_with fail
   refine J2.out.mono ?_;rintro e w1 ⟨rfl,rfl⟩
   go_wp2_with fail
   rw[rounds_succ];go_wp2;go_ret;exact⟨iE fin.out.symm,HA.out⟩
  ·subst q1
   have fin:=hd_ (HV.out.trans (if_neg (fun h=>q2 h.2.2)));have q2':(V2==V1)=false:=by simpa using q2
   refine wp_loop_rounds 3 ?_;rw[rounds_succ]
   go_wp2_with fail
   refine J1.out.mono ?_;rintro e w1 ⟨rfl,rfl⟩
   go_wp2_with fail
   rw[rounds_succ]
   go_wp2_with fail
   refine J2.out.mono ?_;rintro e w1 ⟨rfl,rfl⟩;go_wp2;go_ret;exact⟨iE fin.out.symm,HA.out⟩
 ·have fin:=hd_ (HV.out.trans (if_neg (fun h=>q1 h.2.1)))
  have q1':(V1==V0)=false:=by simpa using q1
  refine wp_loop_rounds 1 ?_;rw[rounds_succ]
  go_wp2_with fail
  refine J1.out.mono ?_;rintro e w1 ⟨rfl,rfl⟩;go_wp2;go_ret;exact⟨iE fin.out.symm,HA.out⟩
theorem qY (w:World) (u:Value) (rs:List (List Int)) (h:Rws w u rs):
  Calls Tryz.prog 84 #[.agg #[u]] w fun e w'=>e=.returned (.int .i64 (cX rs))/\Below w.heap.size w w':=by
 have bad:rs.length≠3->cX rs= -1:=fun h=>by rw[aFZ,if_neg (fun q=>h q.1)]
 rcases h with ⟨rfl,rfl⟩|⟨b,o,cap,rfl,hcap,_,hb,hc⟩
 ·rw[bad (by simp)]
  exact tZ _ none 0 0 w rfl (by omega)
 ·by_cases h3:rs.length=3
  ·rw[h3]at hc hcap ⊢
   exact yM b o cap rs w h3 hcap hb hc
  ·rw[bad h3]
   exact tZ _ _ _ _ w rfl h3
theorem nH {rs:List (List Int)} (h:okB rs=true):0<=cX rs/\cX rs<=2000:=by
 obtain⟨_,hg⟩:=(fB rs).1 h;have f:mX (rs.getD 0 []):=⟨(hg 0 (by omega)).1,fun k hk=>((hg 0 (by omega)).2.1 k hk).1,(hg 0 (by omega)).2.2.2⟩
 unfold cX;rw[if_pos h];exact⟨f.bd.2.1,f.2.2⟩
theorem rJ {rs:List (List Int)} (h:okB rs=false):cX rs= -1:=by unfold cX;rw[h];rfl
theorem aKz (w:World) (u:Value) (rs:List (List Int)) (h:Rws w u rs):
  Calls Tryz.prog 178 #[.agg #[u]] w fun e w'=>e=.returned (.bool (okB rs))/\Below w.heap.size w w':=by
 have hA:=(Below.refl w.heap.size w).alloc lr_ (.cells #[u] 36);have K:=hd_ (qY _ u rs (h.below hA lr_));obtain⟨⟨x,c,hx⟩,_⟩:=h.cases;have HA:=hd_ hA;obtain⟨n,hn⟩:∃n,n=rs.length:=⟨_,rfl⟩
 rw[<-hn]at hx;subst hx;clear h hA hn;cases hok:okB rs with
 |true=>
  have v0:=(nH hok).1;obtain⟨V,hV⟩:∃V,V=cX rs:=⟨_,rfl⟩
  rw[<-hV]at K v0;clear hV hok;go_enter Tryz.func178,Tryz.ntmps178
  go_wp2_with (go_at_call 84;refine K.out.mono ?_;rintro e w1 ⟨rfl,hb1⟩)
  go_ret;exact⟨rfl,HA.out.trans (hb1.mono HA.out.size)⟩
 |false=>
  rw[rJ hok]at K;clear hok;go_enter Tryz.func178,Tryz.ntmps178
  go_wp2_with (go_at_call 84;refine K.out.mono ?_;rintro e w1 ⟨rfl,hb1⟩)
  go_ret;exact⟨rfl,HA.out.trans (hb1.mono HA.out.size)⟩
end Go.Proofs.YtcblbdpdbggkbaaGreat
namespace Go.Proofs.YtcblbdpdbggkbaaGreat
open Go.RowKit Go.Sort
theorem rY {w:World} {u:Value} {rs:List (List Int)} (h:Rws w u rs) (hok:okB rs=true):
  ∃b o cap,u=.slice (some ⟨b,o,none⟩) 3 cap/\3<=cap/\b<w.heap.size/\
   ∀i,i<3->∃bi oi ci,w.cell? ⟨b,o+i,none⟩=some (.slice (some ⟨bi,oi,none⟩) 8 ci)/\bi<w.heap.size/\∀k,k<8->w.cell? ⟨bi,oi+k,none⟩=some (.int .i64 ((rs.getD i []).getD k 0)):=by
 obtain⟨h3,hg⟩:=(fB rs).1 hok;rcases h with ⟨rfl,rfl⟩|⟨b,o,cap,rfl,hcap,_,hb,hc⟩
 ·simp at h3
 refine⟨b,o,cap,by rw[h3],by omega,hb,fun i hi=>?_⟩;obtain⟨x,hx,hi'⟩:=hc i (by omega);have g:=hg i hi;rcases hi' with ⟨_,h0⟩|⟨bi,oi,ci,rfl,_,_,hbi,hci⟩
 ·have:=g.1;rw[h0]at this;simp at this
 ·rw[g.1]at hx hci
  exact⟨bi,oi,ci,hx,hbi,hci⟩
def atV (rs:List (List Int)) (i:Nat) (t:Int):Int:=(rs.getD i []).getD (nA i t).toNat 0
theorem kH (i t:Int):∃P:Nat,nA i t=P/\P<8/\(nA i t).toNat=P:=by
 have:=aIE i t;exact⟨(nA i t).toNat,by omega,by omega,rfl⟩
theorem aLm {rs:List (List Int)} (h:okB rs=true) (i:Nat) (hi:i<3) (t:Int):0<=atV rs i t/\atV rs i t<=2000:=by
 obtain⟨_,hg⟩:=(fB rs).1 h;obtain⟨P,_,hP,e⟩:=kH i t;unfold atV;rw[e];exact (hg i hi).2.1 P hP
theorem aJV (w:World) (u:Value) (rs:List (List Int)) (h:Rws w u rs):
  Calls Tryz.prog 223 #[.agg #[u]] w fun e w'=>e=.returned (.int .i64 (cX rs))/\Below w.heap.size w w':=by
 have hA:=(Below.refl w.heap.size w).alloc lr_ (.cells #[u] 36);have K:=hd_ (tM u rs _ (h.below hA lr_));have HA:=hd_ hA;clear hA;cases hok:okB rs with
 |false=>
  rw[hok]at K;rw[rJ hok];obtain⟨⟨x,c,hx⟩,_⟩:=h.cases;obtain⟨n,hn⟩:∃n,n=rs.length:=⟨_,rfl⟩
  rw[<-hn]at hx;subst hx;clear h hn hok;go_enter Tryz.func223,Tryz.ntmps223
  go_wp2_with (go_at_call 219;refine K.out.mono ?_;rintro e w1 ⟨rfl,hb1⟩)
  go_ret;exact⟨rfl,HA.out.trans (hb1.mono HA.out.size)⟩
 |true=>
  rw[hok]at K;obtain⟨b,o,cap,rfl,hcap,hb,hrow⟩:=rY h hok;obtain⟨b0,o0,c0,e0,l0,r0⟩:=hrow 0 (by omega);obtain⟨_,hg⟩:=(fB rs).1 hok;have fin:Hid (cX rs=(rs.getD 0 []).sum):=if_pos hok;obtain⟨g8,gr,_,_⟩:=hg 0 (by omega);generalize rs.getD 0 []=z0 at g8 gr fin r0;have G8:=hd_ g8;have GR:=hd_ gr;have e0':w.cell? ⟨b,o,none⟩=some (.slice (some ⟨b0,o0,none⟩) 8 c0):=e0;have R0:=hd_ r0
  clear h hrow hok hg g8 gr e0 r0;go_enter Tryz.func223,Tryz.ntmps223
  go_wp2_with fail
  refine K.out.mono ?_;rintro e w1 ⟨rfl,hb1⟩;have L:=HA.out.trans (hb1.mono HA.out.size);have cb:w1.cell? ⟨w.heap.size,0,none⟩=some (.slice (some ⟨b,o,none⟩) 3 cap):=by rw[hb1.cell (by simp)];simp
  rw[<-L.cell (p:=⟨b,o,none⟩) hb]at e0';have KC:Hid (Calls Tryz.prog 224 #[.slice (some ⟨b0,o0,none⟩) 8 c0] w1 fun e w'=>e=.returned (.int .i64 z0.sum)/\w1=w'):=
   rA b0 o0 c0 8 z0 w1 G8.out (by omega) GR.out (fun i hi=>by rw[L.cell (p:=⟨b0,o0+i,none⟩) l0];exact R0.out i hi)
  have HL:=hd_ L;clear L hb1
  go_wp2_with (go_at_call 224;refine KC.out.mono ?_;rintro e w' ⟨rfl,rfl⟩)
  go_ret;exact⟨iE fin.out.symm,HL.out⟩
end Go.Proofs.YtcblbdpdbggkbaaGreat
namespace Go.Proofs.YtcblbdpdbggkbaaGreat
open Go.RowKit
def oG (k:Int) (n:Nat):List Int:=(List.range n).map fun (i:Nat)=>k+(i:Int)
def dO (rs:List (List Int)):Nat->Nat
 | 0=>0
 |i+1=>dO rs i+(rs.getD i []).length
theorem fV (k:Int) (n:Nat):(oG k n).length=n:=by simp[oG]
theorem aHd (k:Int) (n i:Nat) (h:i<n):(oG k n).getD i 0=k+i:=by simp[oG,h]
theorem aJR (k:Int) (zs:List Int) (j:Nat) (hj:j<zs.length):
  (bM (oG k j++zs.drop j)).set j (.int .i64 (k+j))=bM (oG k (j+1)++zs.drop (j+1)):=by
 apply List.ext_getElem?;intro i;simp only[bM,List.getElem?_set,List.getElem?_map,List.length_map,List.length_append,fV,List.length_drop];rcases Nat.lt_trichotomy i j with h|h|h
 ·rw[if_neg (by omega),List.getElem?_append_left (by rw[fV];exact h),List.getElem?_append_left (by rw[fV];omega)]
  simp[oG,h,show i<j+1 by omega]
 ·subst h
  rw[if_pos rfl,if_pos (by omega),List.getElem?_append_left (by rw[fV];omega)];simp[oG]
 ·rw[if_neg (by omega),List.getElem?_append_right (by rw[fV];omega),List.getElem?_append_right (by rw[fV];omega),fV,fV]
  simp only[List.getElem?_drop];rw[show j+(i - j)=i by omega,show j+1+(i - (j+1))=i by omega]
theorem aDs (w:World) (B g c n:Nat) (zs:List Int) (k:Int) (hl:zs.length=n) (hn:n<=200000000) (hk:0<=k) (hk':k<=1000000000000)
  (h:w.ownsRow B 3 1 (.slice (some ⟨g,0,none⟩) n c) n (bM zs)):
  Calls Tryz.prog 53 #[.slice (some ⟨g,0,none⟩) n c,.int .i64 k] w fun e w'=>
   e=.returned (.int .i64 (k+n))/\w'.ownsRow B 3 1 (.slice (some ⟨g,0,none⟩) n c) n (bM (oG k n))/\w.grownBy w' (some g):=by
 have HL:=hd_ hl;have H:=hd_ h;clear hl h;go_enter Tryz.func53,Tryz.ntmps53;go_wp2;go_loopw [1,5] (fun q i wr=>∃j:Nat,j<=n/\i=.int .i64 j/\q=.int .i64 (k+j)/\wr.ownsRow B 3 1 (.slice (some ⟨g,0,none⟩) n c) n (bM (oG k j++zs.drop j))/\w.grownBy wr (some g)) (fun _ i _=>n - (intOf i).toNat)
 case atStart=>exact⟨0,Nat.zero_le _,rfl,by go_num,by simpa[oG]using H.out,eG _ _⟩
 case round=>
  obtain⟨j,hj,rfl,rfl,hown,hg⟩:=hrel;have HO:=hd_ hown;have HG:=hd_ hg;clear hown hg
  by_cases hlt:j<n
  ·have hc:∃x,wr.cell? ⟨g,j,none⟩=some x:=by
    rw[HO.out.cellAt j (by omega)];exact⟨_,List.getElem?_eq_getElem (by rw[qV];simp[fV,HL.out];omega)⟩
   obtain⟨x,hc⟩:=hc;have hf:=HO.out.frozenAt j;have hs:=HO.out.stored j (.int .i64 (k+j));rw[aJR k zs j (by rw[HL.out];exact hlt)]at hs;have HS:=hd_ hs;clear hs;go_wp2;go_roundw
   case rel=>exact⟨j+1,by omega,by go_num,by rw[show ((j+1:Nat):Int)=(j:Int)+1 by omega];congr 1;omega,HS.out.1,aQ HG.out HS.out.2⟩
   case measure=>simp[intOf];omega
  ·obtain rfl:j=n:=by omega
   go_wp2;go_ret;have h0:zs.drop j=[]:=List.drop_of_length_le (by rw[HL.out];exact Nat.le_refl _);have ho:=HO.out;rw[h0,List.append_nil]at ho;exact⟨rfl,ho,HG.out⟩
theorem aEa (w:World) (v:Value) (n:Nat) (k:Int) (hn:n<=200000000) (hk:0<=k) (hk':k<=1000000000000) (h:cW w v (oG k n)):
  Calls Tryz.prog 54 #[v,.int .i64 k] w fun e w'=>e=.returned (.int .i64 (k+n))/\w=w':=by
 obtain⟨⟨x,c,hv⟩,q⟩:=h.cases;rw[fV]at hv q
 by_cases h0:n=0
 ·subst h0 hv
  go_enter Tryz.func54,Tryz.ntmps54;go_wp2;refine wp_loop_rounds 1 ?_;rw[rounds_succ];go_wp2;go_ret;exact⟨by simp,rfl⟩
 rcases q with q|⟨b,o,c,rfl,hc⟩
 ·omega
 have Hc:=hd_ hc;clear hc h hv;go_enter Tryz.func54,Tryz.ntmps54;go_wp2
 go_loop [1,5] (fun q i=>∃j:Nat,j<=n/\i=.int .i64 j/\q=.int .i64 (k+j)) (fun _ i=>n - (intOf i).toNat)
 case atStart=>exact⟨0,Nat.zero_le _,rfl,by go_num⟩
 case round=>
  obtain⟨j,hj,rfl,rfl⟩:=hrel
  by_cases hlt:j<n
  ·have h1:=Hc.out j hlt
   rw[aHd _ _ _ hlt]at h1;go_wp2
   go_round
   case rel=>exact⟨j+1,by omega,by go_num,by rw[show ((j+1:Nat):Int)=(j:Int)+1 by omega];congr 1;omega⟩
   case measure=>simp[intOf];omega
  ·obtain rfl:j=n:=by omega
   go_wp2;go_ret;exact⟨rfl,rfl⟩
end Go.Proofs.YtcblbdpdbggkbaaGreat
set_option linter.unusedVariables false
namespace Go.Proofs.YtcblbdpdbggkbaaGreat
open Go.RowKit
attribute [local go_sem ↓] Go.wp_at_zero Go.wp_at_succ
theorem aHz {w:World} {b o n:Nat} {zs:List Int} (hn:zs.length=n) (hc:∀k,k<n->w.cell? ⟨b,o+k,none⟩=some (.int .i64 (zs.getD k 0))):
  ∀j u,(bM zs)[j]? =some u->w.cell? ((⟨b,o,none⟩:Addr).add j)=some u:=fun j u hu=>by
 have hj:j<zs.length:=by
  have:=(List.getElem?_eq_some_iff.1 hu).1;simpa[bM]using this
 have e:(⟨b,o,none⟩:Addr).add j=⟨b,o+j,none⟩:=by unfold Addr.add;split<;>simp_all
 rw[e,hc j (by omega)];rw[iQ _ _ hj]at hu;exact hu
theorem aIl (zs:List Int):∀u ∈ bM zs,u.oneCell'=true:=fun u hu=>by
 obtain⟨z,_,rfl⟩:=List.mem_map.1 hu
 rfl
theorem aGS (w:World) (B:Nat) (hB:B<=w.heap.size):(w.alloc (.cells #[] 3)).ownsRow B 3 1 (.slice (some ⟨w.heap.size,0,none⟩) 0 0) 0 []:=
 World.ownsRow_lit (base:=B) (e:=3) (size:=1) w #[] 0 hB (by simp[maxLen]) (by simp)
theorem aDL {w wr w1 w2:World} {S R B W g c gg cap n:Nat} {o o':Obj} {u:Value} {t:TypeId} {rs:List (List Int)} {G C:Nat->Nat} {zs:List Int} (hn:zs.length=n)
  (HO:cY wr B u rs G C) (hX:Below wr.heap.size wr w1) (hz:w1.ownsRow B 3 1 (.slice (some ⟨g,0,none⟩) n c) n (bM zs)) (hg:wr.heap.size<=g)
  (hown1:w2.ownsRow B 23 1 (.slice (some ⟨gg,0,none⟩) (rs.length+1) cap) (rs.length+1) ((List.range rs.length).map (mS rs G C)++[.slice (some ⟨g,0,none⟩) n c]))
  (hgrow:(w1.alloc o').grownBy w2 u.ownBlock) (hat:u.ownBlock=some gg\/gg=w1.heap.size+1)
  (hR:wr.heap[R]? =some (.cells #[u] t (0,0))) (hS:wr.heap[S]? =some o) (hRB:R<B) (hSB:S<B) (hSR:S≠R) (hbl:Below W w wr) (hWR:W<=R) (hWw:W<=w.heap.size):
  ∃G' C',cY (w2.setCell ⟨R,0,none⟩ (.slice (some ⟨gg,0,none⟩) (rs.length+1) cap)) B (.slice (some ⟨gg,0,none⟩) (rs.length+1) cap) (rs++[zs]) G' C'/\
   (w2.setCell ⟨R,0,none⟩ (.slice (some ⟨gg,0,none⟩) (rs.length+1) cap)).heap[S]? =some o/\
   (w2.setCell ⟨R,0,none⟩ (.slice (some ⟨gg,0,none⟩) (rs.length+1) cap)).heap[R]? =some (.cells #[.slice (some ⟨gg,0,none⟩) (rs.length+1) cap] t (0,0))/\
   Below W w (w2.setCell ⟨R,0,none⟩ (.slice (some ⟨gg,0,none⟩) (rs.length+1) cap)):=by
 subst hn;exact aA9 HO (aQ (cE hX) (World.grownBy_alloc w1 o' none)) (hz.alloc _) hg hown1 hgrow (by simpa using hat) hR hS hRB hSB hSR hbl hWR hWw
theorem jN (w:World) (a b c:Obj):(((w.alloc a).alloc b).alloc c).heap[w.heap.size]? =some a/\(((w.alloc a).alloc b).alloc c).heap[w.heap.size+1]? =some b/\(((w.alloc a).alloc b).alloc c).heap[w.heap.size+2]? =some c:=by
 have e1:(w.alloc a).heap.size=w.heap.size+1:=by simp
 have e2:((w.alloc a).alloc b).heap.size=w.heap.size+2:=by simp
 have h1:=heap_alloc_new (w.alloc a) b;have h2:=heap_alloc_new ((w.alloc a).alloc b) c;rw[e1]at h1;rw[e2]at h2;exact⟨(heap_alloc_old _ _ (by omega)).trans ((heap_alloc_old _ _ (by omega)).trans (heap_alloc_new _ _)),(heap_alloc_old _ _ (by omega)).trans h1,h2⟩
theorem aGx {wr w1 w2:World} {S R:Nat} {o o':Obj} {x:Value} {row:Option Nat} (h:wr.heap[S]? =some o) (hb:Below wr.heap.size wr w1) (hg:(w1.alloc o').grownBy w2 row) (hr:row≠some S) (hSR:S≠R):
  (w2.setCell ⟨R,0,none⟩ x).heap[S]? =some o:=by
 rw[heap_setCell_other w2 ⟨R,0,none⟩ S _ hSR];have h1:=iU h (cE (row:=none) hb) (by simp);have h2:=iU h1 (World.grownBy_alloc w1 o' none) (by simp);exact iU h2 hg hr
theorem aHB {α:Type} (l:List α) (k:Nat) (d:α) (h:k<l.length):l.take k++[l.getD k d]=l.take (k+1):=by
 rw[List.take_succ_eq_append_getElem h];simp[h]
theorem aEU {wr w1:World} {o:Obj} (h:(wr.alloc o).drew.grownBy w1 (some wr.heap.size)):Below wr.heap.size wr w1:=by
 have h1:Below wr.heap.size wr (wr.alloc o).drew:=((Below.refl _ _).alloc lr_ _).drew;exact h1.grown h (by simp) (fun k e=>by cases e;exact Nat.le_refl _)
theorem aHx {w w1:World} {b:Nat} {u:Value} (hb:Below w.heap.size w w1) (c:w.cell? ⟨b,0,none⟩=some u) (f:w.frozen? ⟨b,0,none⟩=false) (l:b<w.heap.size):
  w1.cell? ⟨b,0,none⟩=some u/\w1.frozen? ⟨b,0,none⟩=false/\b<w1.heap.size:=
 ⟨cell_later hb c,by rw[hb.frozen (p:=⟨b,0,none⟩) l];exact f,Nat.lt_of_lt_of_le l hb.size⟩
theorem aIh {w w1:World} {o:Obj} {b:Nat} {u:Value} {row:Option Nat} (c:w.cell? ⟨b,0,none⟩=some u) (f:w.frozen? ⟨b,0,none⟩=false) (l:b<w.heap.size)
  (hg:(w.alloc o).grownBy w1 row) (hr:row≠some b):w1.cell? ⟨b,0,none⟩=some u/\w1.frozen? ⟨b,0,none⟩=false:=by
 have l1:b<(w.alloc o).heap.size:=by simp;omega
 rw[hg.cell_far ⟨b,0,none⟩ l1 (Ne.symm hr),hg.frozen_far ⟨b,0,none⟩ l1 (Ne.symm hr)];rw[World.cell?_alloc_past _ _ _ l,World.frozen?_alloc_past _ _ _ l];exact⟨c,f⟩
theorem aEp (b o cap:Nat) (rs:List (List Int)) (w:World) (hl:rs.length=3) (h8:∀i,i<3->(rs.getD i []).length=8) (hb:b<w.heap.size)
  (hrow:∀i,i<3->∃bi oi ci,w.cell? ⟨b,o+i,none⟩=some (.slice (some ⟨bi,oi,none⟩) 8 ci)/\bi<w.heap.size/\∀k,k<8->w.cell? ⟨bi,oi+k,none⟩=some (.int .i64 ((rs.getD i []).getD k 0))):
  Calls Tryz.prog 218 #[.agg #[.slice (some ⟨b,o,none⟩) 3 cap]] w fun e w'=>∃u G C,e=.returned (.agg #[u])/\cY w' w.heap.size u rs G C/\Below w.heap.size w w':=by
 obtain⟨i0,hi,hz0,hz1,hz2⟩:=info_parts aA7;obtain⟨j0,hj,hy0,hy1,hy2⟩:=info_parts aIV;have HL:=hd_ hl;have H8:=hd_ h8;have HW:=hd_ hrow;clear hl h8 hrow;go_enter Tryz.func218,Tryz.ntmps218;go_wp2;go_loopw [4] (fun i wr=>∃(k:Nat) (qs:List (List Int)) (u:Value) (G C:Nat->Nat),k<=3/\i=.int .i64 k/\qs=rs.take k/\cY wr (w.heap.size+3) u qs G C/\
      wr.heap[w.heap.size+1]? =some (.cells #[.slice none 0 0] 36 (0,0))/\wr.heap[w.heap.size+2]? =some (.cells #[u] 36 (0,0))/\Below w.heap.size w wr/\
      wr.heap[w.heap.size]? =some (.cells #[.slice (some ⟨b,o,none⟩) 3 cap] 36 (0,0))) (fun i _=>3 - (intOf i).toNat)
 case atStart=>
  refine⟨0,_,_,_,_,Nat.zero_le _,rfl,rfl,cY.nil _ _,?_,?_,(((Below.refl _ _).alloc lr_ _).alloc (by simp) _).alloc (by simp;omega) _,?_⟩
  ·exact (jN w _ _ _).2.1
  ·exact (jN w _ _ _).2.2
  ·exact (jN w _ _ _).1
 case round=>
  obtain⟨k,qs,u,G,C,hk,rfl,hqs,hown,hS,hR,hbl,hbx0⟩:=hrel;obtain⟨hbox,_,l0⟩:=eY hbx0;obtain⟨c1,f1,l1⟩:=eY hR;have HQ:=hd_ hqs;have hn:qs.length=k:=by rw[hqs];simp[HL.out];omega
  have HN:=hd_ hn;have hn3:qs.length<=3:=by omega
  have hub:u.ownBlock≠some (w.heap.size+2):=fun e=>by have:=(hown.hdr_lt _ e).1;omega
  have hb0:w.heap.size+3<=wr.heap.size:=by omega
  have hub0:u.ownBlock≠some w.heap.size:=fun e=>by have:=(hown.hdr_lt _ e).1;omega
  have HB0:=hd_ hbx0;have HU0:=hd_ hub0;have HO:=hd_ hown;have HS:=hd_ hS;have HR:=hd_ hR;have HB:=hd_ hbl;clear hown hS hR hbl hn hqs hbx0 hub0
  by_cases hlt:k<3
  ·obtain⟨bi,oi,ci,e1,li,hc⟩:=HW.out k hlt
   rw[<-HB.out.cell (p:=⟨b,o+k,none⟩) hb]at e1;have hzl:=H8.out k hlt;obtain⟨zs,hzs⟩:∃zs,zs=rs.getD k []:=⟨_,rfl⟩
   rw[<-hzs]at hc hzl;have hc':∀i,i<8->wr.cell? ⟨bi,oi+i,none⟩=some (.int .i64 (zs.getD i 0)):=fun i hi=>by rw[HB.out.cell (p:=⟨bi,oi+i,none⟩) li];exact hc i hi
   have hbi:bi<wr.heap.size:=by have:=HB.out.size;omega
   have HC:=hd_ hc';have HZ:=hd_ hzs;have HZL:=hd_ hzl;clear hc hc' hzs hzl;have lb:b<wr.heap.size:=by have:=HB.out.size;omega
   have ki0:(0:Int)<=(k:Int):=by omega
   have ki3:(k:Int)<3:=by omega
   go_wp2_with fail
   go_region_law ((first
        |(refine step_append_lies _ (by rfl) _ _ _ (by rfl) (w.heap.size+3) 3 j0 _ 1 8 Tryz.underlying23 hj hy0 hy1 hy2 rfl (by omega) (.slice (some ⟨wr.heap.size,0,none⟩) 0 0) 0 [] (by rfl) ((aGS wr (w.heap.size+3) hb0).drew)
            ⟨bi,oi,none⟩ 8 ci (bM zs) (by rfl) (by rw[qV,HZL.out]) (aHz HZL.out (fun i hi=>(World.cell?_alloc_lt (h:=hbi) ..).trans (HC.out i hi))) (aIl zs)
            (by omega) (by unfold maxLen;omega) (by omega) (by simp;omega) (wr.heap.size+1) (by simp) ?_;intro g1 cap1 w1 hown1 hgrow1 hat1 hlt1;have hbw:=aEU hgrow1;have HO1:=HO.out.below hbw lr_;have d1:=aHx hbw c1 f1 l1;obtain⟨d2,d3,d4⟩:=d1;have HBW:=hd_ hbw;have HQ1:=hd_ HO1;have HW1:=hd_ hown1;have hsz:=hbw.size;clear hbw HO1 hown1 hgrow1)
        |(refine step_append_lies _ (by rfl) _ _ _ (by rfl) (w.heap.size+3) 23 i0 _ 1 24 Tryz.underlying34 hi hz0 hz1 hz2 rfl (by omega) u qs.length _ (by rfl) (HQ1.out.hdr.alloc _)
            ⟨w1.heap.size,0,none⟩ 1 1 [.slice (some ⟨g1,0,none⟩) 8 cap1] (by rfl) (by rfl) (World.news_of_block (cs:=#[.slice (some ⟨g1,0,none⟩) 8 cap1]) (t:=23) (fr:=(0,0)) (heap_alloc_new w1 _)) (by simp[Value.oneCell'])
            (by omega) (by unfold maxLen;omega) (by omega) (by simp;omega) (w1.heap.size+1) (by simp) ?_;intro gg cap2 w2 hown2 hgrow2 hat2 hlt2;have d5:=aIh d2 d3 d4 hgrow2 hub;obtain⟨d6,d7⟩:=d5)))
   all_goals
    have hg1:wr.heap.size<=g1:=by
     rcases hat1 with h|h
     ·simp[Value.ownBlock]at h;omega
     ·omega
    have fin:=aDL HZL.out HO.out HBW.out HW1.out hg1 hown2 hgrow2 hat2 HR.out HS.out (by omega) (by omega) (by omega) HB.out (by omega) lr_;have hbx:=aGx (x:=.slice (some ⟨gg,0,none⟩) (qs.length+1) cap2) HB0.out HBW.out hgrow2 HU0.out (show w.heap.size≠w.heap.size+2 by omega);have FIN:=hd_ fin;have HBX:=hd_ hbx;clear fin hbx hown2 hgrow2 hat2 hg1 hat1;go_wp2;go_roundw
    case rel=>
     obtain⟨G',C',q1,q2,q3,q4⟩:=FIN.out;exact⟨k+1,qs++[zs],_,G',C',by omega,by go_num,by rw[HQ.out,HZ.out];exact aHB _ _ _ (by rw[HL.out];exact hlt),q1,q2,q3,q4,HBX.out⟩
    case measure=>simp[intOf];omega
  ·obtain⟨s1,s2,s3⟩:=eY HS.out
   have h3:qs.length=3:=by rw[HN.out];omega
   obtain⟨g,cap',hu,hg1,hg2⟩:=World.ownsRow.form HO.out.hdr (by omega);subst hu;have e3:qs=rs:=by rw[HQ.out,List.take_of_length_le (by rw[HL.out];omega)]
   have hw:=HO.out.grown (aA wr ⟨w.heap.size+1,0,none⟩ (.slice (some ⟨g,0,none⟩) 3 cap')) (fun k e=>by simp at e;omega);have hb:=HB.out.setCell (p:=⟨w.heap.size+1,0,none⟩) (by simp) (.slice (some ⟨g,0,none⟩) 3 cap');rw[h3]at hw c1;rw[e3]at hw;have H1:=hd_ hw;have H2:=hd_ hb;have H3:=hd_ h3;clear hw hb h3 e3 hub hn3;go_wp2
   have hr:=World.cell?_setCell_same wr ⟨w.heap.size+1,0,none⟩ (.slice (some ⟨g,0,none⟩) 3 cap') s1;exact bodyPost_ret (v:=.agg #[.slice (some ⟨g,0,none⟩) 3 cap']) (by simp[results,Tryz.results218,go_sem,hr]) rfl ⟨_,G,C,rfl,H1.out.base (by omega),H2.out⟩
theorem aGh (w:World) (u:Value) (rs:List (List Int)) (h:Rws w u rs) (hok:okB rs=true):
  Calls Tryz.prog 218 #[.agg #[u]] w fun e w'=>∃x c G C,e=.returned (.agg #[.slice x 3 c])/\cY w' w.heap.size (.slice x 3 c) rs G C/\Below w.heap.size w w':=by
 obtain⟨h3,hg⟩:=(fB rs).1 hok;obtain⟨b,o,cap,rfl,_,hb,hrow⟩:=rY h hok;refine (aEp b o cap rs w h3 (fun i hi=>(hg i hi).1) hb hrow).mono fun e w' ⟨u',G,C,he,ho,hb'⟩=>?_
 obtain⟨⟨x,c,hx⟩,_⟩:=ho.rws.cases;rw[h3]at hx;subst hx;exact⟨x,c,G,C,he,ho,hb'⟩
end Go.Proofs.YtcblbdpdbggkbaaGreat
namespace Go.Proofs.YtcblbdpdbggkbaaGreat
open Go.RowKit Go.Sort
def pK (rs:List (List Int)) (t n:Int) (i:Nat):List Int:=(rs.getD i []).set (nA i t).toNat (atV rs i t+n)
def tQ (rs:List (List Int)) (t n:Int):List (List Int):=[pK rs t n 0,pK rs t n 1,pK rs t n 2]
def mW (rs:List (List Int)) (t n:Int):Bool:=okB rs&&decide (0<=t)&&decide (t<64)&&decide (0<=n)&&decide (n<=2000 - cX rs)
theorem jH (rs:List (List Int)) (t n:Int):mW rs t n=true↔okB rs=true/\0<=t/\t<64/\0<=n/\n<=2000 - cX rs:=by
 simp[mW,and_assoc]
theorem aDx (rs:List (List Int)) (t n:Int) (i:Nat) (hi:i<3):(tQ rs t n).getD i []=pK rs t n i:=by
 rcases (by omega:i=0\/i=1\/i=2)with rfl|rfl|rfl<;>rfl
theorem zF {rs qs:List (List Int)} (h:rs.length=3) (h':qs.length=3) (e:∀i,i<3->rs.getD i []=qs.getD i []):rs=qs:=by
 have:=fY (d:=[]) h h' e;simpa using this
theorem aJA (w:World) (u:Value) (rs:List (List Int)) (t n:Int) (h:Rws w u rs) (hno:mW rs t n=false):
  Calls Tryz.prog 310 #[.agg #[u],.int .i64 t,.int .i64 n] w fun e w'=>e=.returned (.tuple #[.agg #[.slice none 0 0],.bool false])/\Below w.heap.size w w':=by
 have hA:=((Below.refl w.heap.size w).alloc lr_ (.cells #[u] 36)).alloc (by simp) (.cells #[.slice none 0 0] 36);have K:=hd_ (tM u rs _ (h.below hA lr_));have HA:=hd_ hA;clear hA;cases hok:okB rs with
 |false=>
  rw[hok]at K;obtain⟨⟨x,c,hx⟩,_⟩:=h.cases;obtain⟨m,hn⟩:∃n,n=rs.length:=⟨_,rfl⟩
  rw[<-hn]at hx;subst hx;clear h hn hok hno;go_enter Tryz.func310,Tryz.ntmps310
  go_wp2_with fail
  refine K.out.mono ?_;rintro e w1 ⟨rfl,hb1⟩;have sz:=hb1.size;simp only[World.size_alloc]at sz;have cb:w1.cell? ⟨w.heap.size+1,0,none⟩=some (.slice none 0 0):=by rw[hb1.cell (by simp)];simp[go_sem]
  have fb:w1.frozen? ⟨w.heap.size+1,0,none⟩=false:=by rw[hb1.frozen (by simp)];simp[go_sem]
  have L:=hd_ (HA.out.trans (hb1.mono HA.out.size));clear hb1;go_wp2;have hr:=World.cell?_setCell_same w1 ⟨w.heap.size+1,0,none⟩ (.slice none 0 0) cb;exact bodyPost_ret (v:=.tuple #[.agg #[.slice none 0 0],.bool false]) (by simp[results,Tryz.results310,go_sem,hr]) rfl ⟨rfl,L.out.setCell (by simp) _⟩
 |true=>
  rw[hok]at K;obtain⟨b,o,cap,rfl,hcap,hb,hrow⟩:=rY h hok;obtain⟨b0,o0,c0,e0,l0,r0⟩:=hrow 0 (by omega);obtain⟨_,hg⟩:=(fB rs).1 hok;have fin:Hid (cX rs=(rs.getD 0 []).sum):=if_pos hok;obtain⟨g8,gr,_,_⟩:=hg 0 (by omega);have av:=nH hok;generalize rs.getD 0 []=z0 at g8 gr fin r0;obtain⟨S,hS⟩:∃S,S=cX rs:=⟨_,rfl⟩
  rw[<-hS]at av fin;have hno':(t<0\/63<t)\/(0<=t/\t<=63/\(n<0\/2000 - S<n)):=by
   apply Classical.byContradiction;intro hh;have:mW rs t n=true:=(jH rs t n).2 ⟨hok,by omega,by omega,by omega,by rw[<-hS];omega⟩;rw[this]at hno;cases hno
  have G8:=hd_ g8;have GR:=hd_ gr;have e0':w.cell? ⟨b,o,none⟩=some (.slice (some ⟨b0,o0,none⟩) 8 c0):=e0;have R0:=hd_ r0;clear h hrow hok hg g8 gr e0 r0 hno hS;rcases hno' with ht|⟨t0,t1,hn⟩
  ·go_enter Tryz.func310,Tryz.ntmps310
   go_wp2_with fail
   refine K.out.mono ?_;rintro e w1 ⟨rfl,hb1⟩;have sz:=hb1.size;simp only[World.size_alloc]at sz;have cb:w1.cell? ⟨w.heap.size+1,0,none⟩=some (.slice none 0 0):=by rw[hb1.cell (by simp)];simp[go_sem]
   have fb:w1.frozen? ⟨w.heap.size+1,0,none⟩=false:=by rw[hb1.frozen (by simp)];simp[go_sem]
   have L:=hd_ (HA.out.trans (hb1.mono HA.out.size));clear hb1
   go_wp2_with (go_at_call 66;refine (fL _ _ _ _ ht).mono ?_;rintro e w' ⟨rfl,rfl⟩)
   have hr:=World.cell?_setCell_same w1 ⟨w.heap.size+1,0,none⟩ (.slice none 0 0) cb;exact bodyPost_ret (v:=.tuple #[.agg #[.slice none 0 0],.bool false]) (by simp[results,Tryz.results310,go_sem,hr]) rfl ⟨rfl,L.out.setCell (by simp) _⟩
  ·go_enter Tryz.func310,Tryz.ntmps310
   go_wp2_with fail
   refine K.out.mono ?_;rintro e w1 ⟨rfl,hb1⟩;have sz:=hb1.size;simp only[World.size_alloc]at sz;have cb:w1.cell? ⟨w.heap.size+1,0,none⟩=some (.slice none 0 0):=by rw[hb1.cell (by simp)];simp[go_sem]
   have ca:w1.cell? ⟨w.heap.size,0,none⟩=some (.slice (some ⟨b,o,none⟩) 3 cap):=by rw[hb1.cell (by simp;omega)];simp[go_sem]
   have fb:w1.frozen? ⟨w.heap.size+1,0,none⟩=false:=by rw[hb1.frozen (by simp)];simp[go_sem]
   have hL:=HA.out.trans (hb1.mono HA.out.size);rw[<-hL.cell (p:=⟨b,o,none⟩) hb]at e0';have KC:Hid (Calls Tryz.prog 224 #[.slice (some ⟨b0,o0,none⟩) 8 c0] w1 fun e w'=>e=.returned (.int .i64 S)/\w1=w'):=by
    rw[fin.out];exact rA b0 o0 c0 8 z0 w1 G8.out (by omega) GR.out (fun i hi=>by rw[hL.cell (p:=⟨b0,o0+i,none⟩) l0];exact R0.out i hi)
   have L:=hd_ hL;clear hb1 hL
   go_wp2_with (go_at_call 66;refine (aN _ _ _ _ t0 t1).mono ?_;rintro e w' ⟨rfl,rfl⟩;clear t1)
   refine KC.out.mono ?_;rintro e w' ⟨rfl,rfl⟩
   go_wp2_with (go_at_call 66;refine (fL _ _ _ _ hn).mono ?_;rintro e w' ⟨rfl,rfl⟩)
   have hr:=World.cell?_setCell_same w1 ⟨w.heap.size+1,0,none⟩ (.slice none 0 0) cb;exact bodyPost_ret (v:=.tuple #[.agg #[.slice none 0 0],.bool false]) (by simp[results,Tryz.results310,go_sem,hr]) rfl ⟨rfl,L.out.setCell (by simp) _⟩
theorem cY.hdrCell {w:World} {B g c n:Nat} {rs:List (List Int)} {G C:Nat->Nat} (h:cY w B (.slice (some ⟨g,0,none⟩) n c) rs G C) (hn:rs.length=n) (i:Nat) (hi:i<n):
  w.cell? ⟨g,i,none⟩=some (.slice (some ⟨G i,0,none⟩) (rs.getD i []).length (C i)):=by
 have hh:=h.hdr;rw[hn]at hh;have:=hh.cellAt i (by omega);rw[this,List.getElem?_map,List.getElem?_range hi]
 rfl
theorem cY.rowCell {w:World} {B:Nat} {u:Value} {rs:List (List Int)} {G C:Nat->Nat} (h:cY w B u rs G C) (i k:Nat) (hi:i<rs.length) (hk:k<(rs.getD i []).length):
  w.cell? ⟨G i,k,none⟩=some (.int .i64 ((rs.getD i []).getD k 0))/\w.frozen? ⟨G i,k,none⟩=false:=by
 have hr:=h.row i hi;exact⟨by rw[World.ownsRow.cellAt hr k (by omega),iQ _ _ hk],World.ownsRow.frozenAt hr k⟩
theorem aGz (w:World) (u:Value) (rs:List (List Int)) (t n:Int) (h:Rws w u rs) (hyes:mW rs t n=true):
  Calls Tryz.prog 310 #[.agg #[u],.int .i64 t,.int .i64 n] w fun e w'=>∃x c G C,e=.returned (.tuple #[.agg #[.slice x 3 c],.bool true])/\cY w' w.heap.size (.slice x 3 c) (tQ rs t n) G C/\Below w.heap.size w w':=by
 obtain⟨hok,t0,t1,n0,n1⟩:=(jH rs t n).1 hyes;have hA:=((Below.refl w.heap.size w).alloc lr_ (.cells #[u] 36)).alloc (by simp) (.cells #[.slice none 0 0] 36);have K:=hd_ (tM u rs _ (h.below hA lr_));have HA:=hd_ hA;rw[hok]at K;have HRW:=hd_ h;obtain⟨b,o,cap,rfl,hcap,hb,hrow⟩:=rY h hok;obtain⟨b0,o0,c0,e0,l0,r0⟩:=hrow 0 (by omega);obtain⟨h3,hg⟩:=(fB rs).1 hok
 have fin:Hid (cX rs=(rs.getD 0 []).sum):=if_pos hok;obtain⟨g8,gr,_,_⟩:=hg 0 (by omega);have av:=nH hok;have HG:=hd_ hg;have H3:=hd_ h3;have HOK:=hd_ hok;have t1':t<=63:=by omega
 generalize hz:rs.getD 0 []=z0 at g8 gr fin r0;clear hz;obtain⟨S,hS⟩:∃S,S=cX rs:=⟨_,rfl⟩
 rw[<-hS]at av fin n1;have nU:n<=2000:=by omega
 have G8:=hd_ g8;have GR:=hd_ gr;have e0':w.cell? ⟨b,o,none⟩=some (.slice (some ⟨b0,o0,none⟩) 8 c0):=e0;have R0:=hd_ r0;clear h hrow hok hg g8 gr e0 r0 hS hyes hA h3;go_enter Tryz.func310,Tryz.ntmps310
 go_wp2_with fail
 refine K.out.mono ?_;rintro e w1 ⟨rfl,hb1⟩;have sz:=hb1.size;simp only[World.size_alloc]at sz;have cb:w1.cell? ⟨w.heap.size+1,0,none⟩=some (.slice none 0 0):=by rw[hb1.cell (by simp)];simp[go_sem]
 have ca:w1.cell? ⟨w.heap.size,0,none⟩=some (.slice (some ⟨b,o,none⟩) 3 cap):=by rw[hb1.cell (by simp;omega)];simp[go_sem]
 have fb:w1.frozen? ⟨w.heap.size+1,0,none⟩=false:=by rw[hb1.frozen (by simp)];simp[go_sem]
 have hL:=HA.out.trans (hb1.mono HA.out.size);rw[<-hL.cell (p:=⟨b,o,none⟩) hb]at e0';have KC:Hid (Calls Tryz.prog 224 #[.slice (some ⟨b0,o0,none⟩) 8 c0] w1 fun e w'=>e=.returned (.int .i64 S)/\w1=w'):=by
  rw[fin.out];exact rA b0 o0 c0 8 z0 w1 G8.out (by omega) GR.out (fun i hi=>by rw[hL.cell (p:=⟨b0,o0+i,none⟩) l0];exact R0.out i hi)
 have KCopy:=hd_ (aGh w1 _ rs (HRW.out.below hL lr_) HOK.out);have L:=hd_ hL;clear hb1 hL
 go_wp2_with (go_at_call 66;refine (aN _ _ _ _ t0 t1').mono ?_;rintro e w' ⟨rfl,rfl⟩;clear t1')
 refine KC.out.mono ?_;rintro e w' ⟨rfl,rfl⟩
 go_wp2_with (go_at_call 66;refine (aN _ _ _ _ n0 n1).mono ?_;rintro e w' ⟨rfl,rfl⟩;clear n1)
 go_wp2_with fail
 refine KCopy.out.mono ?_;rintro e w2 ⟨x,c,G,C,rfl,ho,hb2⟩;obtain⟨g,c',hu,hg1,hg2⟩:=World.ownsRow.form ho.hdr (by rw[H3.out];omega);rw[H3.out]at hu;obtain⟨rfl,rfl⟩:x=some ⟨g,0,none⟩/\c=c':=by simpa using hu
 clear hu;have cb2:=cell_later hb2 cb;have fb2:w2.frozen? ⟨w.heap.size+1,0,none⟩=false:=by rw[hb2.frozen (p:=⟨w.heap.size+1,0,none⟩) (by simp;omega)];exact fb
 have sz2:=hb2.size;have L2:=hd_ (L.out.trans (hb2.mono L.out.size));have HO2:=hd_ ho;clear ho hb2 cb fb ca e0';have hz:=fun (i:Nat) (hi:i<3)=>(HG.out i hi).1
 have H8:=hd_ hz;have AB:=hd_ (fun (i:Nat) (hi:i<3)=>aLm HOK.out i hi t);clear hz;go_wp2;go_loopw [9] (fun i wr=>∃(k:Nat) (qs:List (List Int)),k<=3/\i=.int .i64 k/\qs.length=3/\(∀j,j<3->qs.getD j []=if j<k then pK rs t n j else rs.getD j [])/\
      cY wr w1.heap.size (.slice (some ⟨g,0,none⟩) 3 c) qs G C/\wr.cell? ⟨w2.heap.size,0,none⟩=some (.slice (some ⟨g,0,none⟩) 3 c)/\
      wr.cell? ⟨w.heap.size+1,0,none⟩=some (.slice none 0 0)/\wr.frozen? ⟨w.heap.size+1,0,none⟩=false/\Below w.heap.size w wr/\w2.heap.size<wr.heap.size) (fun i _=>3 - (intOf i).toNat)
 case atStart=>
  have l1:w.heap.size+1<w2.heap.size:=by omega
  exact⟨0,rs,Nat.zero_le _,rfl,H3.out,fun j hj=>by simp,HO2.out.below ((Below.refl _ _).alloc lr_ _) lr_,by simp,by rw[World.cell?_alloc_past _ _ _ l1];exact cb2,
      by rw[World.frozen?_alloc_past _ _ _ l1];exact fb2,L2.out.alloc L2.out.size _,by simp⟩
 case round=>
  obtain⟨k,qs,hk,rfl,hq3,hqs,hown,hbox,cr,fr,hbl,hlt2⟩:=hrel;have HQ3:=hd_ hq3;have HQ:=hd_ hqs;have HO:=hd_ hown;have HB:=hd_ hbl;clear hq3 hqs hown hbl
  by_cases hlt:k<3
  ·obtain⟨P,hP,hP8,hPn⟩:=kH (k:Int) t
   have hqk:qs.getD k []=rs.getD k []:=by rw[HQ.out k hlt,if_neg (by omega)]
   have hc1:=HO.out.hdrCell HQ3.out k hlt;rw[hqk,H8.out k hlt]at hc1;have hc2:=HO.out.rowCell k P (by rw[HQ3.out];exact hlt) (by rw[hqk,H8.out k hlt];exact hP8);have ha:(qs.getD k []).getD P 0=atV rs k t:=by rw[hqk];unfold atV;rw[hPn]
   rw[ha]at hc2;obtain⟨a0,a1⟩:=AB.out k hlt;have K1:Hid (∀W,Calls Tryz.prog 320 #[.int .i64 k,.int .i64 t] W fun e w'=>e=.returned (.int .i64 P)/\Below W.heap.size W w'):=fun W=>by
    rw[<-hP];exact aEl k t W (by omega) (by omega) t0 t1
   have hst:∀w4:World,Below wr.heap.size wr w4->∃qs',qs'.length=3/\(∀j,j<3->qs'.getD j []=if j<k+1 then pK rs t n j else rs.getD j [])/\
     cY (w4.setCell ⟨G k,P,none⟩ (.int .i64 (atV rs k t+n))) w1.heap.size (.slice (some ⟨g,0,none⟩) 3 c) qs' G C/\w4.grownBy (w4.setCell ⟨G k,P,none⟩ (.int .i64 (atV rs k t+n))) (some (G k)):=fun w4 hw4=>by
    have q:=(HO.out.below hw4 lr_).store k P (atV rs k t+n) (by rw[HQ3.out];exact hlt) (by rw[hqk,H8.out k hlt];exact hP8);refine⟨_,by simpa using HQ3.out,fun j hj=>?_,q.1,q.2⟩
    by_cases e:j=k
    ·subst e
     rw[if_pos (by omega)];unfold pK;rw[hPn,hqk];simp[HQ3.out,hlt]
    ·have e1:(qs.set k ((qs.getD k []).set P (atV rs k t+n))).getD j []=qs.getD j []:=by simp[Ne.symm e]
     rw[e1,HQ.out j hj]
     by_cases e2:j<k
     ·rw[if_pos e2,if_pos (by omega)]
     ·rw[if_neg e2,if_neg (by omega)]
   have HST:=hd_ hst;have HGk:Hid (w1.heap.size<=G k/\G k<w2.heap.size):=⟨((HO.out.row k (by rw[HQ3.out];exact hlt)).lt (G k) rfl).1,((HO2.out.row k (by rw[H3.out];exact hlt)).lt (G k) rfl).2⟩
   obtain⟨a,hA⟩:∃a,a=atV rs k t:=⟨_,rfl⟩
   rw[<-hA]at hc2 HST a0 a1;obtain⟨hc2,hf2⟩:=hc2;have lgk:G k<wr.heap.size:=World.block_lt_of_cell? _ _ hc2;have rb:=cell_regrown hbox;have r1:=cell_regrown hc1;have r2:=cell_regrown hc2;have k0:(0:Int)<=(k:Int):=by omega
   have k3:(k:Int)<3:=by omega
   have P8:(P:Int)<8:=by omega
   have wr1:IntKind.i64.wrap (a+n)=a+n:=IntWalk.i64_in _ (by omega);clear hP hPn hst hA ha hqk hP8;go_wp2;refine jP (C:=fun w'=>∃p:Regrown,w'=grow (redrawn wr p.d) p.os) 21 _ rfl rfl rfl (by kernel_rfl) (by kernel_rfl) (by kernel_rfl) (by kernel_rfl) (by kernel_rfl) ⟨⟨wr.drawn+1,#[]⟩,by rw[grow_empty];rfl⟩ ?_;simp only[List.take_succ_cons,List.take_zero]
   repeat (refine dG (fun K hK=>?_);go_simp;first|(refine hK _ ?_;clear hK K)|(apply Exists.intro;refine⟨fun _=>?_,hK _ ?_⟩;(exact Calls.regrown_of (K1.out _));clear hK K))
   refine eT ?_;intro _ hw';obtain⟨⟨dq,oq⟩,hw''⟩:=hw';subst hw'';have hb_w4:=below_regrown wr dq oq;obtain⟨w4,hq_w4⟩:∃x,x=grow (redrawn wr dq) oq:=⟨_,rfl⟩
   rw[<-hq_w4]at hb_w4 ⊢;clear hq_w4;have d1:=cell_later hb_w4 hc2;have d2:w4.frozen? ⟨G k,P,none⟩=false:=by rw[hb_w4.frozen (p:=⟨G k,P,none⟩) lgk];exact hf2
   have HB4:=hd_ hb_w4;clear hb_w4 rb r1 r2 wr1 hc1 hc2;go_wp2;go_roundw
   case rel=>
    obtain⟨qs',q1,q2,q3,q4⟩:=HST.out w4 HB4.out;have lw2:w2.heap.size<w4.heap.size:=by have:=HB4.out.size;omega
    have e2:G k≠w2.heap.size:=by have:=HGk.out.2;omega
    have e1:G k≠w.heap.size+1:=by have:=HGk.out.1;omega
    refine⟨k+1,qs',by omega,by go_num,q1,q2,q3,?_,?_,?_,?_,by simpa using lw2⟩
    ·exact (World.cell?_setCell_other (h:=fun h=>by injection h with h;exact e2 h) ..).trans (cell_later HB4.out hbox)
    ·exact (World.cell?_setCell_other (h:=fun h=>by injection h with h;exact e1 h) ..).trans (cell_later HB4.out cr)
    ·rw[World.frozen?_setCell,HB4.out.frozen (p:=⟨w.heap.size+1,0,none⟩) (by simp;omega)];exact fr
    ·exact (HB.out.trans (HB4.out.mono HB.out.size)).setCell (by have:=HGk.out.1;simp;omega) _
   case measure=>simp[intOf];omega
  ·have hq:qs=tQ rs t n:=zF HQ3.out rfl (fun i hi=>by rw[HQ.out i hi,if_pos (by omega),aDx _ _ _ _ hi])
   have HE:=hd_ hq;clear hq;go_wp2;have hr:=World.cell?_setCell_same wr ⟨w.heap.size+1,0,none⟩ (.slice (some ⟨g,0,none⟩) 3 c) cr;have hw:=HO.out.grown (aA wr ⟨w.heap.size+1,0,none⟩ (.slice (some ⟨g,0,none⟩) 3 c)) (fun k e=>by simp at e;omega);rw[HE.out]at hw
   exact bodyPost_ret (v:=.tuple #[.agg #[.slice (some ⟨g,0,none⟩) 3 c],.bool true]) (by simp[results,Tryz.results310,go_sem,hr]) rfl
    ⟨_,_,G,C,rfl,hw.base (by omega),HB.out.setCell (by simp) _⟩
end Go.Proofs.YtcblbdpdbggkbaaGreat
set_option linter.unusedVariables false
namespace Go.Proofs.YtcblbdpdbggkbaaGreat
open Go.RowKit Go.Sort
def fS (x y:List Int):List Int:=(List.range 8).map fun k=>x.getD k 0+y.getD k 0
def fT (ra rb:List (List Int)):List (List Int):=[fS (ra.getD 0 []) (rb.getD 0 []),fS (ra.getD 1 []) (rb.getD 1 []),fS (ra.getD 2 []) (rb.getD 2 [])]
def jY (ra rb:List (List Int)):Bool:=okB ra&&okB rb&&decide (cX ra+cX rb<=2000)
theorem lW (ra rb:List (List Int)):jY ra rb=true↔okB ra=true/\okB rb=true/\cX ra+cX rb<=2000:=by simp[jY,and_assoc]
theorem lV (ra rb:List (List Int)) (i:Nat) (hi:i<3):(fT ra rb).getD i []=fS (ra.getD i []) (rb.getD i []):=by
 rcases (by omega:i=0\/i=1\/i=2)with rfl|rfl|rfl<;>rfl
theorem kQ (x y:List Int):(fS x y).length=8:=by simp[fS]
theorem dP (x y:List Int) (k:Nat) (h:k<8):(fS x y).getD k 0=x.getD k 0+y.getD k 0:=by
 simp only[fS,List.getD_eq_getElem?_getD,List.getElem?_map,List.getElem?_range h,Option.map_some,Option.getD_some]
theorem aAj {rs:List (List Int)} (h:okB rs=true):(rs.getD 0 []).sum=cX rs:=(if_pos h).symm
theorem aKN (a b:Int) (w:World) (h: -1000000<=a/\a<=1000000) (h': -1000000<=b/\b<=1000000):
  Calls Tryz.prog 285 #[.int .i64 a,.int .i64 b] w fun e w'=>e=.returned (.int .i64 (a+b))/\w=w':=by
 obtain⟨h1,h2⟩:=h;obtain⟨h3,h4⟩:=h';go_enter Tryz.func285,Tryz.ntmps285;go_wp2;go_ret;exact⟨rfl,rfl⟩
theorem aB7 (w:World) (F:Value) (b o c b' o' c':Nat) (x y:List Int) (hF:F=.func (.func 285) #[] #[]) (hb:b<w.heap.size) (hb':b'<w.heap.size)
  (hx:∀k,k<8->(0<=x.getD k 0/\x.getD k 0<=2000)/\w.cell? ⟨b,o+k,none⟩=some (.int .i64 (x.getD k 0)))
  (hy:∀k,k<8->(0<=y.getD k 0/\y.getD k 0<=2000)/\w.cell? ⟨b',o'+k,none⟩=some (.int .i64 (y.getD k 0))):
  Calls Tryz.prog 284 #[.slice (some ⟨b,o,none⟩) 8 c,.slice (some ⟨b',o',none⟩) 8 c',F] w fun e w'=>
   e=.returned (.slice (some ⟨w.heap.size,0,none⟩) 8 8)/\w'.ownsRow w.heap.size 3 1 (.slice (some ⟨w.heap.size,0,none⟩) 8 8) 8 (bM (fS x y))/\Below w.heap.size w w':=by
 have m8:=aId;have HX:=hd_ hx;have HY:=hd_ hy;subst hF;clear hx hy;go_enter Tryz.func284,Tryz.ntmps284;go_wp2;go_loopw [14] (fun i wr=>∃(m:Nat) (zs:List Int),m<=8/\i=.int .i64 m/\zs.length=8/\(∀p,p<8->zs.getD p 0=if p<m then x.getD p 0+y.getD p 0 else 0)/\
      wr.ownsRow w.heap.size 3 1 (.slice (some ⟨w.heap.size,0,none⟩) 8 8) 8 (bM zs)/\Below w.heap.size w wr/\w.heap.size<wr.heap.size) (fun i _=>8 - (intOf i).toNat)
 case atStart=>
  have h0:=rK w w.heap.size gD lr_ (by simp[gD,maxLen]);refine⟨0,gD,Nat.zero_le _,rfl,rfl,fun p hp=>?_,h0,(Below.refl _ _).alloc lr_ _,by simp⟩;rcases (by omega:p=0\/p=1\/p=2\/p=3\/p=4\/p=5\/p=6\/p=7)with rfl|rfl|rfl|rfl|rfl|rfl|rfl|rfl<;>rfl
 case round=>
  obtain⟨m,zs,hm,rfl,hl,hz,hown,hbl,hlt⟩:=hrel;have HL:=hd_ hl;have HZ:=hd_ hz;have HO:=hd_ hown;have HB:=hd_ hbl;clear hl hz hown hbl
  by_cases hmt:m<8
  ·obtain⟨⟨x0,x1⟩,xc⟩:=HX.out m hmt
   obtain⟨⟨y0,y1⟩,yc⟩:=HY.out m hmt;rw[<-HB.out.cell (p:=⟨b,o+m,none⟩) hb]at xc;rw[<-HB.out.cell (p:=⟨b',o'+m,none⟩) hb']at yc;obtain⟨v,hc⟩:∃v,wr.cell? ⟨w.heap.size,m,none⟩=some v:=by
    rw[HO.out.cellAt m (by omega)];exact⟨_,iQ _ _ (by rw[HL.out];exact hmt)⟩
   have hf:=HO.out.frozenAt m;obtain⟨a,hA⟩:∃a,a=x.getD m 0:=⟨_,rfl⟩
   obtain⟨d,hD⟩:∃a,a=y.getD m 0:=⟨_,rfl⟩
   rw[<-hA]at xc x0 x1;rw[<-hD]at yc y0 y1;have KP:Hid (∀W,Calls Tryz.prog 285 #[.int .i64 a,.int .i64 d] W fun e w'=>e=.returned (.int .i64 (a+d))/\Below W.heap.size W w'):=fun W=>
    (aKN a d W (by omega) (by omega)).mono fun _ _ ⟨he,hw⟩=>⟨he,by subst hw;exact Below.refl _ _⟩
   have hst:∀w4:World,Below wr.heap.size wr w4->∃zs',zs'.length=8/\(∀p,p<8->zs'.getD p 0=if p<m+1 then x.getD p 0+y.getD p 0 else 0)/\
     (w4.setCell ⟨w.heap.size,m,none⟩ (.int .i64 (a+d))).ownsRow w.heap.size 3 1 (.slice (some ⟨w.heap.size,0,none⟩) 8 8) 8 (bM zs'):=fun w4 hw4=>by
    have h1:=HO.out.kept (cE (row:=none) hw4) (.inr (by simp[Value.ownBlock]));have h2:=(h1.stored m (.int .i64 (a+d))).1;refine⟨zs.set m (a+d),by simpa using HL.out,fun p hp=>?_,by simpa[bM,List.map_set]using h2⟩
    by_cases e:p=m
    ·subst e
     rw[if_pos (by omega),hA,hD,List.getD_eq_getElem?_getD,List.getElem?_set_self (by rw[HL.out];exact hp)]
     rfl
    ·have e1:(zs.set m (a+d)).getD p 0=zs.getD p 0:=by simp[Ne.symm e]
     rw[e1,HZ.out p hp]
     by_cases e2:p<m
     ·rw[if_pos e2,if_pos (by omega)]
     ·rw[if_neg e2,if_neg (by omega)]
   have HST:=hd_ hst;have rb1:=cell_regrown xc;have rb2:=cell_regrown yc;have m0:(0:Int)<=(m:Int):=by omega
   have m8':(m:Int)<8:=by omega
   clear hst hA hD;go_wp2;refine jP (C:=fun w'=>∃p:Regrown,w'=grow (redrawn wr p.d) p.os) 13 _ rfl rfl rfl (by kernel_rfl) (by kernel_rfl) (by kernel_rfl) (by kernel_rfl) (by kernel_rfl) ⟨⟨wr.drawn+1,#[]⟩,by rw[grow_empty];rfl⟩ ?_;simp only[List.take_succ_cons,List.take_zero]
   repeat (refine dG (fun K hK=>?_);go_simp;first|(refine hK _ ?_;clear hK K)|(apply Exists.intro;refine⟨fun _=>?_,hK _ ?_⟩;(with_reducible exact Calls.regrown_of (KP.out _));clear hK K))
   refine eT ?_;intro _ hw';obtain⟨⟨dq,oq⟩,hw''⟩:=hw';subst hw'';have hb_w4:=below_regrown wr dq oq;obtain⟨w4,hq_w4⟩:∃x,x=grow (redrawn wr dq) oq:=⟨_,rfl⟩
   rw[<-hq_w4]at hb_w4 ⊢;clear hq_w4;have d1:=cell_later hb_w4 hc;have d2:w4.frozen? ⟨w.heap.size,m,none⟩=false:=by rw[hb_w4.frozen (p:=⟨w.heap.size,m,none⟩) hlt];exact hf
   have HB4:=hd_ hb_w4;clear hb_w4 rb1 rb2 hc xc yc;go_wp2;go_roundw
   case rel=>
    obtain⟨zs',q1,q2,q3⟩:=HST.out w4 HB4.out;exact⟨m+1,zs',by omega,by go_num,q1,q2,q3,(HB.out.trans (HB4.out.mono HB.out.size)).setCell lr_ _,by have:=HB4.out.size;simp;omega⟩
   case measure=>simp[intOf];omega
  ·obtain rfl:m=8:=by omega
   have fin:Hid (zs=fS x y):=by
    have:=fY (d:=0) HL.out (kQ x y) (fun p hp=>by rw[HZ.out p hp,if_pos hp,dP _ _ _ hp]);exact (of_decide_eq_true this:zs=fS x y)
   go_wp2;go_ret;have ho:=HO.out;rw[fin.out]at ho;exact⟨rfl,ho,HB.out⟩
theorem aAE (w:World) (b o c b' o' c':Nat) (x y:List Int) (hb:b<w.heap.size) (hb':b'<w.heap.size)
  (hx:∀k,k<8->(0<=x.getD k 0/\x.getD k 0<=2000)/\w.cell? ⟨b,o+k,none⟩=some (.int .i64 (x.getD k 0)))
  (hy:∀k,k<8->(0<=y.getD k 0/\y.getD k 0<=2000)/\w.cell? ⟨b',o'+k,none⟩=some (.int .i64 (y.getD k 0))):
  Calls Tryz.prog 248 #[.slice (some ⟨b,o,none⟩) 8 c,.slice (some ⟨b',o',none⟩) 8 c'] w fun e w'=>
   e=.returned (.slice (some ⟨w.heap.size,0,none⟩) 8 8)/\w'.ownsRow w.heap.size 3 1 (.slice (some ⟨w.heap.size,0,none⟩) 8 8) 8 (bM (fS x y))/\Below w.heap.size w w':=by
 have K:=hd_ (aB7 w _ b o c b' o' c' x y rfl hb hb' hx hy);clear hx hy;go_enter Tryz.func248,Tryz.ntmps248
 go_wp2_with fail
 refine K.out.mono ?_;rintro e w1 ⟨rfl,ho,hb1⟩;go_wp2;go_ret;exact⟨rfl,ho,hb1⟩
structure aAT (w:World) (L:Nat) (ra rb:List (List Int)) (m:Nat) (G:Nat->Nat):Prop where
 hdr:∃cur,w.heap[L]? =some (.cells cur 23 (0,0))/\cur.size=3/\∀j,j<m->cur[j]? =some (.slice (some ⟨G j,0,none⟩) 8 8)
 row:∀j,j<m->w.ownsRow (L+1) 3 1 (.slice (some ⟨G j,0,none⟩) 8 8) 8 (bM (fS (ra.getD j []) (rb.getD j [])))
 apart:∀i j,i<m->j<m->i≠j->G i≠G j
theorem aAT.own {w:World} {L:Nat} {ra rb:List (List Int)} {G:Nat->Nat} (h:aAT w L ra rb 3 G):cY w L (.slice (some ⟨L,0,none⟩) 3 3) (fT ra rb) G (fun _=>8):=by
 obtain⟨cur,h1,h2,h3⟩:=h.hdr;have l8:∀i,i<3->((fT ra rb).getD i []).length=8:=fun i hi=>by rw[lV _ _ _ hi,kQ]
 refine⟨⟨by simp[fT],.inr ⟨L,3,cur,rfl,Nat.le_refl _,h1,by simp[fT],by simp[maxLen],by simpa using h2,?_⟩⟩,fun i hi=>?_,fun i hi=>?_,fun i j hi hj=>h.apart i j hi hj⟩
 ·apply List.ext_getElem?
  intro i
  by_cases hi:i<3
  ·have e:mS (fT ra rb) G (fun _=>8) i=.slice (some ⟨G i,0,none⟩) 8 8:=by unfold mS;rw[l8 i hi]
   rw[List.getElem?_map,List.getElem?_range (by simpa[fT]using hi),List.getElem?_take,if_pos (by simp[fT];omega)];simp only[Array.getElem?_toList,Option.map_some,e];exact h3 i hi
  ·rw[List.getElem?_eq_none (by simp[fT];omega),List.getElem?_eq_none (by simp[fT];omega)]
 ·have hi':i<3:=by simpa[fT]using hi
  have e:mS (fT ra rb) G (fun _=>8) i=.slice (some ⟨G i,0,none⟩) 8 8:=by unfold mS;rw[l8 i hi']
  rw[e,l8 i hi',lV _ _ _ hi'];exact aR (h.row i hi') (by omega)
 ·have hi':i<3:=by simpa[fT]using hi
  have:=((h.row i hi').lt (G i) rfl).1;simp[Value.ownBlock];omega
theorem aAT.step {w w1:World} {L m g:Nat} {ra rb:List (List Int)} {G:Nat->Nat} (h:aAT w L ra rb m G) (hm:m<3) (hb:Below w.heap.size w w1) (hg:w.heap.size<=g) (hL:L<w.heap.size)
  (ho:w1.ownsRow (L+1) 3 1 (.slice (some ⟨g,0,none⟩) 8 8) 8 (bM (fS (ra.getD m []) (rb.getD m [])))):
  aAT (w1.setCell ⟨L,m,none⟩ (.slice (some ⟨g,0,none⟩) 8 8)) L ra rb (m+1) (fun j=>if j<m then G j else g):=by
 obtain⟨cur,h1,h2,h3⟩:=h.hdr;have h1':w1.heap[L]? =some (.cells cur 23 (0,0)):=by rw[hb.block L hL];exact h1
 have lt:∀j,j<m->G j<w.heap.size/\L+1<=G j:=fun j hj=>by have:=(h.row j hj).lt (G j) rfl;exact⟨this.2,this.1⟩
 have hgs:=aA w1 ⟨L,m,none⟩ (.slice (some ⟨g,0,none⟩) 8 8);refine⟨⟨_,heap_setCell_same w1 L m cur _ _ h1',by simpa using h2,fun j hj=>?_⟩,fun j hj=>?_,fun i j hi hj hij=>?_⟩
 ·rw[Array.getElem?_setIfInBounds]
  by_cases e:j<m
  ·rw[if_neg (by omega),if_pos e];exact h3 j e
  ·obtain rfl:j=m:=by omega
   rw[if_pos rfl,if_pos (by omega),if_neg (by omega)]
 ·by_cases e:j<m
  ·simp only[if_pos e]
   have:=(h.row j e).kept (cE (row:=none) hb) (.inr (by simp[Value.ownBlock]));exact this.kept hgs (.inr (by have:=(lt j e).2;simp[Value.ownBlock];omega))
  ·obtain rfl:j=m:=by omega
   simp only[if_neg e];exact ho.kept hgs (.inr (by simp[Value.ownBlock];omega))
 ·show (if i<m then G i else g)≠(if j<m then G j else g)
  by_cases e1:i<m<;>by_cases e2:j<m
  ·rw[if_pos e1,if_pos e2];exact h.apart i j e1 e2 hij
  ·rw[if_pos e1,if_neg e2];have:=(lt i e1).1;omega
  ·rw[if_neg e1,if_pos e2];have:=(lt j e2).1;omega
  ·omega
theorem aEs {w w':World} {b i:Nat} (hb:Below w.heap.size w.drew w') (h:w.frozen? ⟨b,i,none⟩=false) (hl:b<w.heap.size):w'.frozen? ⟨b,i,none⟩=false:=by
 rw[hb.frozen (p:=⟨b,i,none⟩) hl];exact h
theorem nQ {w w':World} {B:Nat} (hb:Below B w.drew w'):Below B w w':=⟨hb.os,hb.tape,hb.output,hb.size,hb.block⟩
theorem aAq (w:World) (F:Value) (b o c b' o' c':Nat) (ra rb:List (List Int)) (hF:F=.func (.func 248) #[] #[]) (hb:b<w.heap.size) (hb':b'<w.heap.size)
  (ha:∀i,i<3->∃bi oi ci,w.cell? ⟨b,o+i,none⟩=some (.slice (some ⟨bi,oi,none⟩) 8 ci)/\bi<w.heap.size/\∀k,k<8->w.cell? ⟨bi,oi+k,none⟩=some (.int .i64 ((ra.getD i []).getD k 0)))
  (hr:∀i,i<3->∃bi oi ci,w.cell? ⟨b',o'+i,none⟩=some (.slice (some ⟨bi,oi,none⟩) 8 ci)/\bi<w.heap.size/\∀k,k<8->w.cell? ⟨bi,oi+k,none⟩=some (.int .i64 ((rb.getD i []).getD k 0)))
  (ga:∀i,i<3->∀k,k<8->0<=(ra.getD i []).getD k 0/\(ra.getD i []).getD k 0<=2000) (gb:∀i,i<3->∀k,k<8->0<=(rb.getD i []).getD k 0/\(rb.getD i []).getD k 0<=2000):
  Calls Tryz.prog 247 #[.slice (some ⟨b,o,none⟩) 3 c,.slice (some ⟨b',o',none⟩) 3 c',F] w fun e w'=>
   ∃G,e=.returned (.slice (some ⟨w.heap.size,0,none⟩) 3 3)/\cY w' w.heap.size (.slice (some ⟨w.heap.size,0,none⟩) 3 3) (fT ra rb) G (fun _=>8)/\Below w.heap.size w w':=by
 have m3:=aLd;have HA:=hd_ ha;have HR:=hd_ hr;have GA:=hd_ ga;have GB:=hd_ gb;subst hF;clear ha hr ga gb;go_enter Tryz.func247,Tryz.ntmps247;go_wp2;go_loopw [14] (fun i wr=>∃(m:Nat) (G:Nat->Nat),m<=3/\i=.int .i64 m/\aAT wr w.heap.size ra rb m G/\Below w.heap.size w wr/\w.heap.size<wr.heap.size) (fun i _=>3 - (intOf i).toNat)
 case atStart=>
  exact⟨0,fun _=>0,Nat.zero_le _,rfl,⟨⟨_,heap_alloc_new w _,rfl,fun j h=>absurd h (Nat.not_lt_zero j)⟩,fun j h=>absurd h (Nat.not_lt_zero j),fun i j h=>absurd h (Nat.not_lt_zero i)⟩,(Below.refl _ _).alloc lr_ _,by simp⟩
 case round=>
  obtain⟨m,G,hm,rfl,hrow,hbl,hlt⟩:=hrel;have HW:=hd_ hrow;have HB:=hd_ hbl;clear hrow hbl
  by_cases hmt:m<3
  ·obtain⟨b1,o1,c1,e1,l1,r1⟩:=HA.out m hmt
   obtain⟨b2,o2,c2,e2,l2,r2⟩:=HR.out m hmt;rw[<-HB.out.cell (p:=⟨b,o+m,none⟩) hb]at e1;rw[<-HB.out.cell (p:=⟨b',o'+m,none⟩) hb']at e2;have KC:Hid (Calls Tryz.prog 248 #[.slice (some ⟨b1,o1,none⟩) 8 c1,.slice (some ⟨b2,o2,none⟩) 8 c2] wr.drew fun e w'=>
          e=.returned (.slice (some ⟨wr.heap.size,0,none⟩) 8 8)/\w'.ownsRow wr.heap.size 3 1 (.slice (some ⟨wr.heap.size,0,none⟩) 8 8) 8 (bM (fS (ra.getD m []) (rb.getD m [])))/\Below wr.heap.size wr.drew w'):=
    aAE wr.drew b1 o1 c1 b2 o2 c2 _ _ (by have:=HB.out.size;simp;omega) (by have:=HB.out.size;simp;omega)
     (fun k hk=>⟨GA.out m hmt k hk,by rw[World.cell?_drew,HB.out.cell (p:=⟨b1,o1+k,none⟩) l1];exact r1 k hk⟩)
     (fun k hk=>⟨GB.out m hmt k hk,by rw[World.cell?_drew,HB.out.cell (p:=⟨b2,o2+k,none⟩) l2];exact r2 k hk⟩)
   obtain⟨v,hc,hf⟩:∃v,wr.cell? ⟨w.heap.size,m,none⟩=some v/\wr.frozen? ⟨w.heap.size,m,none⟩=false:=by
    obtain⟨cur,h1,h2,_⟩:=HW.out.hdr;refine⟨cur[m]'(by omega),?_,by simp[World.frozen?,h1]⟩;simp[World.cell?,h1,show m<cur.size by omega]
   have m0:(0:Int)<=(m:Int):=by omega
   have m3':(m:Int)<3:=by omega
   clear r1 r2;go_wp2
   go_region_with (go_at_call 248;refine KC.out.mono ?_;rintro e w4 ⟨rfl,ho,hb4⟩;have d1:=cell_later (nQ hb4) hc;have d2:=aEs hb4 hf hlt;have HO4:=hd_ ho;have HB4:=hd_ hb4;clear ho hb4)
   all_goals
    have hs:=HW.out.step hmt (nQ HB4.out) lr_ hlt (aR HO4.out (by omega));have HS:=hd_ hs;clear hs;go_wp2;go_roundw
    case rel=>exact⟨m+1,_,by omega,by go_num,HS.out,(HB.out.trans ((nQ HB4.out).mono HB.out.size)).setCell lr_ _,by have:=HB4.out.size;simp at this ⊢;omega⟩
    case measure=>simp[intOf];omega
  ·obtain rfl:m=3:=by omega
   go_wp2;go_ret;exact⟨G,rfl,HW.out.own,HB.out⟩
theorem iD (w:World) (u:Value) (rs:List (List Int)) (h:Rws w u rs) (d:Nat) (os:Array Obj):
  Calls Tryz.prog 84 #[.agg #[u]] (grow (redrawn w d) os) fun e w''=>e=.returned (.int .i64 (cX rs))/\∃p:Regrown,w''=grow (redrawn w p.d) p.os:=
 Calls.regrown_of (qY _ u rs (h.below (below_regrown w d os) lr_))
theorem aBj (ra rb:List (List Int)):jY ra rb=true↔0<=cX ra/\0<=cX rb/\cX ra+cX rb<=2000:=by
 rw[lW]
 constructor
 ·rintro⟨h1,h2,h3⟩
  exact⟨(nH h1).1,(nH h2).1,h3⟩
 ·rintro⟨h1,h2,h3⟩
  refine⟨?_,?_,h3⟩
  ·cases h:okB ra with
   |true=>rfl
   |false=>rw[rJ h]at h1;omega
  ·cases h:okB rb with
   |true=>rfl
   |false=>rw[rJ h]at h2;omega
theorem aF4 (rs:List (List Int)): -1<=cX rs/\cX rs<=2000:=by
 cases h:okB rs with
 |true=>have:=nH h;omega
 |false=>rw[rJ h];omega
theorem aGC (w:World) (u v:Value) (ra rb:List (List Int)) (ha:Rws w u ra) (hb:Rws w v rb) (hno:jY ra rb=false):
  Calls Tryz.prog 195 #[.agg #[u],.agg #[v]] w fun e w'=>e=.returned (.tuple #[.agg #[.slice none 0 0],.bool false])/\Below w.heap.size w w':=by
 obtain⟨w0,hw0⟩:∃x,x=((w.alloc (.cells #[u] 36)).alloc (.cells #[v] 36)).alloc (.cells #[.slice none 0 0] 36):=⟨_,rfl⟩
 have hA:Below w.heap.size w w0:=by rw[hw0];exact (((Below.refl w.heap.size w).alloc lr_ _).alloc (by simp) _).alloc (by simp;omega) _
 have tb:=jN w (.cells #[u] 36) (.cells #[v] 36) (.cells #[.slice none 0 0] 36);rw[<-hw0]at tb;obtain⟨ca,_,la⟩:=eY tb.1;obtain⟨cb,_,lb⟩:=eY tb.2.1;obtain⟨cr,fr,lr⟩:=eY tb.2.2;have KA:=hd_ (iD w0 u ra (ha.below hA lr_));have KB:=hd_ (iD w0 v rb (hb.below hA lr_));have HA:=hd_ hA
 have hcase:cX ra<0\/(¬cX ra<0/\cX rb<0)\/(¬cX ra<0/\¬cX rb<0/\2000<cX ra+cX rb):=by
  apply Classical.byContradiction;intro hh;have:=(aBj ra rb).2 (by omega);rw[this]at hno;cases hno
 have b1:=aF4 ra;have b2:=aF4 rb;obtain⟨⟨x,c,hx⟩,_⟩:=ha.cases;obtain⟨⟨y,d,hy⟩,_⟩:=hb.cases;obtain⟨n,hn⟩:∃n,n=ra.length:=⟨_,rfl⟩
 obtain⟨m,hm⟩:∃n,n=rb.length:=⟨_,rfl⟩
 rw[<-hn]at hx;rw[<-hm]at hy;subst hx hy;generalize cX ra=Sa at *;generalize cX rb=Sb at *;clear ha hb hn hm hno hA tb;have ra':=cell_regrown ca;have rb':=cell_regrown cb;go_enter Tryz.func195,Tryz.ntmps195;go_wp2;rw[<-hw0];clear hw0;refine eO (by kernel_rfl) (by kernel_rfl) ?_
 repeat (refine dG (fun K hK=>?_);go_simp;first|(refine hK _ ?_;clear hK K)|(apply Exists.intro;refine⟨fun _=>?_,hK _ ?_⟩;(first|(with_reducible exact KA.out _ _)|(with_reducible exact KB.out _ _));clear hK K))
 refine eT ?_;intro _ hw';obtain⟨⟨dq,oq⟩,hw''⟩:=hw';subst hw'';have hb_w1:=below_regrown w0 dq oq;obtain⟨w1,hq_w1⟩:∃x,x=grow (redrawn w0 dq) oq:=⟨_,rfl⟩
 rw[<-hq_w1]at hb_w1 ⊢;clear hq_w1;have cr1:=cell_later hb_w1 cr;have fr1:w1.frozen? ⟨w.heap.size+2,0,none⟩=false:=by rw[hb_w1.frozen (p:=⟨w.heap.size+2,0,none⟩) lr];exact fr
 have L1:=hd_ (HA.out.trans (hb_w1.mono HA.out.size));clear hb_w1 ra' rb';have hr:=hd_ (World.cell?_setCell_same w1 ⟨w.heap.size+2,0,none⟩ (.slice none 0 0) cr1);rcases hcase with h|⟨h,h2⟩|⟨h,h2,h3⟩
 all_goals
  go_wp2;have hr:=hr.out;exact bodyPost_ret (v:=.tuple #[.agg #[.slice none 0 0],.bool false]) (by simp[results,Tryz.results195,go_sem,hr]) rfl ⟨rfl,L1.out.setCell (by simp;omega) _⟩
theorem aEv (w:World) (u v:Value) (ra rb:List (List Int)) (ha:Rws w u ra) (hb:Rws w v rb) (hyes:jY ra rb=true):
  Calls Tryz.prog 195 #[.agg #[u],.agg #[v]] w fun e w'=>∃x c G C,e=.returned (.tuple #[.agg #[.slice x 3 c],.bool true])/\cY w' w.heap.size (.slice x 3 c) (fT ra rb) G C/\Below w.heap.size w w':=by
 obtain⟨hoka,hokb,_⟩:=(lW ra rb).1 hyes;obtain⟨h1,h2,h3⟩:=(aBj ra rb).1 hyes;obtain⟨w0,hw0⟩:∃x,x=((w.alloc (.cells #[u] 36)).alloc (.cells #[v] 36)).alloc (.cells #[.slice none 0 0] 36):=⟨_,rfl⟩
 have hA:Below w.heap.size w w0:=by rw[hw0];exact (((Below.refl w.heap.size w).alloc lr_ _).alloc (by simp) _).alloc (by simp;omega) _
 have tb:=jN w (.cells #[u] 36) (.cells #[v] 36) (.cells #[.slice none 0 0] 36);rw[<-hw0]at tb;obtain⟨ca,_,la⟩:=eY tb.1;obtain⟨cb,_,lb⟩:=eY tb.2.1;obtain⟨cr,fr,lr⟩:=eY tb.2.2;have KA:=hd_ (iD w0 u ra (ha.below hA lr_));have KB:=hd_ (iD w0 v rb (hb.below hA lr_));have HA:=hd_ hA;obtain⟨_,hga⟩:=(fB ra).1 hoka
 obtain⟨_,hgb⟩:=(fB rb).1 hokb;obtain⟨ba,oa,ka,rfl,_,hba,hrowa⟩:=rY ha hoka;obtain⟨bb,ob,kb,rfl,_,hbb,hrowb⟩:=rY hb hokb;have GA:=hd_ (fun (i:Nat) (hi:i<3)=>(hga i hi).2.1);have GB:=hd_ (fun (i:Nat) (hi:i<3)=>(hgb i hi).2.1);have RA:=hd_ hrowa;have RB:=hd_ hrowb;have n1:¬cX ra<0:=by omega
 have n2:¬cX rb<0:=by omega
 have n3:¬ 2000<cX ra+cX rb:=by omega
 generalize cX ra=Sa at *;generalize cX rb=Sb at *;clear ha hb hyes hA tb hrowa hrowb hga hgb hoka hokb h1 h2 h3;have ra':=cell_regrown ca;have rb':=cell_regrown cb;go_enter Tryz.func195,Tryz.ntmps195;go_wp2;rw[<-hw0];clear hw0;refine eO (by kernel_rfl) (by kernel_rfl) ?_
 repeat (refine dG (fun K hK=>?_);go_simp;first|(refine hK _ ?_;clear hK K)|(apply Exists.intro;refine⟨fun _=>?_,hK _ ?_⟩;(first|(with_reducible exact KA.out _ _)|(with_reducible exact KB.out _ _));clear hK K))
 refine eT ?_;intro _ hw';obtain⟨⟨dq,oq⟩,hw''⟩:=hw';subst hw'';have hb_w1:=below_regrown w0 dq oq;obtain⟨w1,hq_w1⟩:∃x,x=grow (redrawn w0 dq) oq:=⟨_,rfl⟩
 rw[<-hq_w1]at hb_w1 ⊢;clear hq_w1;have ca1:=cell_later hb_w1 ca;have cb1:=cell_later hb_w1 cb;have cr1:=cell_later hb_w1 cr;have fr1:w1.frozen? ⟨w.heap.size+2,0,none⟩=false:=by rw[hb_w1.frozen (p:=⟨w.heap.size+2,0,none⟩) lr];exact fr
 have hL:=HA.out.trans (hb_w1.mono HA.out.size);have sz:=hb_w1.size;have KJ:=hd_ (aAq w1 _ ba oa ka bb ob kb ra rb rfl (by have:=hL.size;omega) (by have:=hL.size;omega)
    (fun i hi=>by
      obtain⟨bi,oi,ci,e,l,r⟩:=RA.out i hi
      exact⟨bi,oi,ci,by rw[hL.cell (p:=⟨ba,oa+i,none⟩) hba];exact e,Nat.lt_of_lt_of_le l hL.size,fun k hk=>by rw[hL.cell (p:=⟨bi,oi+k,none⟩) l];exact r k hk⟩)
    (fun i hi=>by
      obtain⟨bi,oi,ci,e,l,r⟩:=RB.out i hi
      exact⟨bi,oi,ci,by rw[hL.cell (p:=⟨bb,ob+i,none⟩) hbb];exact e,Nat.lt_of_lt_of_le l hL.size,fun k hk=>by rw[hL.cell (p:=⟨bi,oi+k,none⟩) l];exact r k hk⟩) GA.out GB.out)
 have L1:=hd_ hL;clear hb_w1 ra' rb' hL ca cb cr fr
 go_wp2_with fail
 refine KJ.out.mono ?_;rintro e w2 ⟨G,rfl,ho,hb2⟩;have cr2:=cell_later hb2 cr1;have fr2:w2.frozen? ⟨w.heap.size+2,0,none⟩=false:=by rw[hb2.frozen (p:=⟨w.heap.size+2,0,none⟩) (by simp;omega)];exact fr1
 have hw:=ho.grown (aA w2 ⟨w.heap.size+2,0,none⟩ (.slice (some ⟨w1.heap.size,0,none⟩) 3 3)) (fun k e=>by simp at e;omega);have H1:=hd_ hw;have L2:=hd_ (L1.out.trans (hb2.mono L1.out.size));clear ho hb2 hw;go_wp2;have hr:=World.cell?_setCell_same w2 ⟨w.heap.size+2,0,none⟩ (.slice (some ⟨w1.heap.size,0,none⟩) 3 3) cr2
 exact bodyPost_ret (v:=.tuple #[.agg #[.slice (some ⟨w1.heap.size,0,none⟩) 3 3],.bool true]) (by simp[results,Tryz.results195,go_sem,hr]) rfl
  ⟨_,_,G,_,rfl,H1.out.base L1.out.size,L2.out.setCell (by simp;omega) _⟩
def kM (t n:Int) (i:Nat):List Int:=gD.set (nA i t).toNat n
def uW (t n:Int):List (List Int):=[kM t n 0,kM t n 1,kM t n 2]
theorem oM (t n:Int) (i:Nat) (hi:i<3):(uW t n).getD i []=kM t n i:=by
 rcases (by omega:i=0\/i=1\/i=2)with rfl|rfl|rfl<;>rfl
theorem aFn (t n:Int) (i:Nat):(kM t n i).length=8:=by simp[kM,gD]
theorem aA5 (k:Nat):gD.getD k 0=0:=by
 by_cases h:k<8
 ·rcases (by omega:k=0\/k=1\/k=2\/k=3\/k=4\/k=5\/k=6\/k=7)with rfl|rfl|rfl|rfl|rfl|rfl|rfl|rfl<;>rfl
 ·rw[List.getD_eq_getElem?_getD,List.getElem?_eq_none (by simp[gD];omega)];rfl
theorem aFX (zs:List Int) (p k:Nat) (n:Int) (hp:p<zs.length):(zs.set p n).getD k 0=if k=p then n else zs.getD k 0:=by
 by_cases h:k=p
 ·subst h
  rw[if_pos rfl,List.getD_eq_getElem?_getD,List.getElem?_set_self hp];rfl
 ·rw[if_neg h]
  simp[Ne.symm h]
theorem aKf (p:Nat) (hp:p<8) (n:Int):(gD.set p n).sum=n:=by
 rcases (by omega:p=0\/p=1\/p=2\/p=3\/p=4\/p=5\/p=6\/p=7)with rfl|rfl|rfl|rfl|rfl|rfl|rfl|rfl<;>simp[gD]
theorem pW (t n:Int) (i:Nat):(kM t n i).sum=n:=by
 obtain⟨P,_,hP,e⟩:=kH i t;unfold kM;rw[e];exact aKf P hP n
theorem tG (t n:Int) (i k:Nat):(kM t n i).getD k 0=if k=(nA i t).toNat then n else 0:=by
 obtain⟨P,_,hP,e⟩:=kH i t;unfold kM;rw[e,aFX _ _ _ _ (by simpa[gD]using hP),aA5]
theorem aF0 (t n:Int) (h:0<=n/\n<=2000):okB (uW t n)=true:=by
 rw[fB];refine⟨rfl,fun i hi=>?_⟩;unfold aBT;rw[oM _ _ _ hi,oM _ _ 0 (by omega),pW,pW];refine⟨aFn _ _ _,fun k _=>?_,rfl,h.2⟩;rw[tG]
 split<;>omega
theorem aDp (t n:Int) (h:0<=n/\n<=2000):cX (uW t n)=n:=by
 rw[<-aAj (aF0 t n h),oM _ _ 0 (by omega),pW]
theorem aI8 (t n:Int) (h:n<0\/2000<n):okB (uW t n)=false:=by
 refine vU (.inr ⟨0,by omega,fun g=>?_⟩);have h1:=g.2.1;have h2:=g.2.2.2;rw[oM _ _ 0 (by omega)]at h1 h2;rw[pW]at h2;obtain⟨P,_,hP,e⟩:=kH (0:Nat) t;have h3:=h1 P hP;rw[tG,if_pos e.symm]at h3;omega
theorem aDS (rs:List (List Int)) (t n:Int) (h0:0<=t) (h1:t<64):jY rs (uW t n)=mW rs t n:=by
 rw[Bool.eq_iff_iff,lW,jH]
 by_cases h:0<=n/\n<=2000
 ·rw[aDp t n h,aF0 t n h]
  constructor
  ·rintro⟨a,_,b⟩;exact⟨a,h0,h1,h.1,by omega⟩
  ·rintro⟨a,_,_,_,b⟩;exact⟨a,rfl,by omega⟩
 ·rw[aI8 t n (by omega)]
  constructor
  ·rintro⟨_,b,_⟩;cases b
  ·rintro⟨a,_,_,b,c⟩;have:=nH a;omega
theorem vA (rs:List (List Int)) (t n:Int) (hok:okB rs=true):fT rs (uW t n)=tQ rs t n:=by
 obtain⟨_,hg⟩:=(fB rs).1 hok;refine zF rfl rfl fun i hi=>?_
 rw[lV _ _ _ hi,aDx _ _ _ _ hi,oM _ _ _ hi];obtain⟨P,_,hP,e⟩:=kH i t;have h8:=(hg i hi).1;refine of_decide_eq_true (fY (d:=0) (n:=8) (kQ _ _) (by simp only[pK,List.length_set];exact h8) fun k hk=>?_);rw[dP _ _ _ hk,tG];unfold pK atV;rw[e,aFX _ _ _ _ (by rw[h8];exact hP)]
 split
 ·rename_i h;subst h;rfl
 ·omega
theorem aHb (w:World) (u:Value) (x:Option Addr) (m c:Nat) (t n:Int) (hu:u=.slice x m c) (ht:t<0\/64<=t):
  Calls Tryz.prog 231 #[.agg #[u],.int .i64 t,.int .i64 n] w fun e w'=>e=.returned (.tuple #[.agg #[.slice none 0 0],.bool false])/\Below w.heap.size w w':=by
 subst hu;go_enter Tryz.func231,Tryz.ntmps231
 go_wp2_with (go_at_call 106;refine (mJ _ _ ht).mono ?_;rintro e w' ⟨rfl,rfl⟩)
 exact bodyPost_ret (v:=.tuple #[.agg #[.slice none 0 0],.bool false]) (by simp[results,Tryz.results231,go_sem]) rfl ⟨rfl,by
    first
    |exact (((Below.refl _ _).alloc lr_ _).alloc (by simp) _).setCell (by simp) _
    |exact ((Below.refl _ _).alloc lr_ _).alloc (by simp) _⟩
def aF1 (w:World) (ra rb:List (List Int)) (e:Ending) (w':World):Prop:=
 ∃x m c ok,e=.returned (.tuple #[.agg #[.slice x m c],.bool ok])/\ok=jY ra rb/\Below w.heap.size w w'/\(ok=false->x=none/\m=0/\c=0)/\(ok=true->m=3/\∃G C,cY w' w.heap.size (.slice x m c) (fT ra rb) G C)
theorem aBh (w:World) (u v:Value) (ra rb:List (List Int)) (ha:Rws w u ra) (hb:Rws w v rb):Calls Tryz.prog 195 #[.agg #[u],.agg #[v]] w (aF1 w ra rb):=by
 cases h:jY ra rb with
 |false=>exact (aGC w u v ra rb ha hb h).mono fun e w' ⟨he,hb⟩=>⟨none,0,0,false,he,h.symm,hb,fun _=>⟨rfl,rfl,rfl⟩,fun q=>by cases q⟩
 |true=>exact (aEv w u v ra rb ha hb h).mono fun e w' ⟨x,c,G,C,he,ho,hb⟩=>⟨x,3,c,true,he,h.symm,hb,fun q=>(by cases q),fun _=>⟨rfl,G,C,ho⟩⟩
theorem aEX (w:World) (u:Value) (rs:List (List Int)) (t n:Int) (h:Rws w u rs) (t0:0<=t) (t1:t<64):
  Calls Tryz.prog 231 #[.agg #[u],.int .i64 t,.int .i64 n] w fun e w'=>aF1 w rs (uW t n) e w':=by
 have HR:=hd_ h;obtain⟨⟨x,c,hx⟩,_⟩:=h.cases;obtain⟨m,hm⟩:∃n,n=rs.length:=⟨_,rfl⟩
 rw[<-hm]at hx;subst hx;clear hm h;go_enter Tryz.func231,Tryz.ntmps231
 go_wp2_with (go_at_call 106;refine (iZ _ _ t0 t1).mono ?_;rintro e w' ⟨rfl,rfl⟩)
 refine (zL _).mono ?_;rintro e w1 ⟨v,G,C,rfl,ho,hb1⟩;obtain⟨g,c',hu,hg1,hg2⟩:=World.ownsRow.form ho.hdr (show 0<jJ.length from by simp[jJ]);have h3:jJ.length=3:=rfl;rw[h3]at hu;subst hu;have sz:=hb1.size;simp only[World.size_alloc]at sz hg1
 have ca:=(cell_later hb1 (show ((w.alloc (.cells #[.slice x m c] 36)).alloc (.cells #[.slice none 0 0] 36)).cell? ⟨w.heap.size,0,none⟩=some (.slice x m c) by simp[go_sem]))
 have cr:=(cell_later hb1 (show ((w.alloc (.cells #[.slice x m c] 36)).alloc (.cells #[.slice none 0 0] 36)).cell? ⟨w.heap.size+1,0,none⟩=some (.slice none 0 0) by simp[go_sem]))
 have fr:w1.frozen? ⟨w.heap.size+1,0,none⟩=false:=by rw[hb1.frozen (p:=⟨w.heap.size+1,0,none⟩) (by simp)];simp[go_sem]
 have hL:=(((Below.refl w.heap.size w).alloc lr_ (.cells #[.slice x m c] 36)).alloc (by simp) (.cells #[.slice none 0 0] 36)).trans (hb1.mono (by simp;omega));have L:=hd_ hL;have HO1:=hd_ ho;clear ho hb1 hL h3;go_wp2;go_loopw [19] (fun i wr=>∃(k:Nat) (qs:List (List Int)),k<=3/\i=.int .i64 k/\qs.length=3/\(∀j,j<3->qs.getD j []=if j<k then kM t n j else gD)/\
      cY wr (w.heap.size+2) (.slice (some ⟨g,0,none⟩) 3 c') qs G C/\wr.cell? ⟨w1.heap.size,0,none⟩=some (.slice (some ⟨g,0,none⟩) 3 c')/\
      wr.cell? ⟨w.heap.size,0,none⟩=some (.slice x m c)/\
      wr.cell? ⟨w.heap.size+1,0,none⟩=some (.slice none 0 0)/\wr.frozen? ⟨w.heap.size+1,0,none⟩=false/\Below w.heap.size w wr/\w1.heap.size<wr.heap.size) (fun i _=>3 - (intOf i).toNat)
 case atStart=>
  have l1:w.heap.size+1<w1.heap.size:=by omega
  have l0:w.heap.size<w1.heap.size:=by omega
  refine⟨0,jJ,Nat.zero_le _,rfl,rfl,fun j hj=>?_,by simpa using HO1.out.below ((Below.refl _ _).alloc lr_ _) lr_,by simp,by rw[World.cell?_alloc_past _ _ _ l0];exact ca,by rw[World.cell?_alloc_past _ _ _ l1];exact cr,
      by rw[World.frozen?_alloc_past _ _ _ l1];exact fr,L.out.alloc L.out.size _,by simp⟩
  rcases (by omega:j=0\/j=1\/j=2)with rfl|rfl|rfl<;>rfl
 case round=>
  obtain⟨k,qs,hk,rfl,hq3,hqs,hown,hbox,hA,cR,fR,hbl,hlt2⟩:=hrel;have HQ3:=hd_ hq3;have HQ:=hd_ hqs;have HO:=hd_ hown;have HB:=hd_ hbl;clear hq3 hqs hown hbl ca cr fr
  by_cases hlt:k<3
  ·obtain⟨P,hP,hP8,hPn⟩:=kH (k:Int) t
   have hqk:qs.getD k []=gD:=by rw[HQ.out k hlt,if_neg (by omega)]
   have hz8:gD.length=8:=rfl;have hc1:=HO.out.hdrCell HQ3.out k hlt;rw[hqk,hz8]at hc1;obtain⟨hc2,hf2⟩:=HO.out.rowCell k P (by rw[HQ3.out];exact hlt) (by rw[hqk];exact hP8);rw[hqk,aA5]at hc2;have K1:Hid (∀W,Calls Tryz.prog 179 #[.int .i64 k,.int .i64 t] W fun e w'=>e=.returned (.int .i64 P)/\W=w'):=fun W=>by
    rw[<-hP];exact aAc k t W (by omega) (by omega) t0 t1
   have q:=HO.out.store k P n (by rw[HQ3.out];exact hlt) (by rw[hqk];exact hP8);have hst:∃qs',qs'.length=3/\(∀j,j<3->qs'.getD j []=if j<k+1 then kM t n j else gD)/\cY (wr.setCell ⟨G k,P,none⟩ (.int .i64 n)) (w.heap.size+2) (.slice (some ⟨g,0,none⟩) 3 c') qs' G C:=by
    refine⟨_,by simpa using HQ3.out,fun j hj=>?_,q.1⟩
    by_cases e:j=k
    ·subst e
     rw[if_pos (by omega)];unfold kM;rw[hPn,hqk];simp[HQ3.out,hlt]
    ·have e1:(qs.set k ((qs.getD k []).set P n)).getD j []=qs.getD j []:=by simp[Ne.symm e]
     rw[e1,HQ.out j hj]
     by_cases e2:j<k
     ·rw[if_pos e2,if_pos (by omega)]
     ·rw[if_neg e2,if_neg (by omega)]
   have HST:=hd_ hst;have HGk:Hid (w.heap.size+2<=G k/\G k<w1.heap.size):=⟨((HO.out.row k (by rw[HQ3.out];exact hlt)).lt (G k) rfl).1,((HO1.out.row k (show k<jJ.length from hlt)).lt (G k) rfl).2⟩
   have k0:(0:Int)<=(k:Int):=by omega
   have k3:(k:Int)<3:=by omega
   have P8:(P:Int)<8:=by omega
   clear hP hPn hst hqk hP8 q hz8
   go_wp2_with (go_at_call 179;refine (K1.out _).mono ?_;rintro e w' ⟨rfl,rfl⟩)
   go_roundw
   case rel=>
    obtain⟨qs',q1,q2,q3⟩:=HST.out;have e2:G k≠w1.heap.size:=by have:=HGk.out.2;omega
    have e1:G k≠w.heap.size+1:=by have:=HGk.out.1;omega
    have e0:G k≠w.heap.size:=by have:=HGk.out.1;omega
    refine⟨k+1,qs',by omega,by go_num,q1,q2,q3,?_,?_,?_,?_,?_,by simpa using hlt2⟩
    ·exact (World.cell?_setCell_other (h:=fun h=>by injection h with h;exact e2 h) ..).trans hbox
    ·exact (World.cell?_setCell_other (h:=fun h=>by injection h with h;exact e0 h) ..).trans hA
    ·exact (World.cell?_setCell_other (h:=fun h=>by injection h with h;exact e1 h) ..).trans cR
    ·rw[World.frozen?_setCell];exact fR
    ·exact HB.out.setCell (by have:=HGk.out.1;simp;omega) _
   case measure=>simp[intOf];omega
  ·have hq:qs=uW t n:=zF HQ3.out rfl (fun i hi=>by rw[HQ.out i hi,if_pos (by omega),oM _ _ _ hi])
   have ho:=HO.out;rw[hq]at ho;have KJ:=hd_ (aBh wr _ _ rs (uW t n) (HR.out.below HB.out lr_) ho.rws);clear hq ho
   go_wp2_with fail
   refine KJ.out.mono ?_;rintro e w3 ⟨z,p,d,ok,rfl,hok,hb3,hno,hyes⟩;have cR3:=cell_later hb3 cR;have fR3:w3.frozen? ⟨w.heap.size+1,0,none⟩=false:=by rw[hb3.frozen (p:=⟨w.heap.size+1,0,none⟩) (by simp;omega)];exact fR
   have hr:=hd_ (World.cell?_setCell_same w3 ⟨w.heap.size+1,0,none⟩ (.slice z p d) cR3);have hgs:=aA w3 ⟨w.heap.size+1,0,none⟩ (.slice z p d);have FIN:Hid (Below w.heap.size w (w3.setCell ⟨w.heap.size+1,0,none⟩ (.slice z p d))/\(ok=true->p=3/\∃G C,cY (w3.setCell ⟨w.heap.size+1,0,none⟩ (.slice z p d)) w.heap.size (.slice z p d) (fT rs (uW t n)) G C)):=
    ⟨(HB.out.trans (hb3.mono HB.out.size)).setCell (by simp) _,fun q=>by
          obtain⟨q1,G',C',q2⟩:=hyes q
          exact⟨q1,G',C',(q2.grown hgs (fun k e=>by simp at e;omega)).base HB.out.size⟩⟩
   have HOK:=hd_ hok;have HNO:=hd_ hno;clear hok hno hyes hb3 hgs;go_wp2;have hr:=hr.out;exact bodyPost_ret (v:=.tuple #[.agg #[.slice z p d],.bool ok]) (by simp[results,Tryz.results231,go_sem,hr]) rfl ⟨z,p,d,ok,rfl,HOK.out,FIN.out.1,HNO.out,FIN.out.2⟩
end Go.Proofs.YtcblbdpdbggkbaaGreat
namespace Go.Proofs.YtcblbdpdbggkbaaGreat
open Go.RowKit
theorem aLo {zs:List Int} (h:zs.length=8):zs.sum=zs.getD 0 0+zs.getD 1 0+zs.getD 2 0+zs.getD 3 0+zs.getD 4 0+zs.getD 5 0+zs.getD 6 0+zs.getD 7 0:=by
 match zs,h with
 | [a,b,c,d,e,f,g,i],_=>simp;omega
theorem aDN (x y:List Int) (hx:x.length=8) (hy:y.length=8):(fS x y).sum=x.sum+y.sum:=by
 rw[aLo hx,aLo hy,aLo (kQ x y)];rw[dP _ _ 0 (by omega),dP _ _ 1 (by omega),dP _ _ 2 (by omega),dP _ _ 3 (by omega),dP _ _ 4 (by omega),dP _ _ 5 (by omega),dP _ _ 6 (by omega),dP _ _ 7 (by omega)];omega
theorem aHW {rs:List (List Int)} (h3:rs.length=3) (h:∀i,i<3->mX (rs.getD i [])/\(rs.getD i []).sum=(rs.getD 0 []).sum):okB rs=true:=
 (fB rs).2 ⟨h3,fun i hi=>⟨(h i hi).1.1,(h i hi).1.bd.2.2,(h i hi).2,(h i hi).1.2.2⟩⟩
theorem nY {rs:List (List Int)} (h:okB rs=true) (i:Nat) (hi:i<3):mX (rs.getD i [])/\(rs.getD i []).sum=cX rs:=by
 obtain⟨_,hg⟩:=(fB rs).1 h;have g:=hg i hi;exact⟨⟨g.1,fun k hk=>(g.2.1 k hk).1,g.2.2.2⟩,g.2.2.1.trans (aAj h)⟩
theorem aJN {ra rb:List (List Int)} (h:jY ra rb=true):okB (fT ra rb)=true/\cX (fT ra rb)=cX ra+cX rb:=by
 obtain⟨ha,hb,hs⟩:=(lW ra rb).1 h;have aG1:∀i,i<3->((fT ra rb).getD i []).sum=cX ra+cX rb:=fun i hi=>by
  rw[lV _ _ _ hi,aDN _ _ (nY ha i hi).1.1 (nY hb i hi).1.1,(nY ha i hi).2,(nY hb i hi).2]
 have ok:okB (fT ra rb)=true:=aHW rfl fun i hi=>by
  refine⟨⟨by rw[lV _ _ _ hi];exact kQ _ _,fun k hk=>?_,by rw[aG1 i hi];exact hs⟩,by rw[aG1 i hi,aG1 0 (by omega)]⟩;rw[lV _ _ _ hi,dP _ _ _ hk];have:=(nY ha i hi).1.2.1 k hk;have:=(nY hb i hi).1.2.1 k hk;omega
 exact⟨ok,by rw[<-aAj ok,aG1 0 (by omega)]⟩
theorem aKo {rs:List (List Int)} {t n:Int} (h:mW rs t n=true):okB (tQ rs t n)=true/\cX (tQ rs t n)=cX rs+n:=by
 obtain⟨ok,t0,t1,n0,n1⟩:=(jH rs t n).1 h;have hj:=aDS rs t n t0 t1;rw[h]at hj;have:=aJN hj;have av:=nH ok;rw[vA rs t n ok,aDp t n (by omega)]at this;exact this
def aIB (w:World) (ok:Bool) (rs:List (List Int)) (e:Ending) (w':World):Prop:=
 ∃x m c,e=.returned (.tuple #[.agg #[.slice x m c],.bool ok])/\Below w.heap.size w w'/\(ok=false->x=none/\m=0/\c=0)/\(ok=true->m=3/\∃G C,cY w' w.heap.size (.slice x m c) rs G C)
theorem aEC (w:World) (u v:Value) (ra rb:List (List Int)) (ha:Rws w u ra) (hb:Rws w v rb):Calls Tryz.prog 195 #[.agg #[u],.agg #[v]] w (aIB w (jY ra rb) (fT ra rb)):=
 (aBh w u v ra rb ha hb).mono fun e w' ⟨x,m,c,ok,he,hok,hb,h0,h1⟩=>by subst hok;exact⟨x,m,c,he,hb,h0,h1⟩
theorem aGL (w:World) (u:Value) (rs:List (List Int)) (t n:Int) (h:Rws w u rs):Calls Tryz.prog 310 #[.agg #[u],.int .i64 t,.int .i64 n] w (aIB w (mW rs t n) (tQ rs t n)):=by
 cases q:mW rs t n with
 |false=>exact (aJA w u rs t n h q).mono fun e w' ⟨he,hb⟩=>⟨none,0,0,he,hb,fun _=>⟨rfl,rfl,rfl⟩,fun q=>by cases q⟩
 |true=>exact (aGz w u rs t n h q).mono fun e w' ⟨x,c,G,C,he,ho,hb⟩=>⟨x,3,c,he,hb,fun q=>(by cases q),fun _=>⟨rfl,G,C,ho⟩⟩
theorem aHp (w:World) (u:Value) (rs:List (List Int)) (t n:Int) (h:Rws w u rs):Calls Tryz.prog 231 #[.agg #[u],.int .i64 t,.int .i64 n] w (aIB w (mW rs t n) (tQ rs t n)):=by
 by_cases ht:t<0\/64<=t
 ·have hno:mW rs t n=false:=by
   cases q:mW rs t n with
   |false=>rfl
   |true=>have:=(jH rs t n).1 q;omega
  obtain⟨⟨x,c,hx⟩,_⟩:=h.cases;rw[hno];exact (aHb w u x _ c t n hx ht).mono fun e w' ⟨he,hb⟩=>⟨none,0,0,he,hb,fun _=>⟨rfl,rfl,rfl⟩,fun q=>by cases q⟩
 ·have t0:0<=t:=by omega
  have t1:t<64:=by omega
  refine (aEX w u rs t n h t0 t1).mono fun e w' ⟨x,m,c,ok,he,hok,hb,h0,h1⟩=>?_
  rw[aDS rs t n t0 t1]at hok;subst hok;refine⟨x,m,c,he,hb,h0,fun q=>?_⟩;obtain⟨hm,G,C,ho⟩:=h1 q;rw[vA rs t n ((jH rs t n).1 q).1]at ho;exact⟨hm,G,C,ho⟩
def aHh (ok:Bool) (rs:List (List Int)):List (List Int):=if ok=true then rs else []
end Go.Proofs.YtcblbdpdbggkbaaGreat
set_option linter.unusedVariables false
namespace Go.Proofs.YtcblbdpdbggkbaaGreat
open Go.RowKit Go.Sort
end Go.Proofs.YtcblbdpdbggkbaaGreat
namespace Go.Proofs.YtcblbdpdbggkbaaGreat
open Go.RowKit
theorem aHn {rs:List (List Int)} {t n:Int} (h:mW rs t n=true):tQ rs t n=fT rs (uW t n):=(vA rs t n ((jH rs t n).1 h).1).symm
end Go.Proofs.YtcblbdpdbggkbaaGreat
set_option linter.unusedVariables false
namespace Go.Proofs.YtcblbdpdbggkbaaGreat
open Go.RowKit Go.Sort
def fU (t:Int):Int:=if 0<=t/\t<64 then (37 * t+11) % 64 else -1
theorem vM {t:Int} (h0:0<=t) (h1:t<64):fU t=(37 * t+11) % 64:=if_pos ⟨h0,h1⟩
theorem zG {t:Int} (h:t<0\/64<=t):fU t= -1:=if_neg (by omega)
theorem aIf {t:Int} (h0:0<=t) (h1:t<64):0<=fU t/\fU t<64:=by rw[vM h0 h1];omega
theorem aG2 (t:Int) (w:World):Calls Tryz.prog 176 #[.int .i64 t] w fun e w'=>e=.returned (.int .i64 (fU t))/\w=w':=by
 by_cases h:t<0\/64<=t
 ·rw[zG h]
  go_enter Tryz.func176,Tryz.ntmps176
  go_wp2_with (go_at_call 106;refine (mJ _ _ h).mono ?_;rintro e w' ⟨rfl,rfl⟩)
  go_ret;exact⟨rfl,rfl⟩
 ·have h0:0<=t:=by omega
  have h1:t<64:=by omega
  rw[vM h0 h1];clear h;go_enter Tryz.func176,Tryz.ntmps176
  go_wp2_with (go_at_call 106;refine (iZ _ _ h0 h1).mono ?_;rintro e w' ⟨rfl,rfl⟩)
  go_ret;exact⟨iE (by first|rfl|(simp;omega)|omega),rfl⟩
theorem aHA (t:Int) (w:World):Calls Tryz.prog 321 #[.int .i64 t] w fun e w'=>e=.returned (.int .i64 (fU t))/\w=w':=by
 by_cases h:t<0\/63<t
 ·rw[zG (by omega)]
  go_enter Tryz.func321,Tryz.ntmps321
  go_wp2_with (go_at_call 66;refine (fL _ _ _ _ h).mono ?_;rintro e w' ⟨rfl,rfl⟩)
  go_ret;exact⟨rfl,rfl⟩
 ·have h0:0<=t:=by omega
  have h1:t<64:=by omega
  have h2:t<=63:=by omega
  rw[vM h0 h1];clear h;go_enter Tryz.func321,Tryz.ntmps321
  go_wp2_with (go_at_call 66;refine (aN _ _ _ _ h0 h2).mono ?_;rintro e w' ⟨rfl,rfl⟩)
  go_ret;exact⟨iE (by first|rfl|(simp;omega)|omega),rfl⟩
def vD (zs:List Int) (i:Nat):Prop:=(0<=zs.getD i 0/\zs.getD i 0<=63)/\(0<i->zs.getD (i - 1) 0<zs.getD i 0)
instance (zs:List Int) (i:Nat):Decidable (vD zs i):=by unfold vD;infer_instance
def aJ7 (zs:List Int):Prop:=zs.length<=6/\∀i,i<zs.length->vD zs i
instance (zs:List Int):Decidable (aJ7 zs):=by unfold aJ7;infer_instance
def eK (zs:List Int):Bool:=decide (aJ7 zs)
def jF (zs:List Int) (k:Nat):Int:=if k=0 then -1 else zs.getD (k - 1) 0
theorem yQ (zs:List Int):eK zs=true↔aJ7 zs:=by simp[eK]
theorem aBa {zs:List Int} (h:6<zs.length):eK zs=false:=by simp only[eK,decide_eq_false_iff_not];exact fun q=>by have:=q.1;omega
theorem tT {zs:List Int} {i:Nat} (hi:i<zs.length) (h:¬vD zs i):eK zs=false:=by simp only[eK,decide_eq_false_iff_not];exact fun q=>h (q.2 i hi)
theorem vQ {zs:List Int} (hl:zs.length<=6) (h:∀i,i<zs.length->vD zs i):eK zs=true:=(yQ zs).2 ⟨hl,h⟩
theorem aH3 {zs:List Int} {k:Nat} (h:∀i,i<k->vD zs i): -1<=jF zs k/\jF zs k<=63:=by
 unfold jF
 split
 ·omega
 ·have:=(h (k - 1) (by omega)).1;omega
theorem aI9 {zs:List Int} {k:Nat} (h:∀i,i<k->vD zs i):vD zs k↔jF zs k<zs.getD k 0/\zs.getD k 0<64:=by
 have hb:=aH3 h;unfold vD;unfold jF at hb ⊢
 split
 ·subst_vars;simp;omega
 ·have:0<k:=by omega
  simp only[this,true_implies];rw[if_neg (by omega)]at hb;omega
theorem aCO (b o c n:Nat) (zs:List Int) (w:World) (hl:zs.length=n) (hn:n<=6) (hb:b<w.heap.size) (hc:∀i,i<n->w.cell? ⟨b,o+i,none⟩=some (.int .i64 (zs.getD i 0))):
  Calls Tryz.prog 175 #[.agg #[.slice (some ⟨b,o,none⟩) n c]] w fun e w'=>e=.returned (.bool (eK zs))/\Below w.heap.size w w':=by
 have hA:=(Below.refl w.heap.size w).alloc lr_ (.cells #[.slice (some ⟨b,o,none⟩) n c] 38);have HC:Hid (∀i,i<n->(w.alloc (.cells #[.slice (some ⟨b,o,none⟩) n c] 38)).cell? ⟨b,o+i,none⟩=some (.int .i64 (zs.getD i 0))):=fun i hi=>by
  rw[hA.cell (p:=⟨b,o+i,none⟩) hb];exact hc i hi
 have HL:=hd_ hl;have HA:=hd_ hA;have hn':¬(6:Int)<(n:Int):=by omega
 clear hc hl hA;go_enter Tryz.func175,Tryz.ntmps175;go_wp2
 go_loop [3,13] (fun q i=>∃k:Nat,k<=n/\i=.int .i64 k/\q=.int .i64 (jF zs k)/\∀i,i<k->vD zs i) (fun _ i=>n - (intOf i).toNat)
 case atStart=>exact⟨0,Nat.zero_le _,rfl,rfl,fun _ h=>absurd h (Nat.not_lt_zero _)⟩
 case round=>
  obtain⟨k,hk,rfl,rfl,hg⟩:=hrel;have G:=hd_ hg;have I:=hd_ (aI9 hg)
  by_cases hlt:k<n
  ·have h1:=HC.out k hlt
   have hs:Hid (jF zs (k+1)=zs.getD k 0):=by show (if k+1=0 then _ else _)=_;rw[if_neg (by omega)];rfl
   generalize zs.getD k 0=x at h1 I hs;generalize jF zs k=L at I ⊢;clear hg
   by_cases hx:x<=L
   ·have bad:Hid (eK zs=false):=tT (by rw[HL.out];exact hlt) (fun q=>by have:=(I.out.1 q).1;omega)
    go_wp2;go_ret;exact⟨aL bad.out.symm,HA.out⟩
   by_cases hy:64<=x
   ·have bad:Hid (eK zs=false):=tT (by rw[HL.out];exact hlt) (fun q=>by have:=(I.out.1 q).2;omega)
    go_wp2;go_ret;exact⟨aL bad.out.symm,HA.out⟩
   ·go_wp2
    go_round
    case rel=>exact⟨k+1,by omega,by go_num,by rw[hs.out],fun i hi=>by
          by_cases h:i<k
          · exact G.out i h
          · obtain rfl:i=k:=by omega
            exact I.out.2 (by omega)⟩
    case measure=>simp[intOf];omega
  ·have good:Hid (eK zs=true):=vQ (by rw[HL.out];exact hn) (fun i hi=>G.out i (by rw[HL.out]at hi;omega))
   go_wp2;go_ret;exact⟨aL good.out.symm,HA.out⟩
theorem mC (w:World) (u:Value) (zs:List Int) (h:cW w u zs):
  Calls Tryz.prog 175 #[.agg #[u]] w fun e w'=>e=.returned (.bool (eK zs))/\Below w.heap.size w w':=by
 obtain⟨⟨x,c,hx⟩,_⟩:=h.cases
 by_cases hn:6<zs.length
 ·rw[aBa hn]
  obtain⟨n,hn'⟩:∃n,n=zs.length:=⟨_,rfl⟩
  rw[<-hn']at hx hn;subst hx;have h6:(6:Int)<(n:Int):=by omega
  clear h hn' hn;go_enter Tryz.func175,Tryz.ntmps175;go_wp2;go_ret;exact⟨rfl,(Below.refl _ _).alloc lr_ _⟩
 rcases h with ⟨rfl,rfl⟩|⟨b,o,cap,rfl,_,_,hb,hc⟩
 ·have e:eK []=true:=by decide
  rw[e];go_enter Tryz.func175,Tryz.ntmps175;go_wp2;refine wp_loop_rounds 1 ?_;rw[rounds_succ];go_wp2;go_ret;exact⟨rfl,(Below.refl _ _).alloc lr_ _⟩
 ·exact aCO b o cap _ zs w rfl (by omega) hb hc
theorem aCw (b o c n:Nat) (zs:List Int) (w:World) (hl:zs.length=n) (hn:n<=maxLen) (hb:b<w.heap.size) (hc:∀i,i<n->w.cell? ⟨b,o+i,none⟩=some (.int .i64 (zs.getD i 0))):
  Calls Tryz.prog 220 #[.agg #[.slice (some ⟨b,o,none⟩) n c]] w fun e w'=>e=.returned (.bool (eK zs))/\Below w.heap.size w w':=by
 unfold maxLen at hn;have HC:=hd_ hc;have HL:=hd_ hl;clear hc hl;go_enter Tryz.func220,Tryz.ntmps220;go_wp2;go_loopw [3] (fun i wr=>∃k:Nat,k<=n/\i=.int .i64 k/\(∀i,i<k->vD zs i)/\Below w.heap.size w wr/\wr.cell? ⟨w.heap.size,0,none⟩=some (.slice (some ⟨b,o,none⟩) n c)) (fun i _=>n - (intOf i).toNat)
 case atStart=>exact⟨0,Nat.zero_le _,rfl,fun _ h=>absurd h (Nat.not_lt_zero _),(Below.refl _ _).alloc lr_ _,by simp⟩
 case round=>
  obtain⟨k,hk,rfl,hg,hbl,hbox⟩:=hrel;have G:=hd_ hg;have HB:=hd_ hbl;clear hg hbl
  by_cases hlt:k<n
  ·have h1:=HC.out k hlt
   rw[<-HB.out.cell (p:=⟨b,o+k,none⟩) hb]at h1;obtain⟨x,hx⟩:∃x,zs.getD k 0=x:=⟨_,rfl⟩
   rw[hx]at h1;have HX:=hd_ hx;clear hx;have k0:(0:Int)<=(k:Int):=by omega
   have kn:(k:Int)<(n:Int):=by omega
   by_cases hr:x<0\/63<x
   ·have bad:Hid (eK zs=false):=tT (by rw[HL.out];exact hlt) (fun q=>by have:=q.1;rw[HX.out]at this;omega)
    go_wp2
    go_quiet (with_reducible exact aH (fL _ _ _ _ hr))
    go_wp2;go_ret;exact⟨aL bad.out.symm,below_drewN HB.out _⟩
   have x0:0<=x:=by omega
   have x1:x<=63:=by omega
   rcases Nat.eq_zero_or_pos k with h0|h0
   ·subst h0
    have good:Hid (vD zs 0):=⟨by rw[HX.out];exact⟨x0,x1⟩,fun h=>absurd h (Nat.lt_irrefl _)⟩
    have h1':wr.cell? ⟨b,o,none⟩=some (.int .i64 x):=h1;have z0:(0:Int)<(n:Int):=by omega
    go_wp2
    go_quiet (with_reducible exact aH (aN _ _ _ _ x0 x1))
    go_wp2;go_roundw
    case rel=>exact⟨1,by omega,by go_num,fun i hi=>by
          obtain rfl:i=0:=by omega
          exact good.out,below_drewN HB.out _,by simpa using hbox⟩
    case measure=>simp[intOf];omega
   ·obtain⟨j,rfl⟩:∃j,k=j+1:=⟨k - 1,by omega⟩
    have h2:=HC.out j (by omega);rw[<-HB.out.cell (p:=⟨b,o+j,none⟩) hb]at h2;obtain⟨y,hy'⟩:∃y,zs.getD j 0=y:=⟨_,rfl⟩
    rw[hy']at h2;have HY:=hd_ hy';clear hy';have p0:(0:Int)<((j+1:Nat):Int):=by omega
    have e1:((j+1:Nat):Int) - 1=(j:Int):=by omega
    have j0:(0:Int)<=(j:Int):=by omega
    have jn:(j:Int)<(n:Int):=by omega
    by_cases hyx:x<=y
    ·have bad:Hid (eK zs=false):=tT (by rw[HL.out];exact hlt) (fun q=>by have:=q.2 h0;rw[HX.out,Nat.add_sub_cancel,HY.out]at this;omega)
     have hd:decide (x<=y)=true:=decide_eq_true hyx;go_wp2
     go_quiet (with_reducible exact aH (aN _ _ _ _ x0 x1))
     go_wp2;go_ret;exact⟨aL bad.out.symm,below_drewN HB.out _⟩
    ·have good:Hid (vD zs (j+1)):=⟨by rw[HX.out];exact⟨x0,x1⟩,fun _=>by rw[Nat.add_sub_cancel,HX.out,HY.out];omega⟩
     have hd:decide (x<=y)=false:=decide_eq_false hyx;go_wp2
     go_quiet (with_reducible exact aH (aN _ _ _ _ x0 x1))
     go_wp2;go_roundw
     case rel=>exact⟨j+1+1,by omega,by go_num,fun i hi=>by
            by_cases h:i<j+1
            · exact G.out i h
            · obtain rfl:i=j+1:=by omega
              exact good.out,below_drewN HB.out _,by simpa using hbox⟩
     case measure=>simp[intOf];omega
  ·by_cases h6:n<=6
   ·have good:Hid (eK zs=true):=vQ (by rw[HL.out];exact h6) (fun i hi=>G.out i (by rw[HL.out]at hi;omega))
    have h6':(n:Int)<=6:=by omega
    go_wp2;go_ret;exact⟨aL (by first|(rw[good.out];done)|(rw[good.out];simp;omega)),HB.out⟩
   ·have bad:Hid (eK zs=false):=aBa (by rw[HL.out];omega)
    go_wp2;go_ret;exact⟨aL (by first|(rw[bad.out];done)|(rw[bad.out];simp;omega)),HB.out⟩
theorem sO (w:World) (u:Value) (zs:List Int) (h:cW w u zs):
  Calls Tryz.prog 220 #[.agg #[u]] w fun e w'=>e=.returned (.bool (eK zs))/\Below w.heap.size w w':=by
 rcases h with ⟨rfl,rfl⟩|⟨b,o,cap,rfl,h1,h2,hb,hc⟩
 ·have e:eK []=true:=by decide
  rw[e];go_enter Tryz.func220,Tryz.ntmps220;go_wp2;refine wp_loop_rounds 1 ?_;rw[rounds_succ];go_wp2;go_ret;exact⟨rfl,(Below.refl _ _).alloc lr_ _⟩
 ·exact aCw b o cap _ zs w rfl (by omega) hb hc
theorem gU {zs:List Int} (h:eK zs=true):zs.length<=6/\(∀i,i<zs.length->0<=zs.getD i 0/\zs.getD i 0<=63)/\∀i,i+1<zs.length->zs.getD i 0<zs.getD (i+1) 0:=by
 obtain⟨h1,h2⟩:=(yQ zs).1 h;refine⟨h1,fun i hi=>(h2 i hi).1,fun i hi=>?_⟩;have:=(h2 (i+1) hi).2 (by omega);rwa[Nat.add_sub_cancel]at this
def iM (t:Int):Bool:=decide (0<=t/\t<64)
theorem aKs {zs:List Int} {x:Int}:x ∈ zs↔∃i,i<zs.length/\zs.getD i 0=x:=by
 constructor
 ·intro h
  obtain⟨i,hi,rfl⟩:=List.getElem_of_mem h;exact⟨i,hi,by simp[hi]⟩
 ·rintro⟨i,hi,rfl⟩
  exact kO zs i 0 hi
theorem tL (t:Int):iM t=true↔0<=t/\t<64:=by simp[iM]
theorem wH (t:Int):iM t=false↔t<0\/64<=t:=by simp[iM];omega
theorem uE:(Tryz.prog.info? 3).map (fun i=>(i.zero,i.size,i.bytes))=some (some (.int .i64 0),1,8):=by kernel_rfl
theorem aA8 (w:World) (B:Nat) (hB:B<=w.heap.size):(w.alloc (.cells #[] 3)).ownsRow B 3 1 (.slice (some ⟨w.heap.size,0,none⟩) 0 0) 0 []:=
 World.ownsRow_lit (base:=B) (e:=3) (size:=1) w #[] 0 hB (by simp[maxLen]) (by simp)
def bG (w:World) (B:Nat) (v:Value) (zs:List Int):Prop:=w.ownsRow B 3 1 v zs.length (bM zs)
theorem bG.rd {w:World} {B:Nat} {v:Value} {zs:List Int} (h:bG w B v zs):cW w v zs:=aA4 h
theorem bG.base {w:World} {B B':Nat} {v:Value} {zs:List Int} (h:bG w B v zs) (hB:B'<=B):bG w B' v zs:=aR h hB
theorem bG.kept {w w':World} {B:Nat} {v:Value} {zs:List Int} {row:Option Nat} (h:bG w B v zs) (hg:w.grownBy w' row) (hr:∀k,row=some k->k<B):bG w' B v zs:=by
 refine World.ownsRow.kept h hg ?_;cases hv:v.ownBlock with
 |none=>exact .inl rfl
 |some k=>exact .inr (fun e=>by have:=(World.ownsRow.lt h k hv).1;have:=hr k e.symm;omega)
theorem bG.alloc {w:World} {B:Nat} {v:Value} {zs:List Int} (h:bG w B v zs) (o:Obj):bG (w.alloc o) B v zs:=World.ownsRow.alloc h o
theorem bG.nil (w:World) (B:Nat):bG w B (.slice none 0 0) []:=World.ownsRow_nil w B _ 1
theorem bG.form {w:World} {B:Nat} {v:Value} {zs:List Int} (h:bG w B v zs):∃x c,v=.slice x zs.length c:=h.rd.cases.1
theorem vF (zs:List Int) (x:Int):bM (zs++[x])=bM zs++[.int .i64 x]:=by simp[bM]
theorem bG.take {w:World} {B n c:Nat} {x:Option Addr} {zs:List Int} (h:bG w B (.slice x n c) zs) (k:Nat) (hk:k<=zs.length):bG w B (.slice x k c) (zs.take k):=by
 have hl:(zs.take k).length=k:=by simp;omega
 have hi:bM (zs.take k)=(bM zs).take k:=by simp[bM,List.map_take]
 obtain⟨h1,h2⟩:=h;refine⟨by rw[qV];simp,?_⟩;rw[hl];rcases h2 with ⟨e,h0⟩|⟨g,cap,cur,e,hb,hh,hn,hm,hs,ht⟩
 ·refine .inl ⟨?_,by omega⟩
  obtain⟨rfl,rfl,rfl⟩:=Value.slice.inj e;obtain rfl:k=0:=by omega
  rfl
 ·obtain⟨rfl,rfl,rfl⟩:=Value.slice.inj e
  refine .inr ⟨g,c,cur,rfl,hb,hh,by omega,hm,hs,?_⟩;rw[hi, <-ht,List.take_take]
  congr 1
  omega
def nP (m:Int):List Int->Bool->List Int
 | [],d=>if d then []else [m]
 |x::xs,d=>(if !d&&decide (m<=x)then [m]else [])++((if x=m then []else [x])++nP m xs (d || decide (m<=x)))
def nS (zs:List Int) (m:Int):List Int:=(nP m zs false).take 6
theorem aHo {zs:List Int} {k:Nat} (h:k<zs.length):zs.drop k=zs.getD k 0::zs.drop (k+1):=by
 rw[List.drop_eq_getElem_cons h];simp[h]
theorem aLM (m:Int) (rest:List Int):nP m (m::rest) false=[m]++nP m rest true:=by
 show (if _ then _ else _)++((if _ then _ else _)++nP m rest _)=_
 simp
theorem aL2 {m y:Int} (rest:List Int) (h:m<=y) (h':y≠m):nP m (y::rest) false=[m]++([y]++nP m rest true):=by
 show (if _ then _ else _)++((if _ then _ else _)++nP m rest _)=_
 simp[h,h']
theorem aL7 (m:Int) (rest:List Int):nP m (m::rest) true=nP m rest true:=by
 show (if _ then _ else _)++((if _ then _ else _)++nP m rest _)=_
 simp
theorem aKQ {m y:Int} {d:Bool} (rest:List Int) (h:d=true\/y<m) (h':y≠m):nP m (y::rest) d=[y]++nP m rest d:=by
 show (if _ then _ else _)++((if _ then _ else _)++nP m rest _)=_
 rcases h with h|h
 ·simp[h,h']
 ·have:¬m<=y:=by omega
  simp[this,h']
theorem kT {w:World} {B no:Nat} {v:Value} {os:List Int} {m:Int} (h:w.ownsRow B 3 1 v (no+1) (bM os++[.int .i64 m])) (hn:no=os.length):bG w B v (os++[m]):=by
 unfold bG;rw[vF,List.length_append, <-hn];exact h
theorem fG {w wr w':World} {o:Obj} {e:TypeId} {v:Value} {n:Nat} {xs:List Value} (hb:Below w.heap.size w wr) (ho:wr.ownsRow w.heap.size e 1 v n xs) (hg:(wr.alloc o).grownBy w' v.ownBlock):Below w.heap.size w w':=
 (hb.alloc hb.size o).grown hg (Nat.le_trans hb.size (by simp)) (fun k e=>(ho.lt k e).1)
theorem xH {w:World} {B n c:Nat} {e:TypeId} {x:Option Addr} {xs:List Value} (h:w.ownsRow B e 1 (.slice x n c) n xs):n<=c/\c<=maxLen:=by
 rcases h.2 with ⟨e,h0⟩|⟨g,cap,cur,e,hb,hh,hn,hm,hs,ht⟩
 ·obtain⟨_,h1,h2⟩:=Value.slice.inj e
  subst h1 h2;exact⟨Nat.le_refl _,Nat.zero_le _⟩
 ·obtain⟨_,_,h2⟩:=Value.slice.inj e
  subst h2;exact⟨hn,hm⟩
theorem nB {w wr w':World} {o:Obj} {e:TypeId} {v u:Value} {n:Nat} {xs:List Value} {a:Addr} (hc:wr.cell? a=some u) (ha:a.block<w.heap.size) (ho:wr.ownsRow w.heap.size e 1 v n xs) (hg:(wr.alloc o).grownBy w' v.ownBlock):w'.cell? a=some u:=
 hg.cell ((World.cell?_alloc_lt (h:=World.block_lt_of_cell? _ _ hc) ..).trans hc) (fun h=>by have:=(ho.lt _ h.symm).1;omega)
theorem aFR (w:World) (b o c n:Nat) (zs:List Int) (m:Int) (hl:zs.length=n) (hn:n<=100) (hb:b<w.heap.size) (hc:∀i,i<n->w.cell? ⟨b,o+i,none⟩=some (.int .i64 (zs.getD i 0))):
  Calls Tryz.prog 225 #[.slice (some ⟨b,o,none⟩) n c,.int .i64 m] w fun e w'=>∃v,e=.returned v/\bG w' w.heap.size v (nS zs m)/\Below w.heap.size w w':=by
 obtain⟨i0,hi,hz0,hz1,hz2⟩:=info_parts uE;have HL:=hd_ hl;have HC:=hd_ hc;clear hl hc;go_enter Tryz.func225,Tryz.ntmps225;go_wp2;go_loopw [5,6,7] (fun u d i wr=>∃(k:Nat) (dn:Bool) (os:List Int),k<=n/\i=.int .i64 k/\d=.bool dn/\os.length<=2 * k/\bG wr w.heap.size u os/\os++nP m (zs.drop k) dn=nP m zs false/\Below w.heap.size w wr) (fun _ _ i _=>n - (intOf i).toNat)
 case atStart=>exact⟨0,false,[],Nat.zero_le _,rfl,rfl,Nat.le_refl _,aA8 w w.heap.size lr_,rfl,(Below.refl _ _).alloc lr_ _⟩
 case round=>
  obtain⟨k,dn,os,hk,rfl,rfl,hos,hown,hput,hbl⟩:=hrel;obtain⟨x,cp,hu⟩:=hown.form;obtain⟨no,hno⟩:∃no,no=os.length:=⟨_,rfl⟩
  have hno2:no<=200:=by omega
  rw[<-hno]at hu;subst hu;have HN:=hd_ hno;have HP:=hd_ hput;have HB:=hd_ hbl;have hsz:=hbl.size;have ho:wr.ownsRow w.heap.size 3 1 (.slice x no cp) no (bM os):=by have h:=hown;unfold bG at h;rw[<-hno]at h;exact h
  have HO:=hd_ ho;clear hput hbl hown hno ho
  by_cases hlt:k<n
  ·have h1:=HC.out k hlt
   rw[<-HB.out.cell (p:=⟨b,o+k,none⟩) hb]at h1;have hd:=aHo (zs:=zs) (k:=k) (by rw[HL.out];exact hlt);generalize zs.getD k 0=y at h1 hd;rw[hd]at HP;clear hd;have k0:(0:Int)<=(k:Int):=by omega
   have kn:(k:Int)<(n:Int):=by omega
   cases dn with
   |false=>
    by_cases hmy:m<=y
    ·have hD:decide (m<=y)=true:=decide_eq_true hmy
     by_cases hym:y=m
     ·subst hym
      go_wp2_with (first|(at_builtin;refine wpList_append_own _ rfl _ _ 23 rfl w.heap.size 3 i0 (.int .i64 0) 1 8 Tryz.underlying23 hi hz0 hz1 hz2 rfl (by decide) _ _ _ rfl (HO.out.alloc _) ⟨wr.heap.size,0,none⟩ 1 1 [.int .i64 y] rfl rfl (cell_one_new _ _ _) (by simp[Value.oneCell']) (by unfold maxLen;omega) (by omega) (by simp;omega) ?_;intro v1 w1 ho1 hg1 _;obtain⟨g_v1,c_v1,rfl,_,_⟩:=World.ownsRow.form ho1 (Nat.succ_pos _);have c_w1:=nB h1 hb HO.out hg1))
      go_roundw
      case rel=>exact⟨k+1,true,os++[y],by omega,by go_num,rfl,by simp;omega,kT ho1 HN.out,by rw[<-HP.out,aLM,List.append_assoc],fG HB.out HO.out hg1⟩
      case measure=>simp[intOf];omega
     ·have hne:(y != m)=true:=by simpa using hym
      have hne2:decide (y=m)=false:=decide_eq_false hym
      go_wp2_with (first|(at_builtin;refine wpList_append_own _ rfl _ _ 23 rfl w.heap.size 3 i0 (.int .i64 0) 1 8 Tryz.underlying23 hi hz0 hz1 hz2 rfl (by decide) _ _ _ rfl (HO.out.alloc _) ⟨wr.heap.size,0,none⟩ 1 1 [.int .i64 m] rfl rfl (cell_one_new _ _ _) (by simp[Value.oneCell']) (by unfold maxLen;omega) (by omega) (by simp;omega) ?_;intro v1 w1 ho1 hg1 _;obtain⟨g_v1,c_v1,rfl,_,_⟩:=World.ownsRow.form ho1 (Nat.succ_pos _);have c_w1:=nB h1 hb HO.out hg1)|(at_builtin;refine wpList_append_own _ rfl _ _ 23 rfl w.heap.size 3 i0 (.int .i64 0) 1 8 Tryz.underlying23 hi hz0 hz1 hz2 rfl (by decide) _ _ _ rfl (ho1.alloc _) ⟨w1.heap.size,0,none⟩ 1 1 [.int .i64 y] rfl rfl (cell_one_new _ _ _) (by simp[Value.oneCell']) (by unfold maxLen;omega) (by omega) (by simp;omega) ?_;intro v2 w2 ho2 hg2 _;obtain⟨g_v2,c_v2,rfl,_,_⟩:=World.ownsRow.form ho2 (Nat.succ_pos _)))
      go_roundw
      case rel=>
       have o1:=kT ho1 HN.out;have o2:=kT (os:=os++[m]) (by have h:=ho2;rw[<-vF]at h;exact h) (by simp;exact HN.out);have b1:=fG HB.out HO.out hg1;exact⟨k+1,true,os++[m]++[y],by omega,by go_num,rfl,by simp;omega,o2,by rw[<-HP.out,aL2 _ hmy hym];simp,fG b1 ho1 hg2⟩
      case measure=>simp[intOf];omega
    ·have hD:decide (m<=y)=false:=decide_eq_false hmy
     have hym:y≠m:=by omega
     have hne:(y != m)=true:=by simpa using hym
     have hne2:decide (y=m)=false:=decide_eq_false hym
     go_wp2_with (first|(at_builtin;refine wpList_append_own _ rfl _ _ 23 rfl w.heap.size 3 i0 (.int .i64 0) 1 8 Tryz.underlying23 hi hz0 hz1 hz2 rfl (by decide) _ _ _ rfl (HO.out.alloc _) ⟨wr.heap.size,0,none⟩ 1 1 [.int .i64 y] rfl rfl (cell_one_new _ _ _) (by simp[Value.oneCell']) (by unfold maxLen;omega) (by omega) (by simp;omega) ?_;intro v1 w1 ho1 hg1 _;obtain⟨g_v1,c_v1,rfl,_,_⟩:=World.ownsRow.form ho1 (Nat.succ_pos _);have c_w1:=nB h1 hb HO.out hg1))
     go_roundw
     case rel=>exact⟨k+1,false,os++[y],by omega,by go_num,rfl,by simp;omega,kT ho1 HN.out,by rw[<-HP.out,aKQ _ (.inr (by omega)) hym,List.append_assoc],fG HB.out HO.out hg1⟩
     case measure=>simp[intOf];omega
   |true=>
    by_cases hym:y=m
    ·subst hym
     go_wp2;go_roundw
     case rel=>exact⟨k+1,true,os,by omega,by go_num,rfl,by omega,by have h:=HO.out;rw[HN.out]at h;rw[HN.out];exact h,by rw[<-HP.out,aL7],HB.out⟩
     case measure=>simp[intOf];omega
    ·have hne:(y != m)=true:=by simpa using hym
     have hne2:decide (y=m)=false:=decide_eq_false hym
     go_wp2_with (first|(at_builtin;refine wpList_append_own _ rfl _ _ 23 rfl w.heap.size 3 i0 (.int .i64 0) 1 8 Tryz.underlying23 hi hz0 hz1 hz2 rfl (by decide) _ _ _ rfl (HO.out.alloc _) ⟨wr.heap.size,0,none⟩ 1 1 [.int .i64 y] rfl rfl (cell_one_new _ _ _) (by simp[Value.oneCell']) (by unfold maxLen;omega) (by omega) (by simp;omega) ?_;intro v1 w1 ho1 hg1 _;obtain⟨g_v1,c_v1,rfl,_,_⟩:=World.ownsRow.form ho1 (Nat.succ_pos _);have c_w1:=nB h1 hb HO.out hg1))
     go_roundw
     case rel=>exact⟨k+1,true,os++[y],by omega,by go_num,rfl,by simp;omega,kT ho1 HN.out,by rw[<-HP.out,aKQ _ (.inl rfl) hym,List.append_assoc],fG HB.out HO.out hg1⟩
     case measure=>simp[intOf];omega
  ·have hd0:zs.drop k=[]:=List.drop_of_length_le (by rw[HL.out];omega)
   rw[hd0]at HP;clear hd0;cases dn with
   |false=>
    have hPV:nP m zs false=os++[m]:=HP.out.symm;have HPV:=hd_ hPV;clear hPV
    by_cases h6:no+1<=6
    ·have h6':(no:Int)+1<=6:=by omega
     go_wp2_with (first|(at_builtin;refine wpList_append_own _ rfl _ _ 23 rfl w.heap.size 3 i0 (.int .i64 0) 1 8 Tryz.underlying23 hi hz0 hz1 hz2 rfl (by decide) _ _ _ rfl (HO.out.alloc _) ⟨wr.heap.size,0,none⟩ 1 1 [.int .i64 m] rfl rfl (cell_one_new _ _ _) (by simp[Value.oneCell']) (by unfold maxLen;omega) (by omega) (by simp;omega) ?_;intro v1 w1 ho1 hg1 _;obtain⟨g_v1,c_v1,rfl,_,_⟩:=World.ownsRow.form ho1 (Nat.succ_pos _);obtain⟨cc1,cc2⟩:=xH ho1))
     go_ret;refine⟨_,rfl,?_,fG HB.out HO.out hg1⟩;have o1:=kT ho1 HN.out;have e:nS zs m=os++[m]:=by unfold nS;rw[HPV.out,List.take_of_length_le (by simp;rw[<-HN.out];omega)]
     rw[e];exact o1
    ·have h6':¬(no:Int)+1<=6:=by omega
     go_wp2_with (first|(at_builtin;refine wpList_append_own _ rfl _ _ 23 rfl w.heap.size 3 i0 (.int .i64 0) 1 8 Tryz.underlying23 hi hz0 hz1 hz2 rfl (by decide) _ _ _ rfl (HO.out.alloc _) ⟨wr.heap.size,0,none⟩ 1 1 [.int .i64 m] rfl rfl (cell_one_new _ _ _) (by simp[Value.oneCell']) (by unfold maxLen;omega) (by omega) (by simp;omega) ?_;intro v1 w1 ho1 hg1 _;obtain⟨g_v1,c_v1,rfl,_,_⟩:=World.ownsRow.form ho1 (Nat.succ_pos _);obtain⟨cc1,cc2⟩:=xH ho1))
     go_ret;refine⟨_,rfl,?_,fG HB.out HO.out hg1⟩;have o1:=kT ho1 HN.out;have e:nS zs m=(os++[m]).take 6:=by unfold nS;rw[HPV.out]
     rw[e];exact o1.take 6 (by simp;rw[<-HN.out];omega)
   |true=>
    have hPV:nP m zs false=os:=by rw[<-HP.out];unfold nP;simp
    have HPV:=hd_ hPV;clear hPV;have hcc:=xH HO.out;obtain⟨cc1,cc2⟩:=hcc;have fin:∀k,k<=no->(k=no/\no<=6\/k=6)->bG wr w.heap.size (.slice x k cp) (nS zs m):=fun k hk h=>by
     have ho:=HO.out;have o1:bG wr w.heap.size (.slice x no cp) os:=by rw[HN.out]at ho;rw[HN.out];exact ho
     have hn:=HN.out;have e:nS zs m=os.take k:=by
      unfold nS;rw[HPV.out];rcases h with ⟨h,h6⟩|h
      ·rw[List.take_of_length_le (by omega),List.take_of_length_le (by omega)]
      ·rw[h]
     rw[e];exact o1.take k (by omega)
    have FIN:=hd_ fin;clear fin;have hx:(x=none/\no=0/\cp=0)\/∃g,x=some ⟨g,0,none⟩:=by
     rcases HO.out.2 with ⟨e,h0⟩|⟨g,cap,cur,e,_⟩
     ·exact .inl (by have:=Value.slice.inj e;exact this)
     ·exact .inr ⟨g,(Value.slice.inj e).1⟩
    rcases hx with ⟨rfl,rfl,rfl⟩|⟨g,rfl⟩
    ·go_wp2
     go_ret;exact⟨_,rfl,FIN.out 0 lr_ (.inl ⟨rfl,by omega⟩),HB.out⟩
    ·have cc3:(no:Int)<=(cp:Int):=by omega
     by_cases h6:no<=6
     ·have h6':(no:Int)<=6:=by omega
      go_wp2;go_ret;exact⟨_,rfl,FIN.out no lr_ (.inl ⟨rfl,h6⟩),HB.out⟩
     ·have h6':¬(no:Int)<=6:=by omega
      have c6:(6:Int)<=(cp:Int):=by omega
      go_wp2;go_ret;exact⟨_,rfl,FIN.out 6 (by omega) (.inr rfl),HB.out⟩
theorem aEq (w:World) (m:Int):Calls Tryz.prog 225 #[.slice none 0 0,.int .i64 m] w fun e w'=>∃v,e=.returned v/\bG w' w.heap.size v (nS [] m)/\Below w.heap.size w w':=by
 obtain⟨i0,hi,hz0,hz1,hz2⟩:=info_parts uE;have HO:=hd_ (aA8 w w.heap.size lr_);have hbl:=(Below.refl w.heap.size w).alloc lr_ (.cells #[] 3);have HB:=hd_ hbl;clear hbl;go_enter Tryz.func225,Tryz.ntmps225;go_wp2;refine wp_loop_rounds 1 ?_;rw[rounds_succ]
 go_wp2_with (first|(at_builtin;refine wpList_append_own _ rfl _ _ 23 rfl w.heap.size 3 i0 (.int .i64 0) 1 8 Tryz.underlying23 hi hz0 hz1 hz2 rfl (by decide) _ _ _ rfl (HO.out.alloc _) ⟨w.heap.size+1,0,none⟩ 1 1 [.int .i64 m] rfl rfl (by have:=cell_one_new (w.alloc (.cells #[] 3)) (.int .i64 m) 3;simpa using this) (by simp[Value.oneCell']) (by unfold maxLen;omega) (by omega) (by simp;omega) ?_;intro v1 w1 ho1 hg1 _;obtain⟨g_v1,c_v1,rfl,_,_⟩:=World.ownsRow.form ho1 (Nat.succ_pos _);obtain⟨cc1,cc2⟩:=xH ho1))
 go_ret;refine⟨_,rfl,?_,fG HB.out HO.out hg1⟩;have o1:=kT (os:=[]) ho1 rfl;exact o1
theorem aJk (w:World) (v:Value) (zs:List Int) (m:Int) (h:cW w v zs) (hn:zs.length<=100):
  Calls Tryz.prog 225 #[v,.int .i64 m] w fun e w'=>∃v,e=.returned v/\bG w' w.heap.size v (nS zs m)/\Below w.heap.size w w':=by
 rcases h with ⟨rfl,rfl⟩|⟨b,o,cap,rfl,_,_,hb,hc⟩
 ·exact aEq w m
 ·exact aFR w b o cap _ zs m rfl hn hb hc
def eJ (zs:List Int) (t:Int):Bool:=eK zs&&iM t
def kK (zs:List Int) (t:Int):List Int:=if eJ zs t=true then nS zs (fU t)else []
theorem qS {zs:List Int} {t:Int} (h:eJ zs t=true):kK zs t=nS zs (fU t):=if_pos h
theorem aCq {zs:List Int} {t:Int} (h:eJ zs t=false):kK zs t=[]:=if_neg (by rw[h];simp)
theorem aDA (w:World) (u:Value) (zs:List Int) (t:Int) (h:cW w u zs) (hno:eJ zs t=false):
  Calls Tryz.prog 311 #[.agg #[u],.int .i64 t] w fun e w'=>e=.returned (.tuple #[.agg #[.slice none 0 0],.bool false])/\Below w.heap.size w w':=by
 have hA:=((Below.refl w.heap.size w).alloc lr_ (.cells #[u] 38)).alloc (by simp) (.cells #[.slice none 0 0] 38);have K:=hd_ (sO _ u zs (h.below hA lr_));have HA:=hd_ hA;clear hA;obtain⟨⟨x,c,hx⟩,_⟩:=h.cases;obtain⟨n,hn⟩:∃n,n=zs.length:=⟨_,rfl⟩
 rw[<-hn]at hx;subst hx;clear h hn;have cr:((w.alloc (.cells #[.slice x n c] 38)).alloc (.cells #[.slice none 0 0] 38)).cell? ⟨w.heap.size+1,0,none⟩=some (.slice none 0 0):=by rw[World.cell?_alloc_at (hn:=by simp)];simp
 have fr:((w.alloc (.cells #[.slice x n c] 38)).alloc (.cells #[.slice none 0 0] 38)).frozen? ⟨w.heap.size+1,0,none⟩=false:=World.frozen?_alloc_at _ _ _ _ (by simp);cases hok:eK zs with
 |false=>
  rw[hok]at K;clear hok hno;go_enter Tryz.func311,Tryz.ntmps311
  go_wp2_with fail
  refine K.out.mono ?_;rintro e w1 ⟨rfl,hb1⟩;have cr1:=cell_later hb1 cr;have fr1:w1.frozen? ⟨w.heap.size+1,0,none⟩=false:=by rw[hb1.frozen (by simp)];exact fr
  go_wp2;have hr:=World.cell?_setCell_same w1 ⟨w.heap.size+1,0,none⟩ (.slice none 0 0) cr1;exact bodyPost_ret (v:=.tuple #[.agg #[.slice none 0 0],.bool false]) (by simp[results,Tryz.results311,go_sem,hr]) rfl ⟨rfl,(HA.out.trans (hb1.mono HA.out.size)).setCell (by simp) _⟩
 |true=>
  rw[hok]at K;have ht:t<0\/63<t:=by
   unfold eJ at hno;rw[hok]at hno;have:=(wH t).1 (by simpa using hno);omega
  clear hok hno;go_enter Tryz.func311,Tryz.ntmps311
  go_wp2_with fail
  refine K.out.mono ?_;rintro e w1 ⟨rfl,hb1⟩;have cr1:=cell_later hb1 cr;have fr1:w1.frozen? ⟨w.heap.size+1,0,none⟩=false:=by rw[hb1.frozen (by simp)];exact fr
  go_wp2_with (go_at_call 66;refine (fL _ _ _ _ ht).mono ?_;rintro e w' ⟨rfl,rfl⟩)
  have hr:=World.cell?_setCell_same w1 ⟨w.heap.size+1,0,none⟩ (.slice none 0 0) cr1;exact bodyPost_ret (v:=.tuple #[.agg #[.slice none 0 0],.bool false]) (by simp[results,Tryz.results311,go_sem,hr]) rfl ⟨rfl,(HA.out.trans (hb1.mono HA.out.size)).setCell (by simp) _⟩
theorem aBR (w:World) (u:Value) (zs:List Int) (t:Int) (h:cW w u zs) (hok:eK zs=true) (t0:0<=t) (t1:t<64):
  Calls Tryz.prog 311 #[.agg #[u],.int .i64 t] w fun e w'=>∃v,e=.returned (.tuple #[.agg #[v],.bool true])/\bG w' w.heap.size v (nS zs (fU t))/\Below w.heap.size w w':=by
 have hA:=((Below.refl w.heap.size w).alloc lr_ (.cells #[u] 38)).alloc (by simp) (.cells #[.slice none 0 0] 38);have I:=hd_ (h.below hA lr_);have K:=hd_ (sO _ u zs I.out);rw[hok]at K;have HA:=hd_ hA;have hl:=(gU hok).1;have t2:t<=63:=by omega
 have KM:Hid (∀W,Calls Tryz.prog 321 #[.int .i64 t] W fun e w'=>e=.returned (.int .i64 (fU t))/\W=w'):=fun W=>aHA t W
 have KP:Hid (∀W,cW W u zs->Calls Tryz.prog 225 #[u,.int .i64 (fU t)] W fun e w'=>∃v,e=.returned v/\bG w' W.heap.size v (nS zs (fU t))/\Below W.heap.size W w'):=fun W hW=>aJk W u zs _ hW (by omega)
 clear hA;obtain⟨⟨x,c,hx⟩,_⟩:=h.cases;obtain⟨n,hn⟩:∃n,n=zs.length:=⟨_,rfl⟩
 rw[<-hn]at hx;subst hx;generalize fU t=M at *;clear h hn hok;have cb:((w.alloc (.cells #[.slice x n c] 38)).alloc (.cells #[.slice none 0 0] 38)).cell? ⟨w.heap.size,0,none⟩=some (.slice x n c):=by
  rw[World.cell?_alloc_past (hn:=by simp)];simp
 have cr:((w.alloc (.cells #[.slice x n c] 38)).alloc (.cells #[.slice none 0 0] 38)).cell? ⟨w.heap.size+1,0,none⟩=some (.slice none 0 0):=by rw[World.cell?_alloc_at (hn:=by simp)];simp
 have fr:((w.alloc (.cells #[.slice x n c] 38)).alloc (.cells #[.slice none 0 0] 38)).frozen? ⟨w.heap.size+1,0,none⟩=false:=World.frozen?_alloc_at _ _ _ _ (by simp);go_enter Tryz.func311,Tryz.ntmps311
 go_wp2_with fail
 refine K.out.mono ?_;rintro e w1 ⟨rfl,hb1⟩;have cb1:=cell_later hb1 cb;have cr1:=cell_later hb1 cr;have fr1:w1.frozen? ⟨w.heap.size+1,0,none⟩=false:=by rw[hb1.frozen (by simp)];exact fr
 have B1:=hd_ (HA.out.trans (hb1.mono HA.out.size));have I1:=hd_ (I.out.below hb1 lr_);have l1:w.heap.size+1<w1.heap.size:=World.block_lt_of_cell? _ _ cr1;clear hb1 cb cr fr I
 go_wp2_with (go_at_call 66;refine (aN _ _ _ _ t0 t2).mono ?_;rintro e w' ⟨rfl,rfl⟩)
 have KPd:Hid (Calls Tryz.prog 225 #[.slice x n c,.int .i64 M] w1.drew fun e w'=>∃v,e=.returned v/\bG w' w1.drew.heap.size v (nS zs M)/\Below w1.drew.heap.size w1.drew w'):=KP.out w1.drew I1.out
 go_region_with (first|(go_at_call 321;refine (KM.out _).mono ?_;rintro e w' ⟨rfl,rfl⟩)|(go_at_call 225;refine KPd.out.mono ?_;rintro e w2 ⟨v,rfl,ho2,hb2⟩;obtain⟨xv,cv,rfl⟩:=ho2.form;have cr2:=cell_later hb2 cr1;have fr2:w2.frozen? ⟨w.heap.size+1,0,none⟩=false:=(hb2.frozen (p:=⟨w.heap.size+1,0,none⟩) l1).trans fr1))
 all_goals
  have ho3:=(ho2.kept (aA w2 ⟨w.heap.size+1,0,none⟩ (.slice xv (nS zs M).length cv)) (fun k e=>by simp at e;simp;omega)).base (B':=w.heap.size) (by simp;omega);have hr:=World.cell?_setCell_same w2 ⟨w.heap.size+1,0,none⟩ (.slice xv (nS zs M).length cv) cr2
  have hb3:Below w.heap.size w (w2.setCell ⟨w.heap.size+1,0,none⟩ (.slice xv (nS zs M).length cv)):=((B1.out.trans (Below.drew (Below.refl _ _))).trans (hb2.mono (by simp;omega))).setCell (by simp) _;have HR:=hd_ hr;have H3:=hd_ ho3;have HB3:=hd_ hb3;clear hr ho3 hb3;go_wp2;have hr:=HR.out
  exact bodyPost_ret (v:=.tuple #[.agg #[.slice xv (nS zs M).length cv],.bool true]) (by simp[results,Tryz.results311,go_sem,hr]) rfl ⟨_,rfl,H3.out,HB3.out⟩
theorem aD7 (w:World) (u:Value) (zs:List Int) (t:Int) (h:cW w u zs):
  Calls Tryz.prog 311 #[.agg #[u],.int .i64 t] w fun e w'=>∃v,e=.returned (.tuple #[.agg #[v],.bool (eJ zs t)])/\bG w' w.heap.size v (kK zs t)/\Below w.heap.size w w':=by
 cases hok:eJ zs t with
 |false=>
  rw[aCq hok];exact (aDA w u zs t h hok).mono fun e w' ⟨he,hb⟩=>⟨_,he,bG.nil _ _,hb⟩
 |true=>
  rw[qS hok];have h':eK zs=true/\iM t=true:=by unfold eJ at hok;simpa using hok
  have ht:=(tL t).1 h'.2;exact aBR w u zs t h h'.1 ht.1 ht.2
end Go.Proofs.YtcblbdpdbggkbaaGreat
set_option linter.unusedVariables false
namespace Go.Proofs.YtcblbdpdbggkbaaGreat
open Go.RowKit Go.Shelf
attribute [local go_sem] Oper.semAt_some
def InB (n₀:Nat) (w:World) (v:Value) (zs:List Int):Prop:=
 (v=.slice none 0 0/\zs=[])\/
 ∃b o c,v=.slice (some ⟨b,o,none⟩) zs.length c/\zs.length<=c/\c<=maxLen/\b<n₀/\∀i,i<zs.length->w.cell? ⟨b,o+i,none⟩=some (.int .i64 (zs.getD i 0))
theorem InB.below {n₀:Nat} {w w':World} {v:Value} {zs:List Int} (h:InB n₀ w v zs) (hb:Below n₀ w w'):InB n₀ w' v zs:=by
 rcases h with h|⟨b,o,c,e,h1,h2,h3,h4⟩
 ·exact .inl h
 ·exact .inr ⟨b,o,c,e,h1,h2,h3,fun i hi=>(hb.cell (p:=⟨b,o+i,none⟩) h3).trans (h4 i hi)⟩
theorem cW.inB {w:World} {v:Value} {zs:List Int} (h:cW w v zs):InB w.heap.size w v zs:=h
def aV (zs:List Int):Int:=match zs with| []=>64|x::_=>x
def aX (zs:List Int) (m:Int):List Int:=if aV zs=m then zs.tail else zs
theorem pP (n₀:Nat) (w:World) (v:Value) (zs:List Int) (h:InB n₀ w v zs):
  Calls Tryz.prog 287 #[v] w fun e w'=>e=.returned (.int .i64 (aV zs))/\w=w':=by
 rcases h with ⟨rfl,rfl⟩|⟨b,o,c,rfl,h1,h2,_,h4⟩
 ·go_enter Tryz.func287,Tryz.ntmps287
  go_wp2;go_ret;exact⟨rfl,rfl⟩
 ·cases zs with
  |nil=>
   go_enter Tryz.func287,Tryz.ntmps287;go_wp2;go_ret;exact⟨rfl,rfl⟩
  |cons x zs=>
   have h5:w.cell? ⟨b,o,none⟩=some (.int .i64 x):=h4 0 (by simp);obtain⟨n,hn⟩:∃n,n=(x::zs).length:=⟨_,rfl⟩
   have hp:0<n:=by rw[hn];simp
   rw[<-hn];have n0:((n:Int)==0)=false:=by simp;omega
   have n1:(0:Int)<(n:Int):=by omega
   clear h1 h2 h4 hn;go_enter Tryz.func287,Tryz.ntmps287;go_wp2;go_ret;exact⟨rfl,rfl⟩
theorem sJ (n₀:Nat) (w:World) (v:Value) (zs:List Int) (m:Int) (h:InB n₀ w v zs) (hm:zs=[]->m≠64):
  Calls Tryz.prog 288 #[v,.int .i64 m] w fun e w'=>∃x c,e=.returned (.slice x (aX zs m).length c)/\InB n₀ w (.slice x (aX zs m).length c) (aX zs m)/\w=w':=by
 have KF:Hid (Calls Tryz.prog 287 #[v] w fun e w'=>e=.returned (.int .i64 (aV zs))/\w=w'):=pP n₀ w v zs h
 by_cases hf:aV zs=m
 ·have hne:zs≠[]:=fun e=>hm e (by rw[<-hf,e];rfl)
  rcases h with ⟨_,e⟩|⟨b,o,c,rfl,h1,h2,h3,h4⟩
  ·exact absurd e hne
  have hlen:0<zs.length:=List.length_pos_iff.2 hne;have tl:∀i,i<zs.tail.length->zs.tail.getD i 0=zs.getD (i+1) 0:=fun i hi=>by simp
  have lt:zs.tail.length=zs.length - 1:=by simp
  have IN:Hid (∀o' c',zs.tail.length<=c'->c'<=maxLen->(o'=o+1\/zs.tail.length=0)->InB n₀ w (.slice (some ⟨b,o',none⟩) zs.tail.length c') zs.tail):=fun o' c' q1 q2 q3=>.inr ⟨b,o',c',rfl,q1,q2,h3,fun i hi=>by
      rcases q3 with q3|q3
      · rw[tl i hi, <-h4 (i+1) (by omega),q3,show o+1+i=o+(i+1) by omega]
      · omega⟩
  have eb:aX zs m=zs.tail:=if_pos hf;rw[eb];rw[hf]at KF;obtain⟨n,hn⟩:∃n,n=zs.length:=⟨_,rfl⟩
  obtain⟨k,hk⟩:∃k,k=zs.tail.length:=⟨_,rfl⟩
  rw[<-hn]at KF hlen lt h1;rw[<-hn, <-hk];rw[<-hk]at IN lt;have n1:(1:Int)<=(n:Int):=by omega
  have c1:(n:Int)<=(c:Int):=by omega
  have ek:k=n - 1:=lt;subst ek;clear hn hk h4 tl lt hf hne hm eb
  by_cases hc:c=1
  ·subst hc
   obtain rfl:n=1:=by omega
   go_enter Tryz.func288,Tryz.ntmps288
   go_wp2_with fail
   refine KF.out.mono ?_;rintro e w1 ⟨rfl,rfl⟩;go_wp2;go_ret;exact⟨_,_,rfl,IN.out _ _ (by omega) (by omega) (.inr (by simp)),rfl⟩
  ·go_enter Tryz.func288,Tryz.ntmps288
   go_wp2_with fail
   refine KF.out.mono ?_;rintro e w1 ⟨rfl,rfl⟩;go_wp2;go_ret;exact⟨_,_,rfl,IN.out _ _ (by omega) (by omega) (.inl rfl),rfl⟩
 ·have eb:aX zs m=zs:=if_neg hf
  have hf':(aV zs==m)=false:=by simpa using hf
  have hd:decide (aV zs=m)=false:=by simpa using hf
  rw[eb];have I:=hd_ h;obtain⟨x,c,hx⟩:∃x c,v=.slice x zs.length c:=by
   rcases h with ⟨rfl,rfl⟩|⟨b,o,c,rfl,_⟩
   ·exact⟨_,_,rfl⟩
   ·exact⟨_,_,rfl⟩
  obtain⟨n,hn⟩:∃n,n=zs.length:=⟨_,rfl⟩
  rw[<-hn]at hx ⊢;subst hx;generalize aV zs=F at *;clear h hn eb hf hm;go_enter Tryz.func288,Tryz.ntmps288
  go_wp2_with fail
  refine KF.out.mono ?_;rintro e w1 ⟨rfl,rfl⟩;go_wp2;go_ret;exact⟨_,_,rfl,I.out,rfl⟩
def oC:Nat->List Int->List Int->List Int
 | 0,_,_=>[]
 |k+1,zs,ys=>if zs=[]/\ys=[]then []else min (aV zs) (aV ys)::oC k (aX zs (min (aV zs) (aV ys))) (aX ys (min (aV zs) (aV ys)))
def jI (zs ys:List Int):List Int:=oC (zs.length+ys.length) zs ys
theorem wW (zs:List Int) (m:Int):(aX zs m).length<=zs.length:=by unfold aX;split<;>simp
theorem aA2 {zs:List Int} (h:∀z ∈ zs,z<64) (hn:zs≠[]):aV zs<64:=by
 cases zs with
 |nil=>exact absurd rfl hn
 |cons x xs=>exact h x (by simp)
theorem uZ {zs ys:List Int} (hz:∀z ∈ zs,z<64) (hy:∀z ∈ ys,z<64) (h:¬(zs=[]/\ys=[])):
  min (aV zs) (aV ys)<64/\(aX zs (min (aV zs) (aV ys))).length+(aX ys (min (aV zs) (aV ys))).length<zs.length+ys.length:=by
 have l1:=wW zs (min (aV zs) (aV ys));have l2:=wW ys (min (aV zs) (aV ys));have less:∀us:List Int,us≠[]->aV us=min (aV zs) (aV ys)->(aX us (min (aV zs) (aV ys))).length<us.length:=fun us hu e=>by
  unfold aX;rw[if_pos e];cases us with
  |nil=>exact absurd rfl hu
  |cons x xs=>simp
 by_cases h1:zs=[]
 ·have h2:ys≠[]:=fun e=>h ⟨h1,e⟩
  have f2:=aA2 hy h2;have f1:aV zs=64:=by rw[h1];rfl
  have:=less ys h2 (by omega);exact⟨by omega,by omega⟩
 ·have f1:=aA2 hz h1
  by_cases h3:aV zs<=aV ys
  ·have:=less zs h1 (by omega)
   exact⟨by omega,by omega⟩
  ·have h2:ys≠[]:=fun e=>h3 (by rw[e];show aV zs<=64;omega)
   have:=less ys h2 (by omega);exact⟨by omega,by omega⟩
theorem dQ {zs:List Int} {m z:Int} (h:z ∈ aX zs m):z ∈ zs:=by
 unfold aX at h
 split at h
 ·exact List.mem_of_mem_tail h
 ·exact h
def qZ:Value->Nat
 | .slice _ n _=>n
 |_=>0
theorem aIT (n:Nat) (hn:1<=n) (l Ba Bb n₀:Nat) (u v:Value) (zs ys:List Int) (hz:∀z ∈ zs,z<64) (hy:∀z ∈ ys,z<64) (J Jx:List Int->World->Prop)
  (hY:∀pre x W,J pre W->pre.length<zs.length+ys.length->YieldAt Fence.wide (n - 1) Tryz.prog l #[.int .i64 x] W fun e W'=>
      (e=.returned (.bool true)/\J (pre++[x]) W'/\Below n₀ W W')\/(e=.returned (.bool false)/\Jx (pre++[x]) W'))
  (hJd:∀s W1,J s W1->J s W1.drew) (W:World) (hA:W.cell? ⟨Ba,0,none⟩=some u) (hB:W.cell? ⟨Bb,0,none⟩=some v) (iA:InB n₀ W u zs) (iB:InB n₀ W v ys) (h0:J [] W):
  CallsIn Fence.wide n Tryz.prog 286 #[.func (.yield l) #[] #[],.pointer (some ⟨Ba,0,none⟩),.pointer (some ⟨Bb,0,none⟩)] W fun e W'=>(∃v,e=.returned v)/\
   ((∃xs,xs=jI zs ys/\J xs W')\/(∃pre,pre<+:jI zs ys/\Jx pre W')):=by
 have form:∀{v zs},InB n₀ W v zs->∃x c,v=.slice x zs.length c:=fun h=>by
  rcases h with ⟨rfl,rfl⟩|⟨b,o,c,rfl,_⟩
  ·exact⟨_,_,rfl⟩
  ·exact⟨_,_,rfl⟩
 obtain⟨xa,ca,rfl⟩:=form iA;obtain⟨xb,cb,rfl⟩:=form iB;obtain⟨na,hna⟩:∃na,na=zs.length:=⟨_,rfl⟩
 obtain⟨nb,hnb⟩:∃nb,nb=ys.length:=⟨_,rfl⟩
 rw[<-hna]at hA iA;rw[<-hnb]at hB iB;have NA:=hd_ hna;have NB:=hd_ hnb;have IA:=hd_ iA;have IB:=hd_ iB;have HY:=hd_ hY;have HZ:=hd_ hz;have HYS:=hd_ hy;have H0:=hd_ h0;clear form hna hnb iA iB hY hz hy h0;refine callsIn_of_wp Tryz.func286 rfl trivial ?_ rfl
 simp only[Tryz.ntmps286,List.size_toArray,List.length_cons,List.length_nil,Nat.reduceAdd,Nat.reduceSub,Array.replicate_succ,Array.replicate_zero,List.push_toArray,List.append_toArray,List.nil_append,List.cons_append]
 gi_wp2
 gi_region
 gi_wp2
 gi_loopw [4,5] (fun p q wr=>∃(pre xs ys':List Int) (k:Nat),InB n₀ wr p xs/\InB n₀ wr q ys'/\(∀z ∈ xs,z<64)/\(∀z ∈ ys',z<64)/\pre++oC k xs ys'=jI zs ys/\xs.length+ys'.length<=k/\pre.length+(xs.length+ys'.length)<=zs.length+ys.length/\qZ p=xs.length/\qZ q=ys'.length/\J pre wr)
  (fun p q _=>qZ p+qZ q)
 case atStart=>exact⟨[],zs,ys,zs.length+ys.length,IA.out,IB.out,HZ.out,HYS.out,rfl,Nat.le_refl _,by simp,NA.out,NB.out,hJd _ _ H0.out⟩
 case round=>
  obtain⟨pre,xs,ys',k,ia,ib,hx,hy',hb,hk,hpre,sa,sb,hJs⟩:=hrel;have form:∀{v zs},InB n₀ wr v zs->∃x c,v=.slice x zs.length c:=fun h=>by
   rcases h with ⟨rfl,rfl⟩|⟨b,o,c,rfl,_⟩
   ·exact⟨_,_,rfl⟩
   ·exact⟨_,_,rfl⟩
  obtain⟨ya,da,rfl⟩:=form ia;obtain⟨yb,db,rfl⟩:=form ib;clear form sa sb
  by_cases hE:xs=[]/\ys'=[]
  ·obtain⟨rfl,rfl⟩:=hE
   have fin:Hid (pre=jI zs ys):=by
    have e:oC k [] []=[]:=by
     cases k with
     |zero=>rfl
     |succ k=>simp[oC]
    show pre=_
    rw[<-hb,e,List.append_nil]
   have HJ:=hd_ hJs;clear ia ib hx hy' hb hk hpre hJs
   gi_wp2
   go_end0
   exact⟨⟨_,rfl⟩,.inl ⟨pre,fin.out,HJ.out⟩⟩
  ·have hl:=uZ hx hy' hE
   obtain⟨k',rfl⟩:∃k',k=k'+1:=by
    cases k with
    |zero=>exact absurd ⟨List.eq_nil_of_length_eq_zero (by omega),List.eq_nil_of_length_eq_zero (by omega)⟩ hE
    |succ k=>exact⟨k,rfl⟩
   have hb':pre++[min (aV xs) (aV ys')]++oC k' (aX xs (min (aV xs) (aV ys'))) (aX ys' (min (aV xs) (aV ys')))=jI zs ys:=by
    rw[<-hb]
    conv=>rhs;unfold oC
    rw[if_neg hE];simp
   have KA:=hd_ (pP n₀ wr _ xs ia);have KB:=hd_ (pP n₀ wr _ ys' ib);obtain⟨M,hM⟩:∃M,M=min (aV xs) (aV ys'):=⟨_,rfl⟩
   rw[<-hM]at hl hb';have HB:=hd_ hb';have LE:=hd_ hl;have LT:Hid (pre.length<zs.length+ys.length):=by
    have:0<xs.length+ys'.length:=by omega
    show pre.length<_
    omega
   have JS:=hd_ hJs;have RA:Hid (∀W3,Below n₀ wr W3->Calls Tryz.prog 288 #[.slice ya xs.length da,.int .i64 M] W3 fun e w'=>∃x c,e=.returned (.slice x (aX xs M).length c)/\InB n₀ W3 (.slice x (aX xs M).length c) (aX xs M)/\W3=w'):=fun W3 h3=>
    sJ n₀ W3 _ xs M (ia.below h3) (fun _=>by omega)
   have RB:Hid (∀W3,Below n₀ wr W3->Calls Tryz.prog 288 #[.slice yb ys'.length db,.int .i64 M] W3 fun e w'=>∃x c,e=.returned (.slice x (aX ys' M).length c)/\InB n₀ W3 (.slice x (aX ys' M).length c) (aX ys' M)/\W3=w'):=fun W3 h3=>
    sJ n₀ W3 _ ys' M (ib.below h3) (fun _=>by omega)
   have MA:Hid (∀z ∈ aX xs M,z<64):=fun z h=>hx z (dQ h)
   have MB:Hid (∀z ∈ aX ys' M,z<64):=fun z h=>hy' z (dQ h)
   have HPR:=hd_ hpre;have HK:=hd_ hk;have pos:0<xs.length\/(xs.length=0/\0<ys'.length):=by omega
   obtain⟨fn,tmps,assign,body,hy,hR⟩:=HY.out pre M wr hJs LT.out;obtain⟨nx,hnx⟩:∃nx,nx=xs.length:=⟨_,rfl⟩
   obtain⟨ny,hny⟩:∃ny,ny=ys'.length:=⟨_,rfl⟩
   rw[<-hnx]at KA RA pos ⊢;rw[<-hny]at KB RB pos ⊢;have NX:=hd_ hnx;have NY:=hd_ hny;generalize aV xs=f1 at *;generalize aV ys'=f2 at *;clear ia ib hx hy' hb hb' hk hpre hJs hl hE hnx hny;have hmin:(f1<=f2/\M=f1)\/(¬f1<=f2/\M=f2):=by omega
   clear hM;rcases pos with px|⟨rfl,py⟩
   ·have px':(0:Int)<(nx:Int):=by omega
    rcases hmin with ⟨hle,rfl⟩|⟨hle,rfl⟩
    ·gi_wp2_with (first
            |(refine⟨trivial,?_⟩;gi_at_call 287;(with_reducible refine (callsIn_wide.2 KA.out).mono ?_);rintro e w1 ⟨rfl,rfl⟩;clear KA)
            |(refine⟨trivial,?_⟩;gi_at_call 287;(with_reducible refine (callsIn_wide.2 KB.out).mono ?_);rintro e w1 ⟨rfl,rfl⟩;clear KB))
     refine hR.mono ?_;rintro e W3 (⟨rfl,hJ3,hk3⟩|⟨rfl,hJx3⟩)
     ·have RA3:=hd_ (RA.out W3 hk3)
      have RB3:=hd_ (RB.out W3 hk3);have J3:=hd_ hJ3;clear RA RB hk3 hJ3 hR hy
      gi_wp2_with (first
              |(refine⟨trivial,?_⟩;gi_at_call 288;(with_reducible refine (callsIn_wide.2 RA3.out).mono ?_);rintro e w1 ⟨qa,ea,rfl,oa,rfl⟩;clear RA3)
              |(refine⟨trivial,?_⟩;gi_at_call 288;(with_reducible refine (callsIn_wide.2 RB3.out).mono ?_);rintro e w1 ⟨qb,eb,rfl,ob,rfl⟩;clear RB3))
      go_roundw
      case rel=>exact⟨pre++[M],aX xs M,aX ys' M,k',oa,ob,MA.out,MB.out,HB.out,by have h1:=LE.out;have h2:=HK.out;omega,by have h1:=LE.out;have h2:=HPR.out;simp;omega,rfl,rfl,J3.out⟩
      case measure=>have h1:=LE.out;have h2:=NX.out;have h3:=NY.out;simp[qZ];omega
     ·have JX:=hd_ hJx3
      have PF:Hid (pre++[M]<+:jI zs ys):=⟨_,HB.out⟩
      clear hJx3
      gi_wp2
      refine bodyPost_ret (results_none rfl _ _ _) rfl ?_;exact⟨⟨_,rfl⟩,.inr ⟨pre++[M],PF.out,JX.out⟩⟩
    ·gi_wp2_with (first
            |(refine⟨trivial,?_⟩;gi_at_call 287;(with_reducible refine (callsIn_wide.2 KA.out).mono ?_);rintro e w1 ⟨rfl,rfl⟩;clear KA)
            |(refine⟨trivial,?_⟩;gi_at_call 287;(with_reducible refine (callsIn_wide.2 KB.out).mono ?_);rintro e w1 ⟨rfl,rfl⟩;clear KB))
     refine hR.mono ?_;rintro e W3 (⟨rfl,hJ3,hk3⟩|⟨rfl,hJx3⟩)
     ·have RA3:=hd_ (RA.out W3 hk3)
      have RB3:=hd_ (RB.out W3 hk3);have J3:=hd_ hJ3;clear RA RB hk3 hJ3 hR hy
      gi_wp2_with (first
              |(refine⟨trivial,?_⟩;gi_at_call 288;(with_reducible refine (callsIn_wide.2 RA3.out).mono ?_);rintro e w1 ⟨qa,ea,rfl,oa,rfl⟩;clear RA3)
              |(refine⟨trivial,?_⟩;gi_at_call 288;(with_reducible refine (callsIn_wide.2 RB3.out).mono ?_);rintro e w1 ⟨qb,eb,rfl,ob,rfl⟩;clear RB3))
      go_roundw
      case rel=>exact⟨pre++[M],aX xs M,aX ys' M,k',oa,ob,MA.out,MB.out,HB.out,by have h1:=LE.out;have h2:=HK.out;omega,by have h1:=LE.out;have h2:=HPR.out;simp;omega,rfl,rfl,J3.out⟩
      case measure=>have h1:=LE.out;have h2:=NX.out;have h3:=NY.out;simp[qZ];omega
     ·have JX:=hd_ hJx3
      have PF:Hid (pre++[M]<+:jI zs ys):=⟨_,HB.out⟩
      clear hJx3
      gi_wp2
      refine bodyPost_ret (results_none rfl _ _ _) rfl ?_;exact⟨⟨_,rfl⟩,.inr ⟨pre++[M],PF.out,JX.out⟩⟩
   ·have py':(0:Int)<(ny:Int):=by omega
    rcases hmin with ⟨hle,rfl⟩|⟨hle,rfl⟩
    ·gi_wp2_with (first
            |(refine⟨trivial,?_⟩;gi_at_call 287;(with_reducible refine (callsIn_wide.2 KA.out).mono ?_);rintro e w1 ⟨rfl,rfl⟩;clear KA)
            |(refine⟨trivial,?_⟩;gi_at_call 287;(with_reducible refine (callsIn_wide.2 KB.out).mono ?_);rintro e w1 ⟨rfl,rfl⟩;clear KB))
     refine hR.mono ?_;rintro e W3 (⟨rfl,hJ3,hk3⟩|⟨rfl,hJx3⟩)
     ·have RA3:=hd_ (RA.out W3 hk3)
      have RB3:=hd_ (RB.out W3 hk3);have J3:=hd_ hJ3;clear RA RB hk3 hJ3 hR hy
      gi_wp2_with (first
              |(refine⟨trivial,?_⟩;gi_at_call 288;(with_reducible refine (callsIn_wide.2 RA3.out).mono ?_);rintro e w1 ⟨qa,ea,rfl,oa,rfl⟩;clear RA3)
              |(refine⟨trivial,?_⟩;gi_at_call 288;(with_reducible refine (callsIn_wide.2 RB3.out).mono ?_);rintro e w1 ⟨qb,eb,rfl,ob,rfl⟩;clear RB3))
      go_roundw
      case rel=>exact⟨pre++[M],aX xs M,aX ys' M,k',oa,ob,MA.out,MB.out,HB.out,by have h1:=LE.out;have h2:=HK.out;omega,by have h1:=LE.out;have h2:=HPR.out;simp;omega,rfl,rfl,J3.out⟩
      case measure=>have h1:=LE.out;have h2:=NX.out;have h3:=NY.out;simp[qZ];omega
     ·have JX:=hd_ hJx3
      have PF:Hid (pre++[M]<+:jI zs ys):=⟨_,HB.out⟩
      clear hJx3
      gi_wp2
      refine bodyPost_ret (results_none rfl _ _ _) rfl ?_;exact⟨⟨_,rfl⟩,.inr ⟨pre++[M],PF.out,JX.out⟩⟩
    ·gi_wp2_with (first
            |(refine⟨trivial,?_⟩;gi_at_call 287;(with_reducible refine (callsIn_wide.2 KA.out).mono ?_);rintro e w1 ⟨rfl,rfl⟩;clear KA)
            |(refine⟨trivial,?_⟩;gi_at_call 287;(with_reducible refine (callsIn_wide.2 KB.out).mono ?_);rintro e w1 ⟨rfl,rfl⟩;clear KB))
     refine hR.mono ?_;rintro e W3 (⟨rfl,hJ3,hk3⟩|⟨rfl,hJx3⟩)
     ·have RA3:=hd_ (RA.out W3 hk3)
      have RB3:=hd_ (RB.out W3 hk3);have J3:=hd_ hJ3;clear RA RB hk3 hJ3 hR hy
      gi_wp2_with (first
              |(refine⟨trivial,?_⟩;gi_at_call 288;(with_reducible refine (callsIn_wide.2 RA3.out).mono ?_);rintro e w1 ⟨qa,ea,rfl,oa,rfl⟩;clear RA3)
              |(refine⟨trivial,?_⟩;gi_at_call 288;(with_reducible refine (callsIn_wide.2 RB3.out).mono ?_);rintro e w1 ⟨qb,eb,rfl,ob,rfl⟩;clear RB3))
      go_roundw
      case rel=>exact⟨pre++[M],aX xs M,aX ys' M,k',oa,ob,MA.out,MB.out,HB.out,by have h1:=LE.out;have h2:=HK.out;omega,by have h1:=LE.out;have h2:=HPR.out;simp;omega,rfl,rfl,J3.out⟩
      case measure=>have h1:=LE.out;have h2:=NX.out;have h3:=NY.out;simp[qZ];omega
     ·have JX:=hd_ hJx3
      have PF:Hid (pre++[M]<+:jI zs ys):=⟨_,HB.out⟩
      clear hJx3
      gi_wp2
      refine bodyPost_ret (results_none rfl _ _ _) rfl ?_;exact⟨⟨_,rfl⟩,.inr ⟨pre++[M],PF.out,JX.out⟩⟩
attribute [local go_sem] Oper.semAt_some
theorem yU (w:World) (u v:Value) (x y:Option Addr) (n m c d:Nat) (hu:u=.slice x n c) (hv:v=.slice y m d):
  Calls Tryz.prog 249 #[u,v] w fun e w'=>e=.returned (.func (.func 286) #[] #[.pointer (some ⟨w.heap.size,0,none⟩),.pointer (some ⟨w.heap.size+1,0,none⟩)])/\w'=(w.alloc (.cells #[u] 23)).alloc (.cells #[v] 23):=by
 subst hu hv;refine (callsIn_wide (n:=3)).1 ?_;refine callsIn_of_wp Tryz.func249 rfl trivial ?_ rfl;simp only[Tryz.ntmps249,List.size_toArray,List.length_cons,List.length_nil,Nat.reduceAdd,Nat.reduceSub,Array.replicate_succ,Array.replicate_zero,List.push_toArray,List.append_toArray,List.nil_append,List.cons_append]
 gi_wp2
 go_ret;exact⟨rfl,rfl⟩
theorem aDF {zs:List Int} {x:Int}:x ∈ zs↔∃i,i<zs.length/\zs.getD i 0=x:=by
 constructor
 ·intro h
  obtain⟨i,hi,rfl⟩:=List.getElem_of_mem h;exact⟨i,hi,by simp[hi]⟩
 ·rintro⟨i,hi,rfl⟩
  exact kO zs i 0 hi
theorem aES (n:Nat) (hn:1<=n) (Ba Bb n₀:Nat) (u v:Value) (zs ys:List Int) (hz:∀z ∈ zs,z<64) (hy:∀z ∈ ys,z<64) (w:World) (hBa:Ba<w.heap.size) (hBb:Bb<w.heap.size) (hn₀:n₀<=w.heap.size)
  (hA:w.cell? ⟨Ba,0,none⟩=some u) (hB:w.cell? ⟨Bb,0,none⟩=some v) (iA:InB n₀ w u zs) (iB:InB n₀ w v ys):
  SeqStopsK Fence.wide n Tryz.prog 286 #[.pointer (some ⟨Ba,0,none⟩),.pointer (some ⟨Bb,0,none⟩)] (fun x:Int=>#[Value.int .i64 x]) (Below n₀) (fun xs=>xs=jI zs ys) (fun pre=>pre<+:jI zs ys) (zs.length+ys.length) w:=fun l J Jx W hW hJ _ hY h0=>
 aIT n hn l Ba Bb n₀ u v zs ys hz hy J Jx hY (fun s W1 h=>hJ s W1 W1.drew none h ⟨rfl,rfl,rfl,Nat.le_refl _,fun _ _ _=>rfl⟩ (fun _ e=>by cases e)) W ((hW.cell (p:=⟨Ba,0,none⟩) hBa).trans hA) ((hW.cell (p:=⟨Bb,0,none⟩) hBb).trans hB) (iA.below (hW.mono hn₀)) (iB.below (hW.mono hn₀)) h0
theorem aAD (w:World) (u v:Value) (zs ys:List Int) (ha:cW w u zs) (hb:cW w v ys) (oka:eK zs=true) (okb:eK ys=true):
  Calls Tryz.prog 196 #[.agg #[u],.agg #[v]] w fun e w'=>∃v',e=.returned (.tuple #[.agg #[v'],.bool true])/\bG w' w.heap.size v' ((jI zs ys).take 6)/\Below w.heap.size w w':=by
 obtain⟨i0,hi,hz0,hz1,hz2⟩:=info_parts uE;have hA:=(((Below.refl w.heap.size w).alloc lr_ (.cells #[u] 38)).alloc (by simp) (.cells #[v] 38)).alloc (by simp;omega) (.cells #[.slice none 0 0] 38);have z64:∀z ∈ zs,z<64:=fun z hz=>by
  obtain⟨i,hi,rfl⟩:=aDF.1 hz;have:=((gU oka).2.1 i hi).2;omega
 have y64:∀z ∈ ys,z<64:=fun z hz=>by
  obtain⟨i,hi,rfl⟩:=aDF.1 hz;have:=((gU okb).2.1 i hi).2;omega
 have la:=(gU oka).1;have lb:=(gU okb).1;have IA:=hd_ ha.inB;have IB:=hd_ hb.inB;have KA:=hd_ (mC _ u zs (ha.below hA lr_));have JB:=hd_ (hb.below hA lr_);rw[oka]at KA;have HA:=hd_ hA;obtain⟨⟨x,c,hx⟩,_⟩:=ha.cases;obtain⟨⟨y,d,hy⟩,_⟩:=hb.cases;obtain⟨na,hna⟩:∃n,n=zs.length:=⟨_,rfl⟩
 obtain⟨nb,hnb⟩:∃n,n=ys.length:=⟨_,rfl⟩
 rw[<-hna]at hx;rw[<-hnb]at hy;have NA:=hd_ hna;have NB:=hd_ hnb;subst hx hy;obtain⟨w0,hw0⟩:∃w0,w0=((w.alloc (.cells #[.slice x na c] 38)).alloc (.cells #[.slice y nb d] 38)).alloc (.cells #[.slice none 0 0] 38):=⟨_,rfl⟩
 have c0:w0.cell? ⟨w.heap.size,0,none⟩=some (.slice x na c):=by rw[hw0,World.cell?_alloc_past (hn:=by simp;omega),World.cell?_alloc_past (hn:=by simp)];simp
 have c1:w0.cell? ⟨w.heap.size+1,0,none⟩=some (.slice y nb d):=by rw[hw0,World.cell?_alloc_past (hn:=by simp),World.cell?_alloc_at (hn:=by simp)];simp
 have b2:Go.Boxed w0 (w.heap.size+1+1) 38 (.slice none 0 0):=by
  rw[hw0];have:=Go.Boxed.new ((w.alloc (.cells #[.slice x na c] 38)).alloc (.cells #[.slice y nb d] 38)) 38 (.slice none 0 0);simpa using this
 have S0:Hid (w0.heap.size=w.heap.size+3):=by show w0.heap.size=_;rw[hw0];simp
 rw[<-hw0]at KA JB HA;have B2:=hd_ b2;have HW:=hd_ hw0;clear ha hb hA hna hnb hw0 b2 oka la lb;refine (callsIn_wide (n:=9)).1 ?_;refine callsIn_of_wp_marks Tryz.func196 rfl trivial ?_ rfl
 simp only[Tryz.ntmps196,List.size_toArray,List.length_cons,List.length_nil,Nat.reduceAdd,Nat.reduceSub,Array.replicate_succ,Array.replicate_zero,List.push_toArray,List.append_toArray,List.nil_append,List.cons_append]
 gi_wp2_with fail
 rw[<-HW.out];refine⟨trivial,(callsIn_wide.2 KA.out).mono ?_⟩;rintro e w1 ⟨rfl,hb1⟩;have c01:=cell_later hb1 c0;have c11:=cell_later hb1 c1;have KB:=hd_ (mC w1 _ ys (JB.out.below hb1 lr_));rw[okb]at KB;have BX1:Hid (Go.Boxed w1 (w.heap.size+1+1) 38 (.slice none 0 0)):=(hb1.block _ B2.out.lt).trans B2.out;have L1:=hd_ (HA.out.trans (hb1.mono HA.out.size))
 have S1:Hid (w.heap.size+3<=w1.heap.size):=by have h1:=S0.out;have h2:=hb1.size;show _<=_;omega
 clear hb1 c0 c1 okb
 gi_wp2_with fail
 refine⟨trivial,(callsIn_wide.2 KB.out).mono ?_⟩;rintro e w2 ⟨rfl,hb2⟩;have c02:=cell_later hb2 c01;have c12:=cell_later hb2 c11;have BX2:Hid (Go.Boxed w2 (w.heap.size+1+1) 38 (.slice none 0 0)):=(hb2.block _ BX1.out.lt).trans BX1.out;have L2:=hd_ (L1.out.trans (hb2.mono L1.out.size));have S2:Hid (w.heap.size+3<=w2.heap.size):=by have h1:=S1.out;have h2:=hb2.size;show _<=_;omega
 have l0:w.heap.size<w2.heap.size:=World.block_lt_of_cell? _ _ c02;have l1:w.heap.size+1<w2.heap.size:=World.block_lt_of_cell? _ _ c12;have c03:(w2.alloc (.cells #[.slice none 0 0] 23)).cell? ⟨w.heap.size,0,none⟩=some (.slice x na c):=by rw[World.cell?_alloc_past (hn:=l0)];exact c02
 have c13:(w2.alloc (.cells #[.slice none 0 0] 23)).cell? ⟨w.heap.size+1,0,none⟩=some (.slice y nb d):=by rw[World.cell?_alloc_past (hn:=l1)];exact c12
 have e1:¬w.heap.size=w2.heap.size:=by omega
 have e2:¬w.heap.size+1=w2.heap.size:=by omega
 clear hb2 c01 c11
 gi_wp2_with fail
 refine⟨trivial,(callsIn_wide.2 (yU _ _ _ x y na nb c d rfl rfl)).mono ?_⟩;rintro e w3 ⟨rfl,hw3⟩;have s3:w3.heap.size=w2.heap.size+3:=by rw[hw3];simp
 have kb:Go.Boxed w3 w2.heap.size 23 (.slice none 0 0):=by rw[hw3];exact ((Go.Boxed.new w2 23 (.slice none 0 0)).alloc _).alloc _
 have rb:Go.Boxed w3 (w.heap.size+1+1) 38 (.slice none 0 0):=by rw[hw3];exact ((BX2.out.alloc _).alloc _).alloc _
 have ca:w3.cell? ⟨w2.heap.size+1,0,none⟩=some (.slice x na c):=by rw[hw3,World.cell?_alloc_past (hn:=by simp),World.cell?_alloc_at (hn:=by simp)];simp
 have cb:w3.cell? ⟨w2.heap.size+2,0,none⟩=some (.slice y nb d):=by rw[hw3,World.cell?_alloc_at (hn:=by simp)];simp
 have hB3:Below w.heap.size w w3:=by
  have h2:=S2.out;have:=((L2.out.alloc (o:=.cells #[.slice none 0 0] 23) L2.out.size).alloc (o:=.cells #[.slice x na c] 23) (by have:=L2.out.size;simp;omega)).alloc (o:=.cells #[.slice y nb d] 23) (by have:=L2.out.size;simp;omega);rw[hw3];exact this
 have B3:=hd_ hB3;have HW3:=hd_ hw3;have lw:Hid (w.heap.size+3<=w2.heap.size):=S2.out;clear hw3 c02 c12 c03 c13 hB3 l0 l1 e1 e2;simp only[World.size_alloc]
 gi_wp2
 refine wpIn_rangeFunc_ownG rfl (by omega) (gf:=286) (lb:=#[.pointer (some ⟨w2.heap.size+1,0,none⟩),.pointer (some ⟨w2.heap.size+1+1,0,none⟩)]) rfl trivial (enters_of Tryz.func286 (by kernel_rfl) rfl)
  (aES 8 (by omega) (w2.heap.size+1) (w2.heap.size+2) w.heap.size _ _ zs ys z64 y64 w3 (by omega) (by omega) B3.out.size ca cb (IA.out.below B3.out) (IB.out.below B3.out)) belowK_t (belowK_b (by have:=lw.out;omega)) (Below.refl _ _) (fun _=>rfl)
  (fun (pre:List Int) W=>(∃v,Go.Boxed W w2.heap.size 23 v/\W.ownsRow w.heap.size 3 1 v pre.length (bM pre)/\True)/\Go.Boxed W (w.heap.size+1+1) 38 (.slice none 0 0)/\Below w.heap.size w W/\pre.length<=6)
  (fun c (pre:List Int) W=>(c=.exit 0/\pre.length=7)/\(∃v,Go.Boxed W w2.heap.size 23 v/\W.ownsRow w.heap.size 3 1 v 6 (bM (pre.take 6))/\True)/\Go.Boxed W (w.heap.size+1+1) 38 (.slice none 0 0)/\Below w.heap.size w W)
  (OwnFrom.and (Own.from (holdsRow_own w.heap.size w2.heap.size 23 3 1 (fun pre:List Int=>pre.length) (fun pre=>bM pre) (fun _ _=>True)) _) (OwnFrom.and (Own.from (boxed_own (w.heap.size+1+1) 38 (fun _=>.slice none 0 0)) _) (OwnFrom.and (ownFrom_below lr_ B3.out.size) (ownFrom_pure _ (fun pre:List Int=>pre.length<=6)))))
  (fun c=>OwnFrom.and (ownFrom_pure _ (fun pre:List Int=>c=.exit 0/\pre.length=7)) (OwnFrom.and (Own.from (holdsRow_own w.heap.size w2.heap.size 23 3 1 (fun _=>6) (fun pre:List Int=>bM (pre.take 6)) (fun _ _=>True)) _) (OwnFrom.and (Own.from (boxed_own (w.heap.size+1+1) 38 (fun _=>.slice none 0 0)) _) (ownFrom_below lr_ B3.out.size))))
  ⟨⟨_,kb,World.ownsRow_nil _ _ _ _,trivial⟩,rb,B3.out,by simp⟩
  (fun m=>{ tmps:=#[.agg #[.slice x na c],.agg #[.slice y nb d],.pointer (some ⟨w.heap.size,0,none⟩),.pointer (some ⟨w.heap.size+1,0,none⟩),.pointer (some ⟨w.heap.size+1+1,0,none⟩),.bool false,.pointer (some ⟨w2.heap.size,0,none⟩),.int .i64 m,.agg #[.slice x na c],.bool true,.bool false,.bool false,.agg #[.slice y nb d],.bool true,.bool false,.bool false,undef,.pointer (some ⟨w.heap.size,0,none⟩),.slice x na c,.pointer (some ⟨w.heap.size+1,0,none⟩),.slice y nb d,.func (.func 286) #[] #[.pointer (some ⟨w2.heap.size+1,0,none⟩),.pointer (some ⟨w2.heap.size+1+1,0,none⟩)],.int .i64 m,undef,undef,undef,undef,undef,undef,undef,undef,undef],defers:=[] }) ?assign ?body ?done ?stop
 case assign=>
  intro l x W K hK
  gi_wp2
  exact hK
 case body=>
  rintro l pre m W ⟨⟨v,hv,hrow,_⟩,hR,hB,hp6⟩ hlt;have hf:=(show bG W w.heap.size v pre from hrow).form;obtain⟨xv,cv,rfl⟩:=hf;obtain⟨np,hnp⟩:∃np,np=pre.length:=⟨_,rfl⟩
  rw[<-hnp]at hv hrow hp6;have hc:=hv.cell;have NP:=hd_ hnp;have HR:=hd_ hR;have HBW:=hd_ hB;have lS:=hB.size;have lw3:=lw.out;have dR:=hR.not_row (by decide) hrow;clear hR hB hnp hlt
  by_cases h6:np=6
  ·subst h6
   gi_wp2
   refine⟨KeepsFrom.refl _ _,⟨rfl,by simp;rw[<-NP.out]⟩,⟨_,hv,?_,trivial⟩,HR.out,HBW.out⟩;have e:(pre++[m]).take 6=pre:=by rw[List.take_append_of_le_length (by rw[<-NP.out];exact Nat.le_refl _),List.take_of_length_le (by rw[<-NP.out];exact Nat.le_refl _)]
   rw[e];exact hrow
  ·have n6:¬(np:Int)=6:=by omega
   have n6':((np:Int)==6)=false:=by simp;omega
   gi_wp2_with (gi_at_builtin;refine wpListIn_append_own _ rfl _ _ 23 rfl w.heap.size 3 i0 (.int .i64 0) 1 8 Tryz.underlying23 hi hz0 hz1 hz2 rfl (by decide) _ _ _ rfl (hrow.alloc _) ⟨W.heap.size,0,none⟩ 1 1 [.int .i64 m] rfl rfl (cell_one_new _ _ _) (by simp[Value.oneCell']) (by unfold maxLen;omega) (by omega) (by simp;omega) ?_;intro v' w1 hown' hgrow _;obtain⟨g',cap',rfl,_,_⟩:=World.ownsRow.form hown' (Nat.succ_pos _);obtain⟨hv1,hv2,hr2,hk2,hb2⟩:=hv.appended (by decide) hrow lS (by omega) hown' hgrow;have hR1:=(HR.out.alloc _).kept hgrow dR;have hc1:=hv1.cell;have hf1:=hv1.frozen)
   refine⟨hk2.from _,hb2,⟨_,hv2,?_,trivial⟩,hR1.other (by omega) _,HBW.out.trans hb2,by simp;rw[<-NP.out];omega⟩;rw[List.length_append, <-NP.out,vF];exact hr2
 case done=>
  rintro D xs W hD rfl ⟨⟨v,hv,hrow,_⟩,hR,hB,hp6⟩ hK;have hf:=(show bG W w.heap.size v (jI zs ys)from hrow).form;obtain⟨xv,cv,rfl⟩:=hf;obtain⟨np,hnp⟩:∃np,np=(jI zs ys).length:=⟨_,rfl⟩
  rw[<-hnp]at hv hrow hp6;have hc:=hv.cell;have hRc:=hR.cell;have hRf:=hR.frozen;have NP:=hd_ hnp;have HB:=hd_ hB;have lw3:=lw.out;clear hB hnp
  gi_wp2
  have hK2:=(KeepsOthers.setCell W ⟨w.heap.size+1+1,0,none⟩ (.slice xv np cv)).same D _ hK rfl;refine⟨by simp,.inl ⟨_,_,rfl,run_takeDeferred hK2,?_⟩⟩;have b4:=((hR.set (.slice xv np cv)).kept (grownBy_putObj' _ D (.deferred none)) (by simp;omega))
  have hr:=b4.cell;have o2:=(hrow.kept (grownBy_setCell' W (w.heap.size+1+1) (.slice xv np cv)) (.inr (hR.not_row (by decide) hrow).symm))
  have o3:=ownsRow_putObj o2 (.deferred none) hK2 rfl;have hb4:Below w.heap.size W (W.setCell ⟨w.heap.size+1+1,0,none⟩ (.slice xv np cv)):=(Below.refl _ _).setCell (by simp;omega) _;refine⟨.tuple #[.agg #[.slice xv np cv],.bool true],by simp[results,Tryz.results196,go_sem,hr],_,rfl,?_,(HB.out.trans hb4).trans (belowK_b (w:=w) lr_ _ D _ _ (by omega) hK2 rfl rfl)⟩;unfold bG
  have e:(jI zs ys).take 6=jI zs ys:=List.take_of_length_le (by rw[<-NP.out];exact hp6);rw[e, <-NP.out];exact o3
 case stop=>
  rintro D cj pre W hD hpf ⟨⟨rfl,h7⟩,⟨v,hv,hrow,_⟩,hR,hB⟩ hK;have l6:(pre.take 6).length=6:=by simp;omega
  have hf:=(show bG W w.heap.size v (pre.take 6)from by unfold bG;rw[l6];exact hrow).form;rw[l6]at hf;obtain⟨xv,cv,rfl⟩:=hf;obtain⟨np,hnp⟩:∃np,np=6:=⟨_,rfl⟩
  rw[<-hnp]at hv hrow;have hc:=hv.cell;have hRc:=hR.cell;have hRf:=hR.frozen;have NP:=hd_ hnp;have HB:=hd_ hB;have lw3:=lw.out;have PF:=hd_ hpf;clear hB hnp hpf
  gi_wp2
  have hK2:=(KeepsOthers.setCell W ⟨w.heap.size+1+1,0,none⟩ (.slice xv np cv)).same D _ hK rfl;refine⟨by simp,.inl ⟨_,_,rfl,run_takeDeferred hK2,?_⟩⟩;have b4:=((hR.set (.slice xv np cv)).kept (grownBy_putObj' _ D (.deferred none)) (by simp;omega))
  have hr:=b4.cell;have o2:=(hrow.kept (grownBy_setCell' W (w.heap.size+1+1) (.slice xv np cv)) (.inr (hR.not_row (by decide) hrow).symm))
  have o3:=ownsRow_putObj o2 (.deferred none) hK2 rfl;have hb4:Below w.heap.size W (W.setCell ⟨w.heap.size+1+1,0,none⟩ (.slice xv np cv)):=(Below.refl _ _).setCell (by simp;omega) _;refine⟨.tuple #[.agg #[.slice xv np cv],.bool true],by simp[results,Tryz.results196,go_sem,hr],_,rfl,?_,(HB.out.trans hb4).trans (belowK_b (w:=w) lr_ _ D _ _ (by omega) hK2 rfl rfl)⟩
  have e:(jI zs ys).take 6=pre.take 6:=by
   obtain⟨r,hr'⟩:=PF.out;rw[<-hr',List.take_append_of_le_length (by omega)]
  unfold bG;rw[e,l6, <-NP.out];exact o3
end Go.Proofs.YtcblbdpdbggkbaaGreat
namespace Go.Proofs.YtcblbdpdbggkbaaGreat
open Go.RowKit
abbrev Asc (zs:List Int):Prop:=zs.Pairwise (· <·)
theorem tO:∀{X Y:List Int},Asc X->Asc Y->(∀z,z ∈ X↔z ∈ Y)->X=Y
 | [],[],_,_,_=>rfl
 | [],y::Y,_,_,h=>by have:=(h y).2 (by simp);simp at this
 |x::X,[],_,_,h=>by have:=(h x).1 (by simp);simp at this
 |x::X,y::Y,hx,hy,h=>by
  obtain⟨x1,x2⟩:=List.pairwise_cons.1 hx;obtain⟨y1,y2⟩:=List.pairwise_cons.1 hy;have e:x=y:=by
   have h1:=(h x).1 (by simp);have h2:=(h y).2 (by simp);simp only[List.mem_cons]at h1 h2;rcases h1 with h1|h1
   ·exact h1
   ·rcases h2 with h2|h2
    ·exact h2.symm
    ·have:=y1 x h1;have:=x1 y h2;omega
  subst e
  congr 1
  refine tO x2 y2 fun z=>?_
  have hz:=h z;simp only[List.mem_cons]at hz
  constructor
  ·intro q
   have:=x1 z q;rcases hz.1 (.inr q)with e|e
   ·omega
   ·exact e
  ·intro q
   have:=y1 z q;rcases hz.2 (.inr q)with e|e
   ·omega
   ·exact e
def ins (m:Int):List Int->List Int
 | []=>[m]
 |x::xs=>if m<x then m::x::xs else if m=x then x::xs else x::ins m xs
theorem aB8 (m:Int):∀(zs:List Int) (z:Int),z ∈ ins m zs↔z=m\/z ∈ zs
 | [],z=>by simp[ins]
 |x::xs,z=>by
  unfold ins
  by_cases h1:m<x
  ·rw[if_pos h1];simp
  ·rw[if_neg h1]
   by_cases h2:m=x
   ·rw[if_pos h2];subst h2;simp
   ·rw[if_neg h2]
    simp only[List.mem_cons,aB8 m xs z]
    constructor
    ·rintro (h|h|h)
     ·exact .inr (.inl h)
     ·exact .inl h
     ·exact .inr (.inr h)
    ·rintro (h|h|h)
     ·exact .inr (.inl h)
     ·exact .inl h
     ·exact .inr (.inr h)
theorem aFY (m:Int):∀{zs:List Int},Asc zs->Asc (ins m zs)
 | [],_=>by simp[ins]
 |x::xs,h=>by
  obtain⟨h1,h2⟩:=List.pairwise_cons.1 h;unfold ins
  by_cases q1:m<x
  ·rw[if_pos q1]
   refine List.pairwise_cons.2 ⟨fun z hz=>?_,h⟩;simp only[List.mem_cons]at hz;rcases hz with rfl|hz
   ·exact q1
   ·have:=h1 z hz;omega
  ·rw[if_neg q1]
   by_cases q2:m=x
   ·rw[if_pos q2];exact h
   ·rw[if_neg q2]
    refine List.pairwise_cons.2 ⟨fun z hz=>?_,aFY m h2⟩;rcases (aB8 m xs z).1 hz with rfl|hz
    ·omega
    ·exact h1 z hz
theorem aDJ (m:Int):∀(zs:List Int) (k:Nat),(ins m (zs.take k)).take k=(ins m zs).take k
 |_,0=>by simp
 | [],k+1=>by simp
 |x::xs,k+1=>by
  rw[List.take_succ_cons];unfold ins
  by_cases q1:m<x
  ·rw[if_pos q1,if_pos q1,List.take_succ_cons,List.take_succ_cons]
   congr 1
   cases k with
   |zero=>simp
   |succ k=>rw[List.take_succ_cons,List.take_succ_cons,List.take_take];congr 2;omega
  ·rw[if_neg q1,if_neg q1]
   by_cases q2:m=x
   ·rw[if_pos q2,if_pos q2,List.take_succ_cons,List.take_succ_cons,List.take_take];congr 2;omega
   ·rw[if_neg q2,if_neg q2,List.take_succ_cons,List.take_succ_cons,aDJ m xs k]
theorem uS (m:Int):∀{zs:List Int},(∀z ∈ zs,m<z)->nP m zs true=zs
 | [],_=>rfl
 |x::xs,h=>by
  have h1:=h x (by simp);rw[aKQ _ (.inl rfl) (by omega),uS m (fun z hz=>h z (by simp[hz]))]
  rfl
theorem aDr (m:Int):∀{zs:List Int},Asc zs->nP m zs false=ins m zs
 | [],_=>rfl
 |x::xs,h=>by
  obtain⟨h1,h2⟩:=List.pairwise_cons.1 h;unfold ins
  by_cases q1:m<x
  ·rw[if_pos q1,aL2 _ (by omega) (by omega),uS m (fun z hz=>by have:=h1 z hz;omega)];rfl
  ·rw[if_neg q1]
   by_cases q2:m=x
   ·subst q2
    rw[if_pos rfl,aLM,uS m h1];rfl
   ·rw[if_neg q2,aKQ _ (.inr (by omega)) (by omega),aDr m h2];rfl
def dT (zs ys:List Int):List Int:=ys.foldl (fun acc m=>ins m acc) zs
theorem fX:∀(ys zs:List Int) (z:Int),z ∈ dT zs ys↔z ∈ zs\/z ∈ ys
 | [],zs,z=>by simp[dT]
 |y::ys,zs,z=>by
  show z ∈ dT (ins y zs) ys↔_
  rw[fX ys,aB8];simp only[List.mem_cons]
  constructor
  ·rintro ((h|h)|h)
   ·exact .inr (.inl h)
   ·exact .inl h
   ·exact .inr (.inr h)
  ·rintro (h|h|h)
   ·exact .inl (.inr h)
   ·exact .inl (.inl h)
   ·exact .inr h
theorem gK:∀(ys:List Int) {zs:List Int},Asc zs->Asc (dT zs ys)
 | [],_,h=>h
 |y::ys,_,h=>gK ys (aFY y h)
theorem mD (k:Nat):∀(ys zs:List Int),(dT (zs.take k) ys).take k=(dT zs ys).take k
 | [],zs=>by show (zs.take k).take k=zs.take k;rw[List.take_take];congr 1;omega
 |y::ys,zs=>by
  show (dT (ins y (zs.take k)) ys).take k=(dT (ins y zs) ys).take k
  rw[<-mD k ys (ins y (zs.take k)), <-mD k ys (ins y zs),aDJ]
def dW (zs ys:List Int):List Int:=(dT zs ys).take 6
theorem pD {zs ys:List Int} (hz:Asc zs) (hy:Asc ys):dT zs ys=dT ys zs:=
 tO (gK _ hz) (gK _ hy) fun z=>by rw[fX,fX];exact Or.comm
theorem aEy {zs ys:List Int} (hz:Asc zs) (hy:Asc ys):dW zs ys=dW ys zs:=by unfold dW;rw[pD hz hy]
theorem aBi {zs ys:List Int} (hz:Asc zs):Asc (dW zs ys):=(gK ys hz).take
theorem aDO {zs ys xs:List Int} (hz:Asc zs) (hy:Asc ys):dT (dT zs ys) xs=dT zs (dT ys xs):=
 tO (gK _ (gK _ hz)) (gK _ hz) fun z=>by rw[fX,fX,fX,fX];exact or_assoc
theorem aD3 {zs ys xs:List Int} (hz:Asc zs) (hy:Asc ys) (hx:Asc xs):dW (dW zs ys) xs=dW zs (dW ys xs):=by
 have e1:dW (dW zs ys) xs=(dT (dT zs ys) xs).take 6:=mD 6 xs (dT zs ys);have e2:dW zs (dW ys xs)=(dT (dT ys xs) zs).take 6:=by
  rw[aEy hz (aBi hy)];exact mD 6 zs (dT ys xs)
 rw[e1,e2,aDO hz hy,pD hz (gK _ hy)]
theorem aFs {zs ys:List Int} (hz:Asc zs) (hy:Asc ys):dW (dW zs ys) ys=dW zs ys:=by
 rw[aD3 hz hy hy];unfold dW;have e:dT ys ys=ys:=tO (gK _ hy) hy fun z=>by rw[fX];exact or_self_iff
 rw[e];rw[pD hz (List.Pairwise.take hy),mD,pD hz hy]
theorem wS {u m:Int} (us:List Int) (h:u=m):aX (u::us) m=us:=by
 unfold aX;rw[if_pos (show aV (u::us)=m from h)]
 rfl
theorem zZ {u m:Int} (us:List Int) (h:¬u=m):aX (u::us) m=u::us:=if_neg h
theorem vB:∀(k:Nat) (zs ys:List Int),(∀z ∈ zs,z<64)->(∀z ∈ ys,z<64)->zs.length+ys.length<=k->∀z,z ∈ oC k zs ys↔z ∈ zs\/z ∈ ys
 | 0,zs,ys,_,_,hk,z=>by
  have h1:zs=[]:=List.eq_nil_of_length_eq_zero (by omega);have h2:ys=[]:=List.eq_nil_of_length_eq_zero (by omega);subst h1 h2;simp[oC]
 |k+1,zs,ys,hz,hy,hk,z=>by
  unfold oC
  by_cases hE:zs=[]/\ys=[]
  ·rw[if_pos hE,hE.1,hE.2];simp
  ·rw[if_neg hE]
   obtain⟨m64,hlt⟩:=uZ hz hy hE;obtain⟨M,hM⟩:∃M,M=min (aV zs) (aV ys):=⟨_,rfl⟩
   rw[<-hM]at m64 hlt ⊢;rw[List.mem_cons,vB k _ _ (fun z h=>hz z (dQ h)) (fun z h=>hy z (dQ h)) (by omega)];have bm:∀us:List Int,(z ∈ us/\z≠M->z ∈ aX us M)/\(aV us=M->us≠[]->M ∈ us):=fun us=>by
    cases us with
    |nil=>exact⟨fun h=>by simp at h,fun _ h=>absurd rfl h⟩
    |cons u us=>
     refine⟨fun h=>?_,fun h _=>by rw[<-show u=M from h];simp⟩
     by_cases e:u=M
     ·rw[wS us e]
      subst e;simp only[List.mem_cons]at h;rcases h.1 with h1|h1
      ·exact absurd h1 h.2
      ·exact h1
     ·rw[zZ us e]
      exact h.1
   constructor
   ·rintro (rfl|h|h)
    ·by_cases h3:aV zs<=aV ys
     ·have e:aV zs=z:=by omega
      refine .inl ((bm zs).2 e fun q=>?_);rw[q]at e;rw[<-e]at m64;exact absurd m64 (by decide)
     ·have e:aV ys=z:=by omega
      refine .inr ((bm ys).2 e fun q=>?_);rw[q]at e;rw[<-e]at m64;exact absurd m64 (by decide)
    ·exact .inl (dQ h)
    ·exact .inr (dQ h)
   ·intro h
    by_cases e:z=M
    ·exact .inl e
    ·exact .inr (h.imp (fun q=>(bm zs).1 ⟨q,e⟩) (fun q=>(bm ys).1 ⟨q,e⟩))
theorem wU {zs:List Int} (h:Asc zs) (m:Int):Asc (aX zs m):=by unfold aX;split;exact h.tail;exact h
theorem zH {zs:List Int} (h:Asc zs) {m:Int} (hm:m<=aV zs):∀z ∈ aX zs m,m<z:=fun z hz=>by
 cases zs with
 |nil=>have:=dQ hz;cases this
 |cons x xs=>
  have h1:=(List.pairwise_cons.1 h).1;have hm':m<=x:=hm
  by_cases e:x=m
  ·rw[wS xs e]at hz
   have:=h1 z hz;omega
  ·rw[zZ xs e]at hz
   simp only[List.mem_cons]at hz;rcases hz with rfl|hz
   ·omega
   ·have:=h1 z hz;omega
theorem aBq:∀(k:Nat) (zs ys:List Int),Asc zs->Asc ys->(∀z ∈ zs,z<64)->(∀z ∈ ys,z<64)->zs.length+ys.length<=k->Asc (oC k zs ys)
 | 0,_,_,_,_,_,_,_=>by simp[oC]
 |k+1,zs,ys,az,ay,hz,hy,hk=>by
  unfold oC
  by_cases hE:zs=[]/\ys=[]
  ·rw[if_pos hE];exact List.Pairwise.nil
  ·rw[if_neg hE]
   obtain⟨m64,hlt⟩:=uZ hz hy hE;obtain⟨M,hM⟩:∃M,M=min (aV zs) (aV ys):=⟨_,rfl⟩
   rw[<-hM]at m64 hlt ⊢;refine List.pairwise_cons.2 ⟨fun z hz'=>?_,aBq k _ _ (wU az M) (wU ay M) (fun z h=>hz z (dQ h)) (fun z h=>hy z (dQ h)) (by omega)⟩;rcases (vB k _ _ (fun z h=>hz z (dQ h)) (fun z h=>hy z (dQ h)) (by omega) z).1 hz' with h|h
   ·exact zH az (by omega) z h
   ·exact zH ay (by omega) z h
theorem aHv {zs ys:List Int} (az:Asc zs) (ay:Asc ys) (hz:∀z ∈ zs,z<64) (hy:∀z ∈ ys,z<64):(jI zs ys).take 6=dW zs ys:=by
 have:jI zs ys=dT zs ys:=tO (aBq _ _ _ az ay hz hy lr_) (gK _ az) fun z=>by
  rw[fX];exact vB _ _ _ hz hy lr_ z
 rw[this];rfl
theorem aKd {zs:List Int} (h:eK zs=true):∀j i,i<j->j<zs.length->zs.getD i 0<zs.getD j 0:=by
 have hp:=(gU h).2.2;intro j
 induction j with
 |zero=>intro i hi;omega
 |succ j ih=>
  intro i hi hj;have h1:=hp j hj
  by_cases e:i=j
  ·subst e;exact h1
  ·have:=ih i (by omega) (by omega);omega
theorem pN {zs:List Int} (h:eK zs=true):Asc zs:=by
 rw[Asc,List.pairwise_iff_getElem];intro i j hi hj hij;have:=aKd h j i hij hj;simpa[hi,hj]using this
theorem aBH {zs:List Int} (h:eK zs=true):∀z ∈ zs,0<=z/\z<64:=fun z hz=>by
 obtain⟨i,hi,rfl⟩:=aKs.1 hz;have:=(gU h).2.1 i hi;omega
theorem aIY {zs:List Int} (ha:Asc zs) (hb:∀z ∈ zs,0<=z/\z<64) (hl:zs.length<=6):eK zs=true:=by
 refine vQ hl fun i hi=>⟨?_,fun h0=>?_⟩
 ·have:=hb _ (kO zs i 0 hi);omega
 ·have:=(List.pairwise_iff_getElem.1 ha) (i - 1) i (by omega) hi (by omega)
  simpa[hi,show i - 1<zs.length by omega]using this
theorem aGU {zs ys:List Int} (hz:eK zs=true) (hy:eK ys=true):eK (dW zs ys)=true:=by
 refine aIY (aBi (pN hz)) (fun z h=>?_) (by simp[dW];omega);rcases (fX ys zs z).1 (List.mem_of_mem_take h)with h|h
 ·exact aBH hz z h
 ·exact aBH hy z h
theorem uG {zs:List Int} (hz:Asc zs) (m:Int):nS zs m=dW zs [m]:=by
 unfold nS dW;rw[aDr m hz];rfl
end Go.Proofs.YtcblbdpdbggkbaaGreat
namespace Go.Proofs.YtcblbdpdbggkbaaGreat
open Go.RowKit Go.Sort
def fO (zs ys:List Int):Bool:=eK zs&&eK ys
def lL (zs ys:List Int):List Int:=if fO zs ys=true then dW zs ys else []
theorem wG {zs ys:List Int} (h:fO zs ys=true):lL zs ys=dW zs ys:=if_pos h
theorem zN {zs ys:List Int} (h:fO zs ys=false):lL zs ys=[]:=if_neg (by rw[h];simp)
theorem aGF (zs ys:List Int):eK (lL zs ys)=true:=by
 cases h:fO zs ys with
 |true=>
  rw[wG h];unfold fO at h;simp only[Bool.and_eq_true]at h;exact aGU h.1 h.2
 |false=>rw[zN h];decide
theorem kU {w w':World} {a:Addr} (hb:Below w.heap.size w w') (h:w.frozen? a=false) (hl:a.block<w.heap.size):w'.frozen? a=false:=by rw[hb.frozen hl];exact h
theorem aCo (w:World) (u v:Value) (zs ys:List Int) (ha:cW w u zs) (hb:cW w v ys) (hno:fO zs ys=false):
  Calls Tryz.prog 196 #[.agg #[u],.agg #[v]] w fun e w'=>e=.returned (.tuple #[.agg #[.slice none 0 0],.bool false])/\Below w.heap.size w w':=by
 have hA:=(((Below.refl w.heap.size w).alloc lr_ (.cells #[u] 38)).alloc (by simp) (.cells #[v] 38)).alloc (by simp;omega) (.cells #[.slice none 0 0] 38);have KA:=hd_ (mC _ u zs (ha.below hA lr_));have JB:=hd_ (hb.below hA lr_);have HA:=hd_ hA;obtain⟨⟨x,c,hx⟩,_⟩:=ha.cases;obtain⟨⟨y,d,hy⟩,_⟩:=hb.cases;obtain⟨na,hna⟩:∃n,n=zs.length:=⟨_,rfl⟩
 obtain⟨nb,hnb⟩:∃n,n=ys.length:=⟨_,rfl⟩
 rw[<-hna]at hx;rw[<-hnb]at hy;subst hx hy;obtain⟨w0,hw0⟩:∃w0,w0=((w.alloc (.cells #[.slice x na c] 38)).alloc (.cells #[.slice y nb d] 38)).alloc (.cells #[.slice none 0 0] 38):=⟨_,rfl⟩
 have c1:w0.cell? ⟨w.heap.size+1,0,none⟩=some (.slice y nb d):=by rw[hw0,World.cell?_alloc_past (hn:=by simp),World.cell?_alloc_at (hn:=by simp)];simp
 have c2:w0.cell? ⟨w.heap.size+1+1,0,none⟩=some (.slice none 0 0):=by rw[hw0,World.cell?_alloc_at (hn:=by simp)];simp
 have f2:w0.frozen? ⟨w.heap.size+1+1,0,none⟩=false:=by rw[hw0];exact World.frozen?_alloc_at _ _ _ _ (by simp)
 rw[<-hw0]at KA JB HA;have HW:=hd_ hw0;clear ha hb hA hna hnb hw0;cases hok:eK zs with
 |false=>
  rw[hok]at KA;clear hok hno;go_enter Tryz.func196,Tryz.ntmps196
  go_wp2_with fail
  rw[<-HW.out];refine KA.out.mono ?_;rintro e w1 ⟨rfl,hb1⟩;have c21:=cell_later hb1 c2;have f21:w1.frozen? ⟨w.heap.size+1+1,0,none⟩=false:=kU hb1 f2 (World.block_lt_of_cell? _ _ c2);have L1:=hd_ (HA.out.trans (hb1.mono HA.out.size));clear hb1;go_wp2;have hr:=World.cell?_setCell_same w1 ⟨w.heap.size+1+1,0,none⟩ (.slice none 0 0) c21
  exact bodyPost_ret (v:=.tuple #[.agg #[.slice none 0 0],.bool false]) (by simp[results,Tryz.results196,go_sem,hr]) rfl ⟨rfl,L1.out.setCell (by simp;omega) _⟩
 |true=>
  rw[hok]at KA;have okb:eK ys=false:=by unfold fO at hno;rw[hok]at hno;simpa using hno
  clear hok hno;go_enter Tryz.func196,Tryz.ntmps196
  go_wp2_with fail
  rw[<-HW.out];refine KA.out.mono ?_;rintro e w1 ⟨rfl,hb1⟩;have c11:=cell_later hb1 c1;have c21:=cell_later hb1 c2;have f21:w1.frozen? ⟨w.heap.size+1+1,0,none⟩=false:=kU hb1 f2 (World.block_lt_of_cell? _ _ c2);have KB:=hd_ (mC w1 _ ys (JB.out.below hb1 lr_));rw[okb]at KB;have L1:=hd_ (HA.out.trans (hb1.mono HA.out.size));clear hb1
  go_wp2_with fail
  refine KB.out.mono ?_;rintro e w2 ⟨rfl,hb2⟩;have c22:=cell_later hb2 c21;have f22:w2.frozen? ⟨w.heap.size+1+1,0,none⟩=false:=kU hb2 f21 (World.block_lt_of_cell? _ _ c21);have L2:=hd_ (L1.out.trans (hb2.mono L1.out.size));clear hb2;go_wp2;have hr:=World.cell?_setCell_same w2 ⟨w.heap.size+1+1,0,none⟩ (.slice none 0 0) c22
  exact bodyPost_ret (v:=.tuple #[.agg #[.slice none 0 0],.bool false]) (by simp[results,Tryz.results196,go_sem,hr]) rfl ⟨rfl,L2.out.setCell (by simp;omega) _⟩
theorem tN (w:World) (u v:Value) (zs ys:List Int) (ha:cW w u zs) (hb:cW w v ys):
  Calls Tryz.prog 196 #[.agg #[u],.agg #[v]] w fun e w'=>∃v',e=.returned (.tuple #[.agg #[v'],.bool (fO zs ys)])/\bG w' w.heap.size v' (lL zs ys)/\Below w.heap.size w w':=by
 cases hok:fO zs ys with
 |false=>
  rw[zN hok];exact (aCo w u v zs ys ha hb hok).mono fun e w' ⟨he,hb⟩=>⟨_,he,bG.nil _ _,hb⟩
 |true=>
  rw[wG hok];have h':=hok;unfold fO at h';simp only[Bool.and_eq_true]at h';rw[<-aHv (pN h'.1) (pN h'.2) (fun z h=>(aBH h'.1 z h).2) (fun z h=>(aBH h'.2 z h).2)];exact aAD w u v zs ys ha hb h'.1 h'.2
theorem aKh (t:Int):eK [fU t]=iM t:=by
 cases h:iM t with
 |true=>
  have ht:=(tL t).1 h;have:=aIf ht.1 ht.2;exact aIY (by simp) (fun z hz=>by simp at hz;subst hz;exact this) (by simp)
 |false=>
  have ht:=(wH t).1 h;rw[zG ht]
  decide
theorem yZ (zs:List Int) (t:Int):fO zs [fU t]=eJ zs t:=by unfold fO eJ;rw[aKh]
theorem uU (zs:List Int) (t:Int):lL zs [fU t]=kK zs t:=by
 cases h:eJ zs t with
 |true=>
  rw[qS h,wG (by rw[yZ];exact h)];unfold eJ at h;simp only[Bool.and_eq_true]at h;exact (uG (pN h.1) _).symm
 |false=>rw[aCq h,zN (by rw[yZ];exact h)]
theorem aDM (w:World) (u:Value) (zs:List Int) (t:Int) (h:cW w u zs):
  Calls Tryz.prog 232 #[.agg #[u],.int .i64 t] w fun e w'=>∃v,e=.returned (.tuple #[.agg #[v],.bool (eJ zs t)])/\bG w' w.heap.size v (kK zs t)/\Below w.heap.size w w':=by
 rw[<-yZ, <-uU];have hA:=((Below.refl w.heap.size w).alloc lr_ (.cells #[u] 38)).alloc (by simp) (.cells #[.slice none 0 0] 38);have I:=h.below hA lr_;have KM:Hid (∀W,Calls Tryz.prog 176 #[.int .i64 t] W fun e w'=>e=.returned (.int .i64 (fU t))/\W=w'):=fun W=>aG2 t W
 obtain⟨⟨x,c,hx⟩,_⟩:=h.cases;obtain⟨n,hn⟩:∃n,n=zs.length:=⟨_,rfl⟩
 rw[<-hn]at hx;subst hx;generalize fU t=M at *;obtain⟨w0,hw0⟩:∃w0,w0=(w.alloc (.cells #[.slice x n c] 38)).alloc (.cells #[.slice none 0 0] 38):=⟨_,rfl⟩
 have cb:w0.cell? ⟨w.heap.size,0,none⟩=some (.slice x n c):=by rw[hw0,World.cell?_alloc_past (hn:=by simp)];simp
 have cr:w0.cell? ⟨w.heap.size+1,0,none⟩=some (.slice none 0 0):=by rw[hw0,World.cell?_alloc_at (hn:=by simp)];simp
 have fr:w0.frozen? ⟨w.heap.size+1,0,none⟩=false:=by rw[hw0];exact World.frozen?_alloc_at _ _ _ _ (by simp)
 have S0:Hid (w0.heap.size=w.heap.size+2):=by show w0.heap.size=_;rw[hw0];simp
 rw[<-hw0]at hA I;have hA1:=(Below.refl w0.heap.size w0).drew.alloc lr_ (.cells #[.int .i64 M] 3);have i1:=I.below hA1 lr_;have i2:cW (w0.drew.alloc (.cells #[.int .i64 M] 3)) (.slice (some ⟨w0.heap.size,0,none⟩) 1 1) [M]:=by
  refine .inr ⟨w0.heap.size,0,1,rfl,Nat.le_refl _,by unfold maxLen;omega,by simp,fun i hi=>?_⟩;obtain rfl:i=0:=by simpa using hi
  rw[World.cell?_alloc_at (hn:=by simp)];simp
 have KJ:=hd_ (tN (w0.drew.alloc (.cells #[.int .i64 M] 3)) _ _ zs [M] i1 i2);have cr1:=cell_later hA1 cr;have fr1:(w0.drew.alloc (.cells #[.int .i64 M] 3)).frozen? ⟨w.heap.size+1,0,none⟩=false:=kU hA1 fr (World.block_lt_of_cell? _ _ cr);have cb1:=cell_later hA1 cb;have HA:=hd_ hA;have HA1:=hd_ hA1;have HW:=hd_ hw0
 have l1:w.heap.size+1<w0.heap.size:=World.block_lt_of_cell? _ _ cr;have l0:w.heap.size<w0.heap.size:=by omega
 clear h hn hA I hA1 i1 i2 hw0;go_enter Tryz.func232,Tryz.ntmps232
 go_wp2_with fail
 rw[<-HW.out];clear HW
 go_region_with (first
    |(go_at_call 176;refine (KM.out _).mono ?_;rintro e w' ⟨rfl,rfl⟩)
    |(go_at_call 196;refine KJ.out.mono ?_;rintro e w3 ⟨v3,rfl,ho3,hb3⟩;obtain⟨x3,c3,rfl⟩:=ho3.form;have cr3:=cell_later hb3 cr1;have fr3:w3.frozen? ⟨w.heap.size+1,0,none⟩=false:=kU hb3 fr1 (World.block_lt_of_cell? _ _ cr1)))
 all_goals
  have hs:=aA w3 ⟨w.heap.size+1,0,none⟩ (.slice x3 (lL zs [M]).length c3);have o3:=(ho3.kept hs (fun k e=>by simp at e;have:=S0.out;simp;omega)).base (B':=w.heap.size) (by have:=S0.out;simp;omega)
  have hb4:Below w.heap.size w (w3.setCell ⟨w.heap.size+1,0,none⟩ (.slice x3 (lL zs [M]).length c3)):=((HA.out.trans (HA1.out.mono HA.out.size)).trans (hb3.mono (by have:=S0.out;simp;omega))).setCell (by simp) _;have hr:=World.cell?_setCell_same w3 ⟨w.heap.size+1,0,none⟩ (.slice x3 (lL zs [M]).length c3) cr3;have O3:=hd_ o3;have HB4:=hd_ hb4;have HR:=hd_ hr;clear ho3 hb3 hs o3 hb4 hr
  generalize (lL zs [M]).length=n3 at *;go_wp2;have hr:=HR.out;exact bodyPost_ret (v:=.tuple #[.agg #[.slice x3 n3 c3],.bool (fO zs [M])]) (by simp[results,Tryz.results232,go_sem,hr]) rfl ⟨_,rfl,O3.out,HB4.out⟩
end Go.Proofs.YtcblbdpdbggkbaaGreat
set_option linter.unusedVariables false
namespace Go.Proofs.YtcblbdpdbggkbaaGreat
open Go.RowKit Go.Sort
theorem aKj (m:Int) (zs:List Int):zs.length<=(ins m zs).length/\(ins m zs).length<=zs.length+1:=by
 induction zs with
 |nil=>simp[ins]
 |cons x xs ih=>
  unfold ins
  split
  ·simp
  ·split
   ·simp
   ·simp only[List.length_cons];omega
theorem aGn {zs:List Int} {t:Int} (h:eJ zs t=true):
  eK (kK zs t)=true/\eJ (kK zs t) t=true/\kK (kK zs t) t=kK zs t/\zs.length<=(kK zs t).length/\(kK zs t).length<=zs.length+1:=by
 have h':=h;unfold eJ at h';simp only[Bool.and_eq_true]at h';have az:=pN h'.1;have f1:eK (kK zs t)=true:=by rw[<-uU];exact aGF _ _
 have ok1:eJ (kK zs t) t=true:=by unfold eJ;rw[f1,h'.2];rfl
 have e0:kK zs t=dW zs [fU t]:=by rw[qS h,uG az]
 have e1:kK (kK zs t) t=kK zs t:=by
  rw[qS ok1,uG (pN f1),e0];exact aFs az (by simp)
 have l6:=(gU h'.1).1;have hl:=aKj (fU t) zs;have el:kK zs t=(ins (fU t) zs).take 6:=by rw[e0];rfl
 refine⟨f1,ok1,e1,?_,?_⟩<;>(rw[el,List.length_take];omega)
end Go.Proofs.YtcblbdpdbggkbaaGreat
