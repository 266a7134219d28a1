/-
  What the laws of XS need of the texts before it, part 2.
-/
import Derived.BigQuiet
import Derived.Deep.AppendLies
import Derived.Deep.DrawnRows
import Derived.Deep.QuietTactic
import Derived.Deep.RegionHeld3
import Derived.Deep.RegionLaw
import Derived.IntWalk
import Derived.Lib.Hide
import Derived.Lib.QuietBelow
import Derived.Maps.AppendAt
import Derived.OneCell
import Derived.OpenShut
import Derived.StillTail
import Derived.Test.YtcblbdpdbggkbaaGreatRows
import Derived.WalkKit
import Derived.WalkLawsBesides
import Derived.WalkSpells
import Derived.Test.YtcblbdpdbggkbaaGreatSXS1
set_option maxRecDepth 100000
set_option maxHeartbeats 16000000
set_option linter.unusedVariables false
set_option linter.unusedSectionVars false
set_option linter.unusedSimpArgs false
namespace Go.Proofs.YtcblbdpdbggkbaaGreat
open _root_.Go.Proofs.Tryz
theorem zt {P:Prop} (h:P:=by
 go_wp2;go_ret;exact⟨rfl,rfl⟩):P:=h
theorem zx {P:Prop} (h:P:=by
 obtain⟨k,hk,rfl,heq,m,rfl⟩:=hrel;have HE:=hd_ heq;clear heq
 by_cases hlt:k<n
 ·have h1:=Hca.out k hlt
  have h2:=Hcb.out k hlt;obtain⟨x,hx⟩:∃x,za.getD k 0=x:=⟨_,rfl⟩
  obtain⟨y,hy⟩:∃y,zb.getD k 0=y:=⟨_,rfl⟩
  rw[hx]at h1;rw[hy]at h2;have HX:=hd_ hx;have HY:=hd_ hy;clear hx hy;have k0:(0:Int)<=(k:Int):=o_;have k1:(k:Int)<(n:Int):=o_
  by_cases he:x=y
  ·subst he
   go_wp2
   go_quiet (fail)
   go_wp2;go_roundw
   case rel=>exact⟨k+1,o_,gn_,fun j hj=>by
         by_cases h:j<k
         · exact HE.out j h
         · obtain rfl:j=k:=o_
           rw[HX.out,HY.out],_,rfl⟩
   case measure=>simp[intOf];omega
  ·have he':(x != y)=true:=by simpa using he
   go_wp2
   go_quiet (fail)
   go_wp2;go_ret;exact⟨aH (xI (i:=k) (d:=0) (by rw[HX.out,HY.out];exact he)).symm,_,World.drewN_drewN _ _ _⟩
 ·have fin:Hid (decide (za=zb)=true):=fO (d:=0) Ha.out Hb.out (fun i hi=>HE.out i o_)
  go_wp2;go_ret;exact⟨aH fin.out.symm,_,rfl⟩):P:=h
theorem zAj {P:Prop} (h:P:=by
 refine World.ownsRow.kept h hg ?_;cases hv:v.ownBlock with
 |none=>exact .inl rfl
 |some k=>exact .inr (fun e=>by have:=(World.ownsRow.lt h k hv).1;have:=hr k e.symm;omega)):P:=h
theorem zAr {P:Prop} (h:P:=by
 have hr:=World.cell?_setCell_same w1 ⟨w.heap.size+1,0,none⟩ zn cb;exact bodyPost_ret (v:=.tuple #[.agg #[zn],.bool false]) (by simp[results,results310,go_sem,hr]) rfl ⟨rfl,L.out.setCell (by simp) _⟩):P:=h
theorem zAA {P:Prop} (h:P:=by
 go_wp2;refine wp_loop_rounds 1 ?_;rw[rounds_succ];go_wp2;go_ret;exact⟨by simp,Below.refl _ _⟩):P:=h
theorem zAE {P:Prop} (h:P:=by
 go_wp2;go_ret;exact⟨rfl,(Below.refl _ _).alloc lr_ _⟩):P:=h
theorem zAL {P:Prop} (h:P:=by
 rw[he];refine aH ?_;rcases h with h|⟨h1,h2⟩
 ·rw[xO h];simpa using h
 ·rw[List.eq_nil_of_length_eq_zero h1,List.eq_nil_of_length_eq_zero h2];simp):P:=h
theorem zAP {P:Prop} (h:P:=by
 clear h;go_enter func135,ntmps135
 go_wp2_with (go_at_call 190;refine (K.out _ (((Below.refl _ _).alloc lr_ _).alloc (by simp) _)).mono ?_;rintro e w1 ⟨rfl,hb1⟩)
 go_ret;exact⟨rfl,(((Below.refl _ _).alloc lr_ _).alloc (by simp) _).trans (hb1.mono (by simp;omega))⟩):P:=h
theorem zAZ {P:Prop} (h:P:=by
 have hr:=World.cell?_setCell_same w1 ⟨w.heap.size+1,0,none⟩ zn cr1;exact bodyPost_ret (v:=.tuple #[.agg #[zn],.bool false]) (by simp[results,results311,go_sem,hr]) rfl ⟨rfl,(HA.out.trans (hb1.mono HA.out.size)).setCell (by simp) _⟩):P:=h
theorem zBa {P:Prop} (h:P:=by
 go_wp2;go_ret;exact⟨by simpa using h,Below.refl _ _⟩):P:=h
theorem zBj {P:Prop} (h:P:=by
 go_wp2;refine wp_loop_rounds 1 ?_;rw[rounds_succ];go_wp2;go_ret;exact⟨by simp,rfl⟩):P:=h
theorem zBm {P:Prop} (h:P:=by
 go_enter func178,ntmps178
 go_wp2_with (go_at_call 84;refine K.out.mono ?_;rintro e w1 ⟨rfl,hb1⟩)
 go_ret;exact⟨rfl,HA.out.trans (hb1.mono HA.out.size)⟩):P:=h
theorem zBB {P:Prop} (h:P:=by
 constructor
 ·intro h
  obtain⟨i,hi,rfl⟩:=List.getElem_of_mem h;exact⟨i,hi,by simp[hi]⟩
 ·rintro⟨i,hi,rfl⟩
  exact lW zs i 0 hi):P:=h
theorem zBD {P:Prop} (h:P:=by
 rw[fin.out];exact pK b0 o0 c0 8 z0 w1 G8.out o_ GR.out (fun i hi=>by rw[hL.cell (p:=⟨b0,o0+i,none⟩) l0];exact R0.out i hi)):P:=h
theorem zBI {P:Prop} (h:P:=by
 simp only[htake]
 split
 ·rfl
 ·split
  ·rename_i h1 h2;subst h2;simp
  ·rename_i h1 h2;rw[List.getElem?_eq_none (by simp;omega)]):P:=h
theorem zBN {P:Prop} (h:P:=by
 exact (World.cell?_setCell_other (h:=fun h=>by injection h with h;exact e2 h) ..).trans (cell_later HB4.out hbox)):P:=h
theorem zBQ {P:Prop} (h:P:=by
 exact (World.cell?_setCell_other (h:=fun h=>by injection h with h;exact e1 h) ..).trans (cell_later HB4.out cr)):P:=h
theorem zB1 {P:Prop} (h:P:=by
 rcases (by omega:i=0\/i=1\/i=2)with rfl|rfl|rfl<;>rfl):P:=h
theorem zB2 {P:Prop} (h:P:=by
 exact .inl ⟨rfl,List.eq_nil_of_length_eq_zero h0⟩):P:=h
end Go.Proofs.YtcblbdpdbggkbaaGreat
namespace Go.Proofs.YtcblbdpdbggkbaaGreat
open _root_.Go.Proofs.Tryz
open Go.RowKit
theorem o_ {p:Prop} (h:p:=by omega):p:=h
theorem nm_ {α:Sort _} (a:α):∃x,x=a:=⟨a,rfl⟩
inductive IV_ where
 |mk (x:Int)
def iv (x:Int):IV_:=.mk x
instance (x:Int):CoeDep IV_ (iv x) Value:=⟨.int .i64 x⟩
inductive ZN_ where
 |mk
def zn:ZN_:=.mk
instance:CoeDep ZN_ zn Value:=⟨.slice none 0 0⟩
theorem iW {k:IntKind} {a b:Int} (h:a=b):Ending.returned (.int k a)=.returned (.int k b):=by rw[h]
theorem aH {a b:Bool} (h:a=b):Ending.returned (.bool a)=.returned (.bool b):=by rw[h]
theorem jZ (a:Int) (w:World) (h0:0<=a) (h1:a<64):
  Calls prog 106 #[.int .i64 a] w fun e w'=>e=.returned (.bool true)/\w=w':=by
 go_enter func106,ntmps106;go_wp2;go_ret;exact⟨rfl,rfl⟩
theorem nI (a:Int) (w:World) (h:a<0\/64<=a):
  Calls prog 106 #[.int .i64 a] w fun e w'=>e=.returned (.bool false)/\w=w':=by
 rcases h with h|h
 ·have h':¬ 0<=a:=by omega
  go_enter func106,ntmps106;exact zt
 ·have h':¬a<64:=by omega
  have h'':0<=a:=by omega
  go_enter func106,ntmps106;exact zt
theorem aJ (n lo hi:Int) (w:World) (h0:lo<=n) (h1:n<=hi):
  Calls prog 66 #[.int .i64 n,.int .i64 lo,.int .i64 hi] w fun e w'=>e=.returned (.bool true)/\w=w':=by
 go_enter func66,ntmps66;go_wp2;go_ret;exact⟨rfl,rfl⟩
theorem fY (n lo hi:Int) (w:World) (h:n<lo\/hi<n):
  Calls prog 66 #[.int .i64 n,.int .i64 lo,.int .i64 hi] w fun e w'=>e=.returned (.bool false)/\w=w':=by
 by_cases h':lo<=n
 ·have h1:¬n<=hi:=by omega
  go_enter func66,ntmps66;exact zt
 ·go_enter func66,ntmps66
  exact zt
def oE (i t:Int):Int:=if i=0 then (3 * t+t / 8) % 8 else if i=1 then (5 * t+t / 16+1) % 8 else (t+t / 4+2) % 8
theorem aLi (i t:Int):0<=oE i t/\oE i t<8:=by unfold oE;split<;>(try split)<;>omega
theorem aAA (i t:Int) (w:World) (h0:0<=i) (h1:i<3) (h2:0<=t) (h3:t<64):
  Calls prog 179 #[iv i,iv t] w fun e w'=>e=.returned (iv (oE i t))/\w=w':=by
 rcases (by omega:i=0\/i=1\/i=2)with rfl|rfl|rfl
 all_goals
  clear h0 h1;go_enter func179,ntmps179
  go_wp2_with (go_at_call 106;refine (jZ _ _ h2 h3).mono ?_;rintro e w' ⟨rfl,rfl⟩)
  go_ret;exact⟨iW rfl,rfl⟩
theorem aFq (i t:Int) (w:World) (h0:0<=i) (h1:i<3) (h2:0<=t) (h3:t<64):
  Calls prog 320 #[iv i,iv t] w fun e w'=>e=.returned (iv (oE i t))/\Below w.heap.size w w':=by
 rcases (by omega:i=0\/i=1\/i=2)with rfl|rfl|rfl
 all_goals
  clear h0 h1;go_enter func320,ntmps320;go_wp2;go_ret;exact⟨iW (by first|(simp[oE];done)|(simp[oE];omega)),((Below.refl _ _).alloc lr_ _).alloc (by simp) _⟩
def cW (w:World) (v:Value) (zs:List Int):Prop:=
 (v=.slice none 0 0/\zs=[])\/
 ∃b o cap,v=.slice (some ⟨b,o,none⟩) zs.length cap/\zs.length<=cap/\cap<=maxLen/\b<w.heap.size/\∀i,i<zs.length->w.cell? ⟨b,o+i,none⟩=some (.int .i64 (zs.getD i 0))
def Rws (w:World) (v:Value) (rs:List (List Int)):Prop:=
 (v=.slice none 0 0/\rs=[])\/
 ∃b o cap,v=.slice (some ⟨b,o,none⟩) rs.length cap/\rs.length<=cap/\cap<=maxLen/\b<w.heap.size/\∀i,i<rs.length->∃x,w.cell? ⟨b,o+i,none⟩=some x/\cW w x (rs.getD i [])
theorem cW.below {w w':World} {v:Value} {zs:List Int} (h:cW w v zs) {B:Nat} (hb:Below B w w') (hB:w.heap.size<=B):cW w' v zs:=by
 rcases h with h|⟨b,o,cap,rfl,h1,h2,h3,h4⟩
 ·exact .inl h
 ·exact .inr ⟨b,o,cap,rfl,h1,h2,Nat.lt_of_lt_of_le h3 hb.size,fun i hi=>by rw[hb.cell (by show b<B;omega)];exact h4 i hi⟩
theorem Rws.below {w w':World} {v:Value} {rs:List (List Int)} (h:Rws w v rs) {B:Nat} (hb:Below B w w') (hB:w.heap.size<=B):Rws w' v rs:=by
 rcases h with h|⟨b,o,cap,rfl,h1,h2,h3,h4⟩
 ·exact .inl h
 ·refine .inr ⟨b,o,cap,rfl,h1,h2,Nat.lt_of_lt_of_le h3 hb.size,fun i hi=>?_⟩
  obtain⟨x,hx,hi'⟩:=h4 i hi;exact⟨x,by rw[hb.cell (by show b<B;omega)];exact hx,hi'.below hb hB⟩
theorem lW {α:Type} (l:List α) (k:Nat) (d:α) (h:k<l.length):l.getD k d ∈ l:=by
 rw[List.getD_eq_getElem?_getD,List.getElem?_eq_getElem h];exact List.getElem_mem h
theorem oQ (zs:List Int) (k:Nat) (h:k<zs.length):(zs.take (k+1)).sum=(zs.take k).sum+zs.getD k 0:=by
 rw[List.take_succ_eq_append_getElem h,List.sum_append];simp[h]
theorem aE {P:Program} {f:FuncId} {args:Array Value} {w:World} {n:Nat} {v:Value}
  (h:Calls P f args (w.drewN n) fun e w'=>e=.returned v/\w.drewN n=w'):Calls P f args (w.drewN n) fun e w''=>e=.returned v/\∃m,w''=w.drewN m:=
 h.mono fun _ _ ⟨he,hm⟩=>⟨he,n,hm.symm⟩
theorem aMR (n:Int) (zs:List Int) (h:∀z ∈ zs,0<=z/\z<=n):0<=zs.sum/\zs.sum<=n * zs.length:=by
 induction zs with
 |nil=>simp
 |cons a l ih=>
  have h1:=ih (fun z hz=>h z (by simp[hz]));have h2:=h a (by simp);simp only[List.sum_cons,List.length_cons]
  constructor
  ·omega
  ·have:n * ((l.length+1:Nat):Int)=n * (l.length:Int)+n:=by rw[Int.natCast_add,Int.mul_add];simp
   omega
theorem pK (b o cap n:Nat) (zs:List Int) (w:World) (hn:zs.length=n) (hl:n<=8) (hz:∀k,k<n->0<=zs.getD k 0/\zs.getD k 0<=2000)
  (hc:∀i,i<n->w.cell? ⟨b,o+i,none⟩=some (.int .i64 (zs.getD i 0))):
  Calls prog 224 #[.slice (some ⟨b,o,none⟩) n cap] w fun e w'=>e=.returned (iv zs.sum)/\w=w':=by
 subst hn;have hz:∀z ∈ zs,0<=z/\z<=2000:=fun z h=>by
  obtain⟨k,hk,rfl⟩:=List.getElem_of_mem h;have:=hz k hk;simpa[hk]using this
 have hp:∀k,0<=(zs.take k).sum/\(zs.take k).sum<=16000:=fun k=>by
  have h:=aMR 2000 (zs.take k) (fun z hz'=>hz z (List.mem_of_mem_take hz'));have:(zs.take k).length<=8:=by simp;omega
  omega
 have hg:∀k,k<zs.length->0<=zs.getD k 0/\zs.getD k 0<=2000:=fun k hk=>by
  have:=hz (zs.getD k 0) (by simp[hk]);exact this
 have Hhp:=hd_ hp;have Hhg:=hd_ hg;have Hc:=hd_ hc;clear hp hg hc hz;go_enter func224,ntmps224;go_wp2
 go_loop [3,4] (fun n i=>∃k:Nat,k<=zs.length/\i=.int .i64 k/\n=.int .i64 (zs.take k).sum) (fun _ i=>zs.length - (intOf i).toNat)
 case atStart=>exact⟨0,Nat.zero_le _,rfl,rfl⟩
 case round=>
  obtain⟨k,hk,rfl,rfl⟩:=hrel;have h1:=(Hhp.out k)
  by_cases hlt:k<zs.length
  ·have h2:=Hhg.out k hlt
   have h3:=Hc.out k hlt;have hs:=hd_ (oQ zs k hlt);generalize zs.getD k 0=x at h2 h3 hs;go_wp2
   go_round
   case rel=>exact⟨k+1,o_,gn_,by rw[hs.out]⟩
   case measure=>simp[intOf];omega
  ·go_wp2
   go_ret;exact⟨iW (by rw[List.take_of_length_le o_]),rfl⟩
theorem aL {w w1 w2:World} {row:Option Nat} (h1:w.grownBy w1 row) (h2:w1.grownBy w2 row):w.grownBy w2 row:=
 ⟨h2.os.trans h1.os,h2.tape.trans h1.tape,h2.output.trans h1.output,Nat.le_trans h1.size h2.size,fun k hk hr=>(h2.block k (Nat.lt_of_lt_of_le hk h1.size) hr).trans (h1.block k hk hr)⟩
theorem eS (w:World) (row:Option Nat):w.grownBy w row:=⟨rfl,rfl,rfl,Nat.le_refl _,fun _ _ _=>rfl⟩
theorem cU {w w':World} {row:Option Nat} (h:Below w.heap.size w w'):w.grownBy w' row:=⟨h.os,h.tape,h.output,h.size,fun k hk _=>h.block k hk⟩
theorem oR {w w':World} {row:Option Nat} (h:w.grownBy w' row) (n:Nat):w.grownBy (w'.drewN n) row:=⟨h.os,h.tape,h.output,h.size,h.block⟩
theorem oJ {w w':World} {B a:Nat} (h:w.grownBy w' (some a)) (hB:B<=a) (hw:B<=w.heap.size):Below B w w':=
 ⟨h.os,h.tape,h.output,h.size,fun k hk=>h.block k o_ (by simp;omega)⟩
theorem aA (w:World) (a:Addr) (u:Value):w.grownBy (w.setCell a u) (some a.block):=
 ⟨rfl,rfl,rfl,by simp,fun k _ hk=>heap_setCell_other w a k u (fun e=>hk (by simp[e]))⟩
structure dZ (S:Nat->Prop) (w w':World):Prop where
 os:w'.os=w.os
 tape:w'.tape=w.tape
 output:w'.output=w.output
 size:w.heap.size<=w'.heap.size
 block:∀k,k<w.heap.size->¬S k->w'.heap[k]? =w.heap[k]?
theorem dZ.refl (S:Nat->Prop) (w:World):dZ S w w:=⟨rfl,rfl,rfl,Nat.le_refl _,fun _ _ _=>rfl⟩
theorem dZ.trans {S:Nat->Prop} {a b c:World} (h:dZ S a b) (k:dZ S b c):dZ S a c:=
 ⟨k.os.trans h.os,k.tape.trans h.tape,k.output.trans h.output,Nat.le_trans h.size k.size,fun i hi hs=>(k.block i (Nat.lt_of_lt_of_le hi h.size) hs).trans (h.block i hi hs)⟩
theorem dZ.of_grown {w w':World} {g:Nat} {S:Nat->Prop} (h:w.grownBy w' (some g)) (hS:S g):dZ S w w':=
 ⟨h.os,h.tape,h.output,h.size,fun k hk hs=>h.block k hk (fun e=>by cases e;exact hs hS)⟩
theorem dZ.below {S:Nat->Prop} {w w':World} {B:Nat} (h:dZ S w w') (hB:B<=w.heap.size) (hS:∀k,S k->B<=k):Below B w w':=
 ⟨h.os,h.tape,h.output,h.size,fun k hk=>h.block k o_ (fun hs=>by have:=hS k hs;omega)⟩
def nV (rs:List (List Int)) (G C:Nat->Nat) (i:Nat):Value:=.slice (some ⟨G i,0,none⟩) (rs.getD i []).length (C i)
def bG (zs:List Int):List Value:=zs.map (Value.int .i64)
structure dJ (w:World) (B:Nat) (u:Value) (rs:List (List Int)) (G C:Nat->Nat):Prop where
 hdr:w.ownsRow B 23 1 u rs.length ((List.range rs.length).map (nV rs G C))
 row:∀i,i<rs.length->w.ownsRow B 3 1 (nV rs G C i) (rs.getD i []).length (bG (rs.getD i []))
 off:∀i,i<rs.length->u.ownBlock≠some (G i)
 apart:∀i j,i<rs.length->j<rs.length->i≠j->G i≠G j
theorem nS (zs:List Int):(bG zs).length=zs.length:=by simp[bG]
theorem iM (zs:List Int) (i:Nat) (h:i<zs.length):(bG zs)[i]? =some (.int .i64 (zs.getD i 0)):=by simp[bG,h]
theorem aCB {w:World} {B:Nat} {v:Value} {zs:List Int} (h:w.ownsRow B 3 1 v zs.length (bG zs)):cW w v zs:=by
 rcases h.2 with ⟨rfl,h0⟩|⟨g,cap,cur,rfl,hb,hg,hn,hc,hs,ht⟩
 ·exact zB2
 ·refine .inr ⟨g,0,cap,rfl,hn,hc,(Array.getElem?_eq_some_iff.1 hg).1,fun i hi=>?_⟩
  have:=World.ownsRow.cellAt h i o_;rw[Nat.zero_add,this,iM _ _ hi]
theorem dJ.rws {w:World} {B:Nat} {u:Value} {rs:List (List Int)} {G C:Nat->Nat} (h:dJ w B u rs G C):Rws w u rs:=by
 have hh:=h.hdr;rcases hh.2 with ⟨rfl,h0⟩|⟨g,cap,cur,rfl,hb,hg,hn,hc,hs,ht⟩
 ·exact zB2
 ·refine .inr ⟨g,0,cap,rfl,hn,hc,(Array.getElem?_eq_some_iff.1 hg).1,fun i hi=>⟨_,?_,aCB (h.row i hi)⟩⟩
  have:=World.ownsRow.cellAt hh i o_;rw[Nat.zero_add,this];simp[hi]
theorem dJ.grown {w w':World} {B:Nat} {u:Value} {rs:List (List Int)} {G C:Nat->Nat} {row:Option Nat} (h:dJ w B u rs G C) (hg:w.grownBy w' row) (hr:∀k,row=some k->k<B):dJ w' B u rs G C:=by
 have ne:∀{v:Value} {n:Nat} {e:TypeId} {xs:List Value},w.ownsRow B e 1 v n xs->v.ownBlock=none\/v.ownBlock≠row:=fun {v n e xs} ho=>by
  cases hv:v.ownBlock with
  |none=>exact .inl rfl
  |some k=>exact .inr (fun e=>by have:=(ho.lt k hv).1;have:=hr k e.symm;omega)
 exact⟨h.hdr.kept hg (ne h.hdr),fun i hi=>(h.row i hi).kept hg (ne (h.row i hi)),h.off,h.apart⟩
theorem dJ.below {w w':World} {B B':Nat} {u:Value} {rs:List (List Int)} {G C:Nat->Nat} (h:dJ w B u rs G C) (hg:Below B' w w') (hB:w.heap.size<=B'):dJ w' B u rs G C:=
 h.grown (row:=none) ⟨hg.os,hg.tape,hg.output,hg.size,fun k hk _=>hg.block k o_⟩ (fun _ e=>by cases e)
theorem aM {w:World} {B B':Nat} {e:TypeId} {size:Nat} {v:Value} {n:Nat} {xs:List Value} (h:w.ownsRow B e size v n xs) (hB:B'<=B):w.ownsRow B' e size v n xs:=by
 obtain⟨h1,h2⟩:=h;refine⟨h1,?_⟩;rcases h2 with h2|⟨g,cap,cur,hv,hg,r⟩
 ·exact .inl h2
 ·exact .inr ⟨g,cap,cur,hv,Nat.le_trans hB hg,r⟩
theorem dJ.base {w:World} {B B':Nat} {u:Value} {rs:List (List Int)} {G C:Nat->Nat} (h:dJ w B u rs G C) (hB:B'<=B):dJ w B' u rs G C:=
 ⟨aM h.hdr hB,fun i hi=>aM (h.row i hi) hB,h.off,h.apart⟩
theorem dJ.snoc {w w':World} {B:Nat} {u:Value} {rs:List (List Int)} {G C:Nat->Nat} (h:dJ w B u rs G C) {zs:List Int} {g c gg cap:Nat}
  (hz:w.ownsRow B 3 1 (.slice (some ⟨g,0,none⟩) zs.length c) zs.length (bG zs)) (hu:u.ownBlock≠some g) (hG:∀i,i<rs.length->G i≠g)
  (hown:w'.ownsRow B 23 1 (.slice (some ⟨gg,0,none⟩) (rs.length+1) cap) (rs.length+1) ((List.range rs.length).map (nV rs G C)++[.slice (some ⟨g,0,none⟩) zs.length c]))
  (hg:w.grownBy w' u.ownBlock) (hat:u.ownBlock=some gg\/gg=w.heap.size):
  dJ w' B (.slice (some ⟨gg,0,none⟩) (rs.length+1) cap) (rs++[zs]) (fun i=>if i<rs.length then G i else g) (fun i=>if i<rs.length then C i else c):=by
 have e1:∀i,i<rs.length->nV (rs++[zs]) (fun i=>if i<rs.length then G i else g) (fun i=>if i<rs.length then C i else c) i=nV rs G C i:=fun i hi=>by
  simp[nV,hi,List.getElem?_append_left]
 have e2:nV (rs++[zs]) (fun i=>if i<rs.length then G i else g) (fun i=>if i<rs.length then C i else c) rs.length=.slice (some ⟨g,0,none⟩) zs.length c:=by
  simp[nV]
 have f1:∀i,i<rs.length->(rs++[zs]).getD i []=rs.getD i []:=fun i hi=>by simp[hi,List.getElem?_append_left]
 have f2:(rs++[zs]).getD rs.length []=zs:=by simp
 have lt1:∀i,i<rs.length->G i<w.heap.size:=fun i hi=>((h.row i hi).lt (G i) rfl).2
 have ltg:g<w.heap.size:=(hz.lt g rfl).2;refine⟨?_,fun i hi=>?_,fun i hi=>?_,fun i j hi hj hij=>?_⟩
 ·simp only[List.length_append,List.length_singleton]
  rw[List.range_succ,List.map_append,List.map_singleton,e2,List.map_congr_left (fun i hi=>e1 i (List.mem_range.1 hi))];exact hown
 ·simp only[List.length_append,List.length_singleton]at hi
  by_cases hi':i<rs.length
  ·rw[e1 i hi',f1 i hi']
   exact (h.row i hi').kept hg (.inr (fun e=>h.off i hi' e.symm))
  ·obtain rfl:i=rs.length:=o_
   rw[e2,f2];exact hz.kept hg (.inr (fun e=>hu e.symm))
 ·simp only[List.length_append,List.length_singleton]at hi
  intro e;have e':gg=if i<rs.length then G i else g:=by simpa[Value.ownBlock]using e
  by_cases hi':i<rs.length
  ·rw[if_pos hi']at e'
   rcases hat with hat|hat
   ·exact h.off i hi' (by rw[hat,e'])
   ·have:=lt1 i hi';omega
  ·rw[if_neg hi']at e'
   rcases hat with hat|hat
   ·exact hu (by rw[hat,e'])
   ·omega
 ·simp only[List.length_append,List.length_singleton]at hi hj
  show (if i<rs.length then G i else g)≠(if j<rs.length then G j else g)
  by_cases hi':i<rs.length<;>by_cases hj':j<rs.length
  ·rw[if_pos hi',if_pos hj'];exact h.apart i j hi' hj' hij
  ·rw[if_pos hi',if_neg hj'];exact hG i hi'
  ·rw[if_neg hi',if_pos hj'];exact fun e=>hG j hj' e.symm
  ·omega
theorem dJ.store {w:World} {B:Nat} {u:Value} {rs:List (List Int)} {G C:Nat->Nat} (h:dJ w B u rs G C) (i k:Nat) (z:Int) (hi:i<rs.length) (hk:k<(rs.getD i []).length):
  dJ (w.setCell ⟨G i,k,none⟩ (iv z)) B u (rs.set i ((rs.getD i []).set k z)) G C/\w.grownBy (w.setCell ⟨G i,k,none⟩ (iv z)) (some (G i)):=by
 have hg:=aA w ⟨G i,k,none⟩ (iv z);have eL:∀j,((rs.set i ((rs.getD i []).set k z)).getD j []).length=(rs.getD j []).length:=fun j=>by
  simp only[List.getD_eq_getElem?_getD,List.getElem?_set]
  by_cases e:i=j
  ·subst e;simp[hi]
  ·simp[e]
 have eV:∀j,nV (rs.set i ((rs.getD i []).set k z)) G C j=nV rs G C j:=fun j=>by unfold nV;rw[eL]
 refine⟨⟨?_,fun j hj=>?_,fun j hj=>h.off j (by simpa using hj),fun a b ha hb hab=>h.apart a b (by simpa using ha) (by simpa using hb) hab⟩,hg⟩
 ·simp only[List.length_set]
  rw[List.map_congr_left (fun j _=>eV j)];exact h.hdr.kept hg (.inr (h.off i hi))
 ·simp only[List.length_set]at hj
  rw[eV,eL]
  by_cases e:j=i
  ·subst e
   have:=((h.row j hj).stored k (iv z)).1;have e':bG ((rs.set j ((rs.getD j []).set k z)).getD j [])=(bG (rs.getD j [])).set k (iv z):=by
    simp[bG,hj,List.map_set]
   rw[e'];exact this
  ·have e':(rs.set i ((rs.getD i []).set k z)).getD j []=rs.getD j []:=by simp[Ne.symm e]
   rw[e'];exact (h.row j hj).kept hg (.inr (by simp[nV,Value.ownBlock];exact h.apart j i hj hi e))
end Go.Proofs.YtcblbdpdbggkbaaGreat
namespace Go.Proofs.YtcblbdpdbggkbaaGreat
open _root_.Go.Proofs.Tryz
open Go.RowKit Go.Sort
structure Boxed (p:Prop):Prop where
 out:p
theorem cK {P:Program} {ops:Array Oper} {C:World->Prop} {Q:Act->Prop} {a:Act} {o:Oper} {rest:List Oper}
  (h:∀K:Act->Prop,(∀a,Boxed (wpQuiet P ops C Q rest a)->K a)->if Region.wanted o (yielded ops a.tmps)then o.quiet P a C K else K (a.put o.dst undef)):Boxed (wpQuiet P ops C Q (o::rest) a):=
 ⟨wpQuiet_step fun K hK=>h K fun a ha=>hK a ha.out⟩
theorem dE {P:Program} {ops:Array Oper} {C:World->Prop} {Q:Act->Prop} {a:Act} (h:Q a):Boxed (wpQuiet P ops C Q [] a):=⟨h⟩
theorem cY {P:Program} {id:Nat} {Q:Exit->Act->World->Prop} {a:Act} {w:World} {l:List Oper} (hm:P.follows .mixedOrders=true) (hB:Region.lexB .any l.toArray=true)
  (h:Boxed (wpQuiet P l.toArray (fun w'=>∃p:Regrown,w'=grow (redrawn w p.d) p.os) (fun a'=>∀w',(∃p:Regrown,w'=grow (redrawn w p.d) p.os)->Q .normal a' w') l a)):(Code.region id l.toArray true).wp P Q a w:=
 wp_region_quiet_below hm hB h.out
def rD (o:Oper):Oper:={ o with op:=.move (.const (.bool false)) }
section
variable {P:Program} {md:Region.Mode} {C:World->Prop}
theorem aGK {A B:Array Oper} (hs:A.size=B.size) (h:∀j:Nat,(A[j]?).map Oper.after=(B[j]?).map Oper.after) (listed:Array Bool):Region.ready md A listed=Region.ready md B listed:=by
 have e:∀j,j ∈ Region.ready md A listed↔j ∈ Region.ready md B listed:=fun j=>by
  rw[mem_ready,mem_ready];have hj:=h j
  constructor
  ·rintro⟨h1,o,ho,h2⟩
   rw[ho]at hj;cases hB:B[j]? with
   |none=>rw[hB]at hj;cases hj
   |some o'=>
    rw[hB]at hj;have e:o.after=o'.after:=by simpa using hj
    exact⟨h1,o',rfl,fun e' he'=>h2 e' (by rw[e];exact he')⟩
  ·rintro⟨h1,o,ho,h2⟩
   rw[ho]at hj;cases hA:A[j]? with
   |none=>rw[hA]at hj;cases hj
   |some o'=>
    rw[hA]at hj;have e:o'.after=o.after:=by simpa using hj
    exact⟨h1,o',rfl,fun e' he'=>h2 e' (by rw[<-e];exact he')⟩
 unfold Region.ready at e ⊢;rw[hs]at e ⊢;apply List.filter_congr;intro j hj;have:=e j;simp only[List.mem_filter,hj,true_and]at this;exact Bool.eq_iff_iff.2 this
theorem aDf {A B:Array Oper} (h:∀j:Nat,(A[j]?).bind Oper.dst=(B[j]?).bind Oper.dst) (tmps:Array Value):yielded A tmps=yielded B tmps:=by
 funext j
 have h':((A[j]?).bind fun x=>x.dst)=(B[j]?).bind fun x=>x.dst:=h j
 unfold yielded;rw[h']
theorem rW {A B:Array Oper} (h:∀tmps,yielded A tmps=yielded B tmps) {Q:Act->Prop}:∀(l:List Oper) (a:Act),wpQuiet P A C Q l a->wpQuiet P B C Q l a
 | [],_,hh=>hh
 |o::l,a,hh=>by
  unfold wpQuiet at hh ⊢;rw[<-h]
  split
  ·rename_i hw
   rw[if_pos hw]at hh;exact Oper.quiet_mono (fun a'=>rW h l a') hh
  ·rename_i hw
   rw[if_neg hw]at hh;exact rW h l _ hh
theorem qU {A:Array Oper} {R R':Act->Prop} (ho:∀a,R a->R' a):∀(l:List Oper) (a:Act),wpQuiet P A C R l a->wpQuiet P A C R' l a
 | [],a,hh=>ho a hh
 |p::l,a,hh=>by
  unfold wpQuiet at hh ⊢
  split
  ·rename_i hw
   rw[if_pos hw]at hh;exact Oper.quiet_mono (fun a'=>qU ho l a') hh
  ·rename_i hw
   rw[if_neg hw]at hh;exact qU ho l _ hh
theorem pW {A:Array Oper} {R R':Act->Prop} {o:Oper} (ho:∀a,R a->wpQuiet P A C R' [o] a):∀(l:List Oper) (a:Act),wpQuiet P A C R l a->wpQuiet P A C R' (l++[o]) a
 | [],a,hh=>ho a hh
 |p::l,a,hh=>by
  rw[List.cons_append];unfold wpQuiet at hh ⊢
  split
  ·rename_i hw
   rw[if_pos hw]at hh;exact Oper.quiet_mono (fun a'=>pW ho l a') hh
  ·rename_i hw
   rw[if_neg hw]at hh;exact pW ho l _ hh
def tE (P:Program) (o:Oper) (Q:Exit->Act->World->Prop) (a:Act) (w:World):Prop:=o.wp P a w (fun a w=>Q .normal a w) Q\/(o.asks P a w/\LetsOut Q)
def aKU (A:Array Oper):Bool:=(List.range A.size).all fun i=>match A[i]? with|some o=>o.after.all fun e=>decide (e.on<i)|none=>true
theorem zK {A:Array Oper} {listed:Array Bool} (hb:aKU A=true) (hsz:listed.size=A.size):∀(i:Nat),i<A.size->listed.getD i true=false->∃j,j ∈ Region.ready md A listed:=by
 intro i
 induction i using Nat.strongRecOn with
 |_ i ih=>
  intro hi hun
  by_cases hr:i ∈ Region.ready md A listed
  ·exact⟨i,hr⟩
  ·have ho:A[i]? =some A[i]:=Array.getElem?_eq_getElem hi
   have h1:=List.all_eq_true.1 hb i (List.mem_range.2 hi);rw[ho]at h1;simp only at h1;have:∃e ∈ A[i].after,listed.getD e.on false≠true:=by
    apply Classical.byContradiction;intro hno;apply hr;rw[mem_ready];refine⟨hun,_,ho,fun e he _=>?_⟩;apply Classical.byContradiction;exact fun hne=>hno ⟨e,he,hne⟩
   obtain⟨e,he,hne⟩:=this;have hlt:e.on<i:=by
    obtain⟨k,hk,rfl⟩:=Array.getElem_of_mem he;have:=Array.all_eq_true.1 h1 k hk;simpa using this
   refine ih e.on hlt (by omega) ?_;exact getD_in (by omega) (by simpa using hne)
theorem tN {A B:Array Oper} {n:Nat} {o:Oper} {Q':Exit->Act->World->Prop} (hn:n+1=A.size) (hsz:B.size=A.size) (hrd:∀listed,Region.ready md B listed=Region.ready md A listed)
  (hhead:∀j,j<n->B[j]? =A[j]?) (hlast:A[n]? =some o) (hquiet:B[n]? =some (rD o)) (hdst:o.dst=none) (hguard:o.guard=none) (hy:∀tmps,yielded B tmps=yielded A tmps)
  (hs:Region.sinkB md A n=true) (hc:Region.chainB md A n=true) (hback:aKU A=true):
  ∀(fuel:Nat) (listed:Array Bool) (a:Act) (w:World),HeadInv md A n listed->(∃j,j ∈ Region.ready md A listed)->C w->
   wpAnyQ P md B C (fun a'=>∀w',C w'->tE P o Q' a' w') fuel listed a->wpAny P md A Q' fuel listed a w
 | 0,listed,a,w,_,hj,_,h=>by
  obtain⟨j,hj⟩:=hj;have h0:Region.ready md B listed=[]:=h.1;rw[hrd]at h0;rw[h0]at hj;cases hj
 |fuel+1,listed,a,w,inv,hj,hw,h=>by
  obtain⟨j,hj⟩:=hj;refine⟨fun h0=>(by rw[h0]at hj;cases hj),fun i hi=>?_⟩;have h2:=h.2 i (by rw[hrd];exact hi);have hiA:i<A.size:=by
   obtain⟨_,oi,hoi,_⟩:=mem_ready.1 hi;exact (Array.getElem?_eq_some_iff.1 hoi).1
  by_cases hin:i<n
  ·-- an operation eX of the last:the same in both
   have inv':=inv.set hi hin;have hB:B[i]? =A[i]? :=hhead i hin;have hq:qOp P A C i (wpAnyQ P md B C (fun a'=>∀w',C w'->tE P o Q' a' w') fuel (listed.setIfInBounds i true)) a:=by
    unfold qOp at h2 ⊢;rw[hB]at h2;cases hA:A[i]? with
    |none=>rw[hA]at h2;exact h2
    |some oi=>
     rw[hA]at h2;simp only at h2 ⊢;rw[hy]at h2;exact h2
   refine wpOp_of_qOp hw (fun a' w' hw' h3=>?_) hq
   -- the last is not yet carried out:something may come up
   have hlt:listed.getD n true=false:=inv.tail n lr_ o_;have hun:(listed.setIfInBounds i true).getD n true=false:=by rw[getD_set_ne true o_];exact hlt
   have hsome:=zK (md:=md) hback inv'.size n o_ hun;exact tN hn hsz hrd hhead hlast hquiet hdst hguard hy hs hc hback fuel _ a' w' inv' hsome hw' h3
  ·obtain rfl:i=n:=o_
   -- the last:all others are carried out
   have hall:∀k,k<i->listed.getD k true=true:=fun k hk=>by
    cases hl:listed.getD k true with
    |true=>rfl
    |false=>exact absurd hi (tail_waits hs hc o_ inv _ k rfl hk hl i lr_)
   have hend:Region.ready md A (listed.setIfInBounds i true)=[]:=by
    cases hr:Region.ready md A (listed.setIfInBounds i true)with
    |nil=>rfl
    |cons x xs=>
     have hx:x ∈ Region.ready md A (listed.setIfInBounds i true):=by rw[hr];simp
     obtain⟨hu,ox,hox,_⟩:=mem_ready.1 hx;have hxA:=(Array.getElem?_eq_some_iff.1 hox).1;have hxs:x<listed.size:=by rw[inv.size];exact hxA
     by_cases e:i=x
     ·subst e
      simp[hxs]at hu
     ·rw[getD_set_ne true e]at hu
      rw[hall x o_]at hu;cases hu
   have hq:wpAnyQ P md B C (fun a'=>∀w',C w'->tE P o Q' a' w') fuel (listed.setIfInBounds i true) a:=by
    unfold qOp at h2;rw[hquiet]at h2;simp only at h2;have hp:∀v,a.put (rD o).dst v=a:=fun v=>by show a.put o.dst v=a;rw[hdst];rfl
    split at h2
    ·obtain⟨v,_,h3⟩:=h2
     rw[hp]at h3;exact h3
    ·rw[hp]at h2
     exact h2
   have hR:∀w',C w'->tE P o Q' a w':=by
    cases fuel with
    |zero=>exact hq.2
    |succ f=>exact hq.1 (by rw[hrd];exact hend)
   unfold wpOp;rw[hlast];simp only;have hwd:Region.wanted o (yielded A a.tmps)=true:=by simp[Region.wanted,hguard]
   rw[if_pos hwd];rcases hR w hw with h3|h3
   ·refine .inl (Oper.wp_mono (fun a' w' hq'=>?_) h3)
    cases fuel with
    |zero=>exact⟨hend,hq'⟩
    |succ f=>exact⟨fun _=>hq',fun k hk=>by rw[hend]at hk;cases hk⟩
   ·exact .inr h3
theorem iP {id:Nat} {Q:Exit->Act->World->Prop} {a:Act} {w:World} {l:List Oper} (n:Nat) (o:Oper) (hl:l.drop n=[o]) (hdst:o.dst=none) (hguard:o.guard=none)
  (hm:P.follows .mixedOrders=true) (hB:Region.lexB .any (l.take n++[rD o]).toArray=true) (hs:Region.sinkB .any l.toArray n=true) (hc:Region.chainB .any l.toArray n=true) (hback:aKU l.toArray=true)
  (hC:C { w with drawn:=w.drawn+1 }) (h:Boxed (wpQuiet P l.toArray C (fun a'=>∀w',C w'->wpList P l.toArray Q [o] a' w') (l.take n) a)):(Code.region id l.toArray true).wp P Q a w:=by
 replace h:=h.out;have hn:n<l.length:=by
  apply Classical.byContradiction;intro hno;rw[List.drop_of_length_le o_]at hl;cases hl
 have hlen:n+1=l.length:=by
  have:=congrArg List.length hl;simp at this;omega
 have htake:(l.take n).length=n:=by simp;omega
 have hsplit:l=l.take n++[o]:=by rw[<-hl,List.take_append_drop]
 have gA:∀j:Nat,l.toArray[j]? =if j<n then (l.take n)[j]? else if j=n then some o else none:=fun j=>by
  rw[List.getElem?_toArray]
  conv=>lhs;rw[hsplit]
  rw[List.getElem?_append];exact zBI
 have gB:∀j:Nat,(l.take n++[rD o]).toArray[j]? =if j<n then (l.take n)[j]? else if j=n then some (rD o)else none:=fun j=>by
  rw[List.getElem?_toArray,List.getElem?_append];exact zBI
 have hsz:(l.take n++[rD o]).toArray.size=l.toArray.size:=by simp;omega
 have haft:∀j:Nat,((l.take n++[rD o]).toArray[j]?).map Oper.after=(l.toArray[j]?).map Oper.after:=fun j=>by
  rw[gA,gB];split
  ·rfl
  ·split<;>rfl
 have hdd:∀j:Nat,((l.take n++[rD o]).toArray[j]?).bind Oper.dst=(l.toArray[j]?).bind Oper.dst:=fun j=>by
  rw[gA,gB];split
  ·rfl
  ·split<;>rfl
 have hy:=aDf hdd;have hwd:∀t,Region.wanted o t=true:=fun t=>by simp[Region.wanted,hguard]
 have h1:wpQuiet P (l.take n++[rD o]).toArray C (fun a'=>∀w',C w'->tE P o Q a' w') (l.take n++[rD o]) a:=by
  refine pW (R:=fun a'=>∀w',C w'->tE P o Q a' w') (fun a' hR=>?_) _ _ (rW (fun t=>(hy t).symm) _ _ ?_)
  ·unfold wpQuiet
   have hw':Region.wanted (rD o) (yielded (l.take n++[rD o]).toArray a'.tmps)=true:=by simp[Region.wanted,rD,hguard]
   rw[if_pos hw'];refine⟨.bool false,fun w' _=>?_,?_⟩
   ·unfold Oper.quietAt
    show Oper.quietUpon P C w' (.bool false) ((execOp a'.eval (rD o)).run P w')
    simp[rD,execOp,Oper.quietUpon,Act.eval]
   ·unfold wpQuiet
    have:a'.put (rD o).dst (.bool false)=a':=by show a'.put o.dst _=a';rw[hdst];rfl
    rw[this];exact hR
  ·refine qU (fun a' h2 w' hw'=>?_) _ _ h
   have h3:=h2 w' hw';unfold wpList at h3;rw[if_pos (hwd _)]at h3;exact h3
 refine wp_region_any hm ?_;have hlex:=hB;simp only[Region.lexB,Bool.and_eq_true]at hlex;have h2:=wpAnyQ_lex (C:=C) (md:=.any) hlex.1 (l.take n++[rD o]) 0 (Array.replicate l.toArray.size false) a (by simp) (by rw[<-hsz];simpa using hlex.2) h1;have h3:(l.take n++[rD o]).length=l.toArray.size:=by simp;omega
 rw[h3]at h2;have inv0:HeadInv .any l.toArray n (Array.replicate l.toArray.size false):=
  ⟨by simp,fun j oj _ hl=>(by rw[getD_replicate_false]at hl;cases hl),fun t _ ht=>getD_in (by simpa using ht) (getD_replicate_false _ _)⟩
 have hrd:=fun listed=>aGK (md:=.any) hsz haft listed
 refine tN (n:=n) (o:=o) (by simpa using hlen) hsz hrd (fun j hj=>by rw[gA,gB,if_pos hj,if_pos hj]) (by rw[gA,if_neg o_,if_pos rfl]) (by rw[gB,if_neg o_,if_pos rfl]) hdst hguard hy hs hc hback _ _ _ _ inv0 ?_ hC h2;exact zK hback (by simp) n (by simpa using hn) (getD_in (by simpa using hn) (getD_replicate_false _ _))
end
end Go.Proofs.YtcblbdpdbggkbaaGreat
namespace Go.Proofs.YtcblbdpdbggkbaaGreat
open _root_.Go.Proofs.Tryz
open Go.RowKit
theorem cW.cases {w:World} {v:Value} {zs:List Int} (h:cW w v zs):
  (∃x c,v=.slice x zs.length c)/\(zs.length=0\/∃b o c,v=.slice (some ⟨b,o,none⟩) zs.length c/\∀i,i<zs.length->w.cell? ⟨b,o+i,none⟩=some (.int .i64 (zs.getD i 0))):=by
 rcases h with ⟨rfl,rfl⟩|⟨b,o,c,rfl,_,_,_,hc⟩
 ·exact⟨⟨_,_,rfl⟩,.inl rfl⟩
 ·exact⟨⟨_,_,rfl⟩,.inr ⟨b,o,c,rfl,hc⟩⟩
theorem Rws.cases {w:World} {v:Value} {rs:List (List Int)} (h:Rws w v rs):
  (∃x c,v=.slice x rs.length c)/\(rs.length=0\/∃b o c,v=.slice (some ⟨b,o,none⟩) rs.length c/\∀i,i<rs.length->∃x,w.cell? ⟨b,o+i,none⟩=some x/\cW w x (rs.getD i [])):=by
 rcases h with ⟨rfl,rfl⟩|⟨b,o,c,rfl,_,_,_,hc⟩
 ·exact⟨⟨_,_,rfl⟩,.inl rfl⟩
 ·exact⟨⟨_,_,rfl⟩,.inr ⟨b,o,c,rfl,hc⟩⟩
theorem xO {α:Type} [DecidableEq α] {a b:List α} (h:a.length≠b.length):decide (a=b)=false:=by
 simp only[decide_eq_false_iff_not];exact fun e=>h (by rw[e])
theorem xI {α:Type} [DecidableEq α] {a b:List α} {i:Nat} {d:α} (h:a.getD i d≠b.getD i d):decide (a=b)=false:=by
 simp only[decide_eq_false_iff_not];exact fun e=>h (by rw[e])
theorem fO {α:Type} [DecidableEq α] {a b:List α} {n:Nat} {d:α} (ha:a.length=n) (hb:b.length=n) (h:∀i,i<n->a.getD i d=b.getD i d):decide (a=b)=true:=by
 simp only[decide_eq_true_eq];apply List.ext_getElem o_;intro i h1 h2;have:=h i o_;simpa[h1,h2]using this
theorem cW.drewN {w:World} {v:Value} {zs:List Int} (h:cW w v zs) (n:Nat):cW (w.drewN n) v zs:=h
theorem aCZ (x y:Option Addr) (n m c d:Nat) (w:World) (h:n≠m\/(n=0/\m=0)):
  Calls prog 51 #[.slice x n c,.slice y m d] w fun e w'=>e=.returned (.bool (decide (n=m)))/\w=w':=by
 rcases h with h|⟨rfl,rfl⟩
 ·have hn:((n:Int) != (m:Int))=true:=by simp;omega
  go_enter func51,ntmps51;go_wp2;go_ret;exact⟨by simpa using h,rfl⟩
 ·go_enter func51,ntmps51
  exact zBj
theorem aEX (b o c b' o' c' n:Nat) (za zb:List Int) (w:World) (hn:n<=maxLen) (ha:za.length=n) (hb:zb.length=n)
  (hca:∀i,i<n->w.cell? ⟨b,o+i,none⟩=some (.int .i64 (za.getD i 0))) (hcb:∀i,i<n->w.cell? ⟨b',o'+i,none⟩=some (.int .i64 (zb.getD i 0))):
  Calls prog 51 #[.slice (some ⟨b,o,none⟩) n c,.slice (some ⟨b',o',none⟩) n c'] w fun e w'=>e=.returned (.bool (decide (za=zb)))/\∃m,w'=w.drewN m:=by
 unfold maxLen at hn;have Ha:=hd_ ha;have Hb:=hd_ hb;have Hca:=hd_ hca;have Hcb:=hd_ hcb;clear ha hb hca hcb;go_enter func51,ntmps51;go_wp2;go_loopw [5] (fun i wr=>∃k:Nat,k<=n/\i=.int .i64 k/\(∀j,j<k->za.getD j 0=zb.getD j 0)/\∃m,wr=w.drewN m) (fun i _=>n - (intOf i).toNat)
 case atStart=>exact⟨0,Nat.zero_le _,rfl,fun _ h=>absurd h (Nat.not_lt_zero _),0,rfl⟩
 case round=>
  exact zx
theorem aCm (w:World) (u v:Value) (za zb:List Int) (ha:cW w u za) (hb:cW w v zb) (hl:za.length<=maxLen):
  Calls prog 51 #[u,v] w fun e w'=>e=.returned (.bool (decide (za=zb)))/\∃m,w'=w.drewN m:=by
 obtain⟨⟨x,c,hx⟩,qa⟩:=ha.cases;obtain⟨⟨y,d,hy⟩,qb⟩:=hb.cases
 by_cases h:za.length≠zb.length\/(za.length=0/\zb.length=0)
 ·rw[hx,hy]
  refine (aCZ x y _ _ c d w h).mono fun e w' ⟨he,hw⟩=>⟨?_,0,hw.symm⟩
  exact zAL
 ·have e:za.length=zb.length:=o_
  rcases qa with qa|⟨b,o,c,rfl,hca⟩
  ·omega
  rcases qb with qb|⟨b',o',c',rfl,hcb⟩
  ·omega
  rw[<-e]at hcb ⊢;exact aEX b o c b' o' c' _ za zb w hl rfl e.symm hca hcb
theorem aBp (x y:Option Addr) (n m c d:Nat) (w:World) (h:n≠m\/(n=0/\m=0)):
  Calls prog 190 #[.slice x n c,.slice y m d] w fun e w'=>e=.returned (.bool (decide (n=m)))/\Below w.heap.size w w':=by
 rcases h with h|⟨rfl,rfl⟩
 ·have hn:((n:Int) != (m:Int))=true:=by simp;omega
  go_enter func190,ntmps190;exact zBa
 ·go_enter func190,ntmps190
  exact zAA
theorem aDj (b o c b' o' c' n:Nat) (ra rb:List (List Int)) (w:World) (hn:n<=maxLen) (ha:ra.length=n) (hb:rb.length=n) (hla:∀i,i<n->(ra.getD i []).length<=maxLen) (hlb:b<w.heap.size) (hlb':b'<w.heap.size)
  (hca:∀i,i<n->∃x,w.cell? ⟨b,o+i,none⟩=some x/\cW w x (ra.getD i [])) (hcb:∀i,i<n->∃x,w.cell? ⟨b',o'+i,none⟩=some x/\cW w x (rb.getD i [])):
  Calls prog 190 #[.slice (some ⟨b,o,none⟩) n c,.slice (some ⟨b',o',none⟩) n c'] w fun e w'=>e=.returned (.bool (decide (ra=rb)))/\Below w.heap.size w w':=by
 unfold maxLen at hn;have Ha:=hd_ ha;have Hb:=hd_ hb;have Hla:=hd_ hla;have Hca:=hd_ hca;have Hcb:=hd_ hcb;clear ha hb hca hcb hla;go_enter func190,ntmps190;go_wp2;go_loopw [5] (fun i wr=>∃k:Nat,k<=n/\i=.int .i64 k/\(∀j,j<k->ra.getD j []=rb.getD j [])/\Below w.heap.size w wr) (fun i _=>n - (intOf i).toNat)
 case atStart=>exact⟨0,Nat.zero_le _,rfl,fun _ h=>absurd h (Nat.not_lt_zero _),Below.refl _ _⟩
 case round=>
  obtain⟨k,hk,rfl,heq,hbl⟩:=hrel;have HE:=hd_ heq;have HB:=hd_ hbl;clear heq hbl
  by_cases hlt:k<n
  ·obtain⟨x,h1,i1⟩:=Hca.out k hlt
   obtain⟨y,h2,i2⟩:=Hcb.out k hlt;rw[<-HB.out.cell (p:=⟨b,o+k,none⟩) hlb]at h1;rw[<-HB.out.cell (p:=⟨b',o'+k,none⟩) hlb']at h2;have I1:=hd_ (i1.below HB.out lr_);have I2:=hd_ (i2.below HB.out lr_);clear i1 i2;have k0:(0:Int)<=(k:Int):=o_;have k1:(k:Int)<(n:Int):=o_
   have KC:Hid (∀q,Calls prog 51 #[x,y] (wr.drewN q) fun e w''=>e=.returned (.bool (decide (ra.getD k []=rb.getD k [])))/\∃m,w''=(wr.drewN q).drewN m):=fun q=>
    aCm (wr.drewN q) x y _ _ (I1.out.drewN q) (I2.out.drewN q) (Hla.out k hlt)
   obtain⟨⟨xa,xc,hx⟩,_⟩:=I1.out.cases;obtain⟨⟨ya,yc,hy⟩,_⟩:=I2.out.cases;obtain⟨ln,hln⟩:=nm_ ((ra.getD k []).length);obtain⟨lm,hlm⟩:=nm_ ((rb.getD k []).length);rw[<-hln]at hx;rw[<-hlm]at hy;subst hx hy;clear hln hlm I1 I2
   by_cases he:ra.getD k []=rb.getD k []
   ·rw[show decide (ra.getD k []=rb.getD k [])=true from by simpa using he]at KC
    have HEQ:=hd_ he;clear he;go_wp2
    go_quiet ((with_reducible refine Calls.quiet_of (KC.out _)))
    go_wp2;go_roundw
    case rel=>exact⟨k+1,o_,gn_,fun j hj=>by
          by_cases h:j<k
          · exact HE.out j h
          · obtain rfl:j=k:=o_
            exact HEQ.out,below_drewN HB.out _⟩
    case measure=>simp[intOf];omega
   ·rw[show decide (ra.getD k []=rb.getD k [])=false from by simpa using he]at KC
    have HNE:=hd_ he;clear he;go_wp2
    go_quiet ((with_reducible refine Calls.quiet_of (KC.out _)))
    go_wp2;go_ret;exact⟨aH (xI (i:=k) (d:=[]) HNE.out).symm,below_drewN HB.out _⟩
  ·have fin:Hid (decide (ra=rb)=true):=fO (d:=[]) Ha.out Hb.out (fun i hi=>HE.out i o_)
   go_wp2;go_ret;exact⟨aH fin.out.symm,HB.out⟩
theorem aAt (w:World) (u v:Value) (ra rb:List (List Int)) (ha:Rws w u ra) (hb:Rws w v rb) (hl:ra.length<=maxLen) (hla:∀i,i<ra.length->(ra.getD i []).length<=maxLen):
  Calls prog 190 #[u,v] w fun e w'=>e=.returned (.bool (decide (ra=rb)))/\Below w.heap.size w w':=by
 obtain⟨⟨x,c,hx⟩,qa⟩:=ha.cases;obtain⟨⟨y,d,hy⟩,qb⟩:=hb.cases
 by_cases h:ra.length≠rb.length\/(ra.length=0/\rb.length=0)
 ·rw[hx,hy]
  refine (aBp x y _ _ c d w h).mono fun e w' ⟨he,hw⟩=>⟨?_,hw⟩
  exact zAL
 ·have e:ra.length=rb.length:=o_
  rcases ha with ⟨rfl,rfl⟩|⟨b,o,c,rfl,_,_,hlb,hca⟩
  ·exact absurd (Or.inr ⟨rfl,e.symm⟩) h
  rcases hb with ⟨rfl,rfl⟩|⟨b',o',c',rfl,_,_,hlb',hcb⟩
  ·exact absurd (Or.inr ⟨e,rfl⟩) h
  rw[<-e]at hcb ⊢;exact aDj b o c b' o' c' _ ra rb w hl rfl e.symm hla hlb hlb' hca hcb
theorem aGW (w:World) (u v:Value) (ra rb:List (List Int)) (ha:Rws w u ra) (hb:Rws w v rb) (hl:ra.length<=maxLen) (hla:∀i,i<ra.length->(ra.getD i []).length<=maxLen):
  Calls prog 135 #[.agg #[u],.agg #[v]] w fun e w'=>e=.returned (.bool (decide (ra=rb)))/\Below w.heap.size w w':=by
 obtain⟨⟨x,c,hx⟩,_⟩:=ha.cases;obtain⟨⟨y,d,hy⟩,_⟩:=hb.cases;obtain⟨n,hn⟩:=nm_ ra.length;obtain⟨m,hm⟩:=nm_ rb.length;rw[<-hn]at hx;rw[<-hm]at hy;subst hx hy;have K:Hid (∀W,Below w.heap.size w W->Calls prog 190 #[.slice x n c,.slice y m d] W fun e w'=>e=.returned (.bool (decide (ra=rb)))/\Below W.heap.size W w'):=fun W hW=>
  aAt W _ _ ra rb (ha.below hW lr_) (hb.below hW lr_) hl hla
 clear ha hb hn hm hl hla
 by_cases h:ra=rb
 ·rw[show decide (ra=rb)=true from by simpa using h]at K ⊢
  exact zAP
 ·rw[show decide (ra=rb)=false from by simpa using h]at K ⊢
  exact zAP
def aJq (zs:List Int):Bool:=zs.length==8&&zs.all fun z=>decide (0<=z)&&decide (z<=2000)
def okB (rs:List (List Int)):Bool:=rs.length==3&&rs.all fun zs=>aJq zs&&zs.sum==(rs.getD 0 []).sum&&decide (zs.sum<=2000)
def aDb (rs:List (List Int)) (i:Nat):Prop:=(rs.getD i []).length=8/\(∀k,k<8->0<=(rs.getD i []).getD k 0/\(rs.getD i []).getD k 0<=2000)/\(rs.getD i []).sum=(rs.getD 0 []).sum/\(rs.getD i []).sum<=2000
theorem dT (rs:List (List Int)):okB rs=true↔rs.length=3/\∀i,i<3->aDb rs i:=by
 unfold okB aDb aJq;simp only[Bool.and_eq_true,beq_iff_eq,List.all_eq_true,decide_eq_true_eq]
 constructor
 ·rintro⟨h3,h⟩
  refine⟨h3,fun i hi=>?_⟩;have hm:rs.getD i [] ∈ rs:=lW _ _ _ o_;obtain⟨⟨⟨h8,ha⟩,hs⟩,hl⟩:=h _ hm;refine⟨h8,fun k hk=>?_,hs,hl⟩;exact ha _ (lW _ _ _ o_)
 ·rintro⟨h3,h⟩
  refine⟨h3,fun zs hz=>?_⟩;obtain⟨i,hi,rfl⟩:=List.getElem_of_mem hz;have h':=h i o_;simp only[List.getD_eq_getElem?_getD,List.getElem?_eq_getElem hi,Option.getD_some]at h' ⊢;refine⟨⟨⟨h'.1,fun z hz=>?_⟩,h'.2.2.1⟩,h'.2.2.2⟩;obtain⟨k,hk,rfl⟩:=List.getElem_of_mem hz;have h2:=h'.2.1 k o_;simpa[hk]using h2
theorem xA {rs:List (List Int)} (h:rs.length≠3\/∃i,i<3/\¬aDb rs i):okB rs=false:=by
 cases hb:okB rs with
 |false=>rfl
 |true=>
  obtain⟨h3,hg⟩:=(dT rs).1 hb;rcases h with h|⟨i,hi,hn⟩
  ·exact absurd h3 h
  ·exact absurd (hg i hi) hn
theorem aD6 (u:Value) (b o cap:Nat) (n:Nat) (w:World) (h:n≠3) (hu:u=.slice none 0 0/\n=0\/u=.slice (some ⟨b,o,none⟩) n cap):
  Calls prog 219 #[.agg #[u]] w fun e w'=>e=.returned (.bool false)/\Below w.heap.size w w':=by
 rcases hu with ⟨rfl,rfl⟩|rfl
 ·go_enter func219,ntmps219
  exact zAE
 ·have hn:((n:Int)==3)=false:=by simp;omega
  go_enter func219,ntmps219;exact zAE
theorem aGj (b o cap:Nat) (rs:List (List Int)) (w:World) (h3:rs.length=3) (hb:b<w.heap.size)
  (hc:∀i,i<3->∃x,w.cell? ⟨b,o+i,none⟩=some x/\cW w x (rs.getD i [])):
  Calls prog 219 #[.agg #[.slice (some ⟨b,o,none⟩) 3 cap]] w fun e w'=>e=.returned (.bool (okB rs))/\Below w.heap.size w w':=by
 have hok:=hd_ (dT rs);have hno:=hd_ (@xA rs);have Hc:=hd_ hc;have H3:=hd_ h3;clear hc h3;go_enter func219,ntmps219;go_wp2;go_loopw [3] (fun i wr=>∃k:Nat,k<=3/\i=.int .i64 k/\(∀j,j<k->aDb rs j)/\Below w.heap.size w wr/\wr.cell? ⟨w.heap.size,0,none⟩=some (.slice (some ⟨b,o,none⟩) 3 cap)) (fun i _=>3 - (intOf i).toNat)
 case atStart=>exact⟨0,Nat.zero_le _,rfl,fun _ h=>by omega,(Below.refl _ _).alloc lr_ _,by simp⟩
 case round=>
  obtain⟨k,hk,rfl,hgood,hbl,hbox⟩:=hrel;have Hbl:=hd_ hbl;clear hbl
  by_cases hlt:k<3
  ·have hltB:decide ((k:Int)<3)=true:=by simp;omega
   obtain⟨x,hx,hi⟩:=Hc.out k hlt;rw[<-Hbl.out.cell (p:=⟨b,o+k,none⟩) hb]at hx;obtain⟨zs,hzs⟩:=nm_ (rs.getD k []);rw[<-hzs]at hi;have Hzs:=hd_ hzs;have Hgood:=hd_ hgood;clear hzs hgood;have bad:Hid (¬aDb rs k->okB rs=false):=fun h=>hno.out (.inr ⟨k,hlt,h⟩)
   rcases hi with ⟨rfl,hz0⟩|⟨b1,o1,c1,rfl,hl1,hm1,hb1,hc1⟩
   ·have hz0':=hd_ hz0
    clear hz0;go_wp2;go_ret;exact⟨aH (bad.out (fun h=>by have:=h.1;rw[<-Hzs.out,hz0'.out]at this;simp at this)).symm,Hbl.out⟩
   by_cases h8:zs.length=8
   ·rw[h8]at hx hc1
    replace hc1:∀(i:Nat),i<8->wr.cell? ⟨b1,o1+i,none⟩=some (.int .i64 (zs.getD i 0)):=fun i hi=>by rw[Hbl.out.cell (p:=⟨b1,o1+i,none⟩) hb1];exact hc1 i hi
    have H8:=hd_ h8;have Hc1:=hd_ hc1;clear h8 hc1 hl1 hm1;go_wp2
    go_loop [4] (fun j=>∃m:Nat,m<=8/\j=.int .i64 m/\∀i,i<m->0<=zs.getD i 0/\zs.getD i 0<=2000) (fun j=>8 - (intOf j).toNat)
    case atStart=>exact⟨0,Nat.zero_le _,rfl,fun _ h=>by omega⟩
    case round=>
     obtain⟨m,hm,rfl,hin⟩:=hrel;have Hin:=hd_ hin;clear hin
     by_cases hmt:m<8
     ·have hcm:=Hc1.out m hmt
      obtain⟨y,hy⟩:=nm_ (zs.getD m 0);rw[<-hy]at hcm;have Hy:=hd_ hy;clear hy
      by_cases hr:0<=y/\y<=2000
      ·obtain⟨r0,r1⟩:=hr
       go_wp2_with (go_at_call 66;refine (aJ _ _ _ _ r0 r1).mono ?_;rintro e w' ⟨rfl,rfl⟩)
       go_round
       case rel=>exact⟨m+1,o_,gn_,fun i hi=>by
                by_cases h:i<m
                · exact Hin.out i h
                · obtain rfl:i=m:=o_
                  rw[<-Hy.out];exact⟨r0,r1⟩⟩
       case measure=>simp[intOf];omega
      ·have hr':y<0\/2000<y:=o_
       clear hr
       go_wp2_with (go_at_call 66;refine (fY _ _ _ _ hr').mono ?_;rintro e w' ⟨rfl,rfl⟩)
       go_ret;exact⟨aH (bad.out (fun h=>by have h':=h.2.1 m hmt;rw[<-Hzs.out, <-Hy.out]at h';omega)).symm,Hbl.out⟩
     ·have hin8:Hid (∀i,i<8->0<=zs.getD i 0/\zs.getD i 0<=2000):=fun i hi=>Hin.out i o_
      go_wp2;obtain⟨b0,o0,c0,zs0,hx0,Hzs0,H80,Hin0,Hc0⟩:∃b0 o0 c0 zs0,wr.cell? ⟨b,o,none⟩=some (.slice (some ⟨b0,o0,none⟩) 8 c0)/\Hid (zs0=rs.getD 0 [])/\Hid (zs0.length=8)/\Hid (∀i,i<8->0<=zs0.getD i 0/\zs0.getD i 0<=2000)/\
        Hid (∀(i:Nat),i<8->wr.cell? ⟨b0,o0+i,none⟩=some (.int .i64 (zs0.getD i 0))):=by
       rcases Nat.eq_zero_or_pos k with h0|h0
       ·subst h0
        exact⟨b1,o1,c1,zs,hx,Hzs.out,H8.out,hin8.out,Hc1.out⟩
       ·obtain⟨x0,hx0,hi0⟩:=Hc.out 0 o_
        rw[<-Hbl.out.cell (p:=⟨b,o+0,none⟩) hb]at hx0;have g0:=Hgood.out 0 h0;rcases hi0 with ⟨_,hz⟩|⟨b0,o0,c0,rfl,_,_,hb0,hc0⟩
        ·have:=g0.1;rw[hz]at this;simp at this
        ·rw[g0.1]at hx0 hc0
         exact⟨b0,o0,c0,_,hx0,rfl,g0.1,g0.2.1,fun i hi=>by rw[Hbl.out.cell (p:=⟨b0,o0+i,none⟩) hb0];exact hc0 i hi⟩
      obtain⟨S,hS⟩:∃S,zs.sum=S:=⟨_,rfl⟩
      obtain⟨S0,hS0⟩:∃S,zs0.sum=S:=⟨_,rfl⟩
      have HS:=hd_ hS;have HS0:=hd_ hS0;have HSS:Hid (aDb rs k->S=S0/\S<=2000):=fun h=>by have:=h.2.2;rw[<-Hzs0.out, <-Hzs.out,hS,hS0]at this;exact this
      have HSG:Hid (S=S0->S<=2000->aDb rs k):=fun h1 h2=>by
       unfold aDb;rw[<-Hzs0.out, <-Hzs.out,hS,hS0];exact⟨H8.out,hin8.out,h1,h2⟩
      clear hS hS0;have k1:∀W:World,(∀i,i<8->W.cell? ⟨b1,o1+i,none⟩=some (.int .i64 (zs.getD i 0)))->Calls prog 224 #[.slice (some ⟨b1,o1,none⟩) 8 c1] W fun e w'=>e=.returned (iv S)/\W=w':=fun W h=>by
       rw[<-HS.out];exact pK b1 o1 c1 8 zs W H8.out o_ hin8.out h
      have k0:∀W:World,(∀i,i<8->W.cell? ⟨b0,o0+i,none⟩=some (.int .i64 (zs0.getD i 0)))->Calls prog 224 #[.slice (some ⟨b0,o0,none⟩) 8 c0] W fun e w'=>e=.returned (iv S0)/\W=w':=fun W h=>by
       rw[<-HS0.out];exact pK b0 o0 c0 8 zs0 W H80.out o_ Hin0.out h
      have K1:=hd_ k1;have K0:=hd_ k0;clear k0 k1;have ki0:(0:Int)<=(k:Int):=o_;have ki3:(k:Int)<3:=o_
      by_cases he:S=S0
      ·subst he
       by_cases h2:S<=2000
       ·have h2':¬ 2000<S:=o_
        go_quiet (first
                  |((with_reducible refine aE (K1.out _ ?_));exact Hc1.out)
                  |((with_reducible refine aE (K0.out _ ?_));exact Hc0.out))
        go_wp2;go_roundw
        case rel=>exact⟨k+1,o_,gn_,fun j hj=>by
                  by_cases h:j<k
                  · exact Hgood.out j h
                  · obtain rfl:j=k:=o_
                    exact HSG.out rfl h2,below_drewN Hbl.out _,by simpa using hbox⟩
        case measure=>simp[intOf];omega
       ·have h2':2000<S:=o_
        go_quiet (first
                  |((with_reducible refine aE (K1.out _ ?_));exact Hc1.out)
                  |((with_reducible refine aE (K0.out _ ?_));exact Hc0.out))
        go_wp2;go_ret;exact⟨aH (bad.out (fun h=>by have:=(HSS.out h).2;omega)).symm,below_drewN Hbl.out _⟩
      ·have he':(S != S0)=true:=by simpa using he
       have he2:decide (S=S0)=false:=by simpa using he
       go_quiet (first
                |((with_reducible refine aE (K1.out _ ?_));exact Hc1.out)
                |((with_reducible refine aE (K0.out _ ?_));exact Hc0.out))
       go_wp2;go_ret;exact⟨aH (bad.out (fun h=>he (HSS.out h).1)).symm,below_drewN Hbl.out _⟩
   ·have hn8:((zs.length:Int)==8)=false:=by simp;omega
    clear hc1 hl1 hm1;go_wp2;go_ret;exact⟨aH (bad.out (fun h=>by have:=h.1;rw[<-Hzs.out]at this;exact h8 this)).symm,Hbl.out⟩
  ·go_wp2
   go_ret;exact⟨aH ((hok.out).2 ⟨H3.out,fun i hi=>hgood i o_⟩).symm,Hbl.out⟩
theorem rM (u:Value) (rs:List (List Int)) (w:World) (h:Rws w u rs):
  Calls prog 219 #[.agg #[u]] w fun e w'=>e=.returned (.bool (okB rs))/\Below w.heap.size w w':=by
 rcases h with ⟨rfl,rfl⟩|⟨b,o,cap,rfl,_,_,hb,hc⟩
 ·exact aD6 _ 0 0 0 0 w o_ (.inl ⟨rfl,rfl⟩)
 ·by_cases h3:rs.length=3
  ·rw[h3]at hc ⊢
   exact aGj b o cap rs w h3 hb hc
  ·refine (aD6 _ b o cap _ w h3 (.inr rfl)).mono fun e w' ⟨he,hb'⟩=>⟨?_,hb'⟩
   rw[xA (.inl h3)];exact he
def gR:List Int:=[0,0,0,0,0,0,0,0]
theorem aJP:(prog.info? 3).map (fun i=>(i.zero,i.size,i.bytes))=some (some (.int .i64 0),1,8):=by kernel_rfl
theorem aBX:(prog.info? 23).map (fun i=>(i.zero,i.size,i.bytes))=some (some (.slice none 0 0),1,24):=by kernel_rfl
theorem aJE:∀w,(Instr.makeSlice 23 (iv 8) (iv 8)).run prog w=.ok (.slice (some ⟨w.heap.size,0,none⟩) 8 8) (w.alloc (.cells (bG gR).toArray 3)):=fun _=>by kernel_rfl
theorem aMo:∀w,(Instr.makeSlice 34 (iv 3) (iv 3)).run prog w=.ok (.slice (some ⟨w.heap.size,0,none⟩) 3 3) (w.alloc (.cells #[zn,zn,zn] 23)):=fun _=>by kernel_rfl
def gW:List (List Int):=[gR,gR,gR]
theorem cQ {w:World} {b:Nat} {u:Value} {t:TypeId} (h:w.heap[b]? =some (.cells #[u] t (0,0))):w.cell? ⟨b,0,none⟩=some u/\w.frozen? ⟨b,0,none⟩=false/\b<w.heap.size:=
 ⟨by simp[World.cell?,h],by simp[World.frozen?,h],(Array.getElem?_eq_some_iff.1 h).1⟩
theorem dJ.nil (w:World) (B:Nat):dJ w B zn [] (fun _=>0) (fun _=>0):=
 ⟨World.ownsRow_nil w B _ 1,fun i h=>absurd h (Nat.not_lt_zero i),fun i h=>absurd h (Nat.not_lt_zero i),fun i _ h=>absurd h (Nat.not_lt_zero i)⟩
theorem dJ.hdr_lt {w:World} {B:Nat} {u:Value} {rs:List (List Int)} {G C:Nat->Nat} (h:dJ w B u rs G C):∀k,u.ownBlock=some k->B<=k/\k<w.heap.size:=h.hdr.lt
theorem jS {w w':World} {row:Option Nat} {b:Nat} {o:Obj} (h:w.heap[b]? =some o) (hg:w.grownBy w' row) (hr:row≠some b):w'.heap[b]? =some o:=by
 rw[hg.block b (Array.getElem?_eq_some_iff.1 h).1 (fun e=>hr e.symm)];exact h
theorem rJ (w:World) (B:Nat) (zs:List Int) (hB:B<=w.heap.size) (hl:zs.length<=maxLen):
  (w.alloc (.cells (bG zs).toArray 3)).ownsRow B 3 1 (.slice (some ⟨w.heap.size,0,none⟩) zs.length zs.length) zs.length (bG zs):=by
 have:=World.ownsRow_lit (base:=B) (e:=3) (size:=1) w (bG zs).toArray zs.length hB hl (by simp[bG]);simpa using this
theorem aNv (w:World) (o o':Obj):((w.alloc o).alloc o').drew.heap[w.heap.size+1]? =some o':=by
 have:=heap_alloc_new (w.alloc o) o';rw[show (w.alloc o).heap.size=w.heap.size+1 by simp]at this;exact this
theorem aL9 {w w1:World} {o o':Obj} {b:Nat} {u:Value} {row:Option Nat} (c:w.cell? ⟨b,0,none⟩=some u) (f:w.frozen? ⟨b,0,none⟩=false) (l:b<w.heap.size)
  (hg:((w.alloc o).alloc o').drew.grownBy w1 row) (hr:row≠some b):w1.cell? ⟨b,0,none⟩=some u/\w1.frozen? ⟨b,0,none⟩=false:=by
 have l1:b<(w.alloc o).heap.size:=by simp;omega
 have l2:b<((w.alloc o).alloc o').drew.heap.size:=by simp;omega
 rw[hg.cell_far ⟨b,0,none⟩ l2 (Ne.symm hr),hg.frozen_far ⟨b,0,none⟩ l2 (Ne.symm hr)];simp only[World.cell?_drew,World.frozen?_drew];rw[World.cell?_alloc_past _ _ _ l1,World.cell?_alloc_past _ _ _ l,World.frozen?_alloc_past _ _ _ l1,World.frozen?_alloc_past _ _ _ l];exact⟨c,f⟩
theorem aC1 {w w':World} {row:Option Nat} (h:w.grownBy w' row):w.grownBy w'.drew row:=⟨h.os,h.tape,h.output,h.size,h.block⟩
theorem aB6 {w wr X w1:World} {S R B W g c gg cap:Nat} {o:Obj} {u:Value} {t:TypeId} {rs:List (List Int)} {G C:Nat->Nat} {zs:List Int}
  (HO:dJ wr B u rs G C) (hX:wr.grownBy X none) (hz:X.ownsRow B 3 1 (.slice (some ⟨g,0,none⟩) zs.length c) zs.length (bG zs)) (hg:wr.heap.size<=g)
  (hown1:w1.ownsRow B 23 1 (.slice (some ⟨gg,0,none⟩) (rs.length+1) cap) (rs.length+1) ((List.range rs.length).map (nV rs G C)++[.slice (some ⟨g,0,none⟩) zs.length c]))
  (hgrow:X.grownBy w1 u.ownBlock) (hat:u.ownBlock=some gg\/gg=X.heap.size)
  (hR:wr.heap[R]? =some (.cells #[u] t (0,0))) (hS:wr.heap[S]? =some o) (hRB:R<B) (hSB:S<B) (hSR:S≠R) (hbl:Below W w wr) (hWR:W<=R) (hWw:W<=w.heap.size):
  ∃G' C',dJ (w1.setCell ⟨R,0,none⟩ (.slice (some ⟨gg,0,none⟩) (rs.length+1) cap)) B (.slice (some ⟨gg,0,none⟩) (rs.length+1) cap) (rs++[zs]) G' C'/\
   (w1.setCell ⟨R,0,none⟩ (.slice (some ⟨gg,0,none⟩) (rs.length+1) cap)).heap[S]? =some o/\
   (w1.setCell ⟨R,0,none⟩ (.slice (some ⟨gg,0,none⟩) (rs.length+1) cap)).heap[R]? =some (.cells #[.slice (some ⟨gg,0,none⟩) (rs.length+1) cap] t (0,0))/\
   Below W w (w1.setCell ⟨R,0,none⟩ (.slice (some ⟨gg,0,none⟩) (rs.length+1) cap)):=by
 have lt:∀k,u.ownBlock=some k->B<=k/\k<wr.heap.size:=HO.hdr_lt
 have HX:=HO.grown hX (fun _ e=>by cases e);have h1:=HX.snoc hz (fun e=>by have:=(lt g e).2;omega) (fun i hi e=>by have:=((HO.row i hi).lt (G i) rfl).2;omega) hown1 hgrow hat;have hRX:=jS hR hX (by simp);have hSX:=jS hS hX (by simp);have hR1:=jS hRX hgrow (fun e=>by have:=(lt R e).1;omega);have hS1:=jS hSX hgrow (fun e=>by have:=(lt S e).1;omega)
 refine⟨_,_,h1.grown (aA w1 ⟨R,0,none⟩ _) (fun k e=>by simp at e;omega),?_,?_,?_⟩
 ·rw[heap_setCell_other w1 ⟨R,0,none⟩ S _ hSR];exact hS1
 ·exact one_setCell hR1
 ·have hXb:Below W w X:=hbl.trans ⟨hX.os,hX.tape,hX.output,hX.size,fun k hk=>hX.block k (Nat.lt_of_lt_of_le hk (Nat.le_trans hWw hbl.size)) (by simp)⟩
  have h1b:Below W w w1:=hXb.grown hgrow (Nat.le_trans hWw hXb.size) (fun k e=>by have:=(lt k e).1;omega);exact h1b.setCell (by simpa using hWR) _
theorem aKb (w:World):
  Calls prog 168 #[] w fun e w'=>∃u G C,e=.returned (.agg #[u])/\dJ w' w.heap.size u gW G C/\Below w.heap.size w w':=by
 have m8:=aJE;obtain⟨i0,hi,hz0,hz1,hz2⟩:=info_parts aBX;go_enter func168,ntmps168;go_wp2;go_loopw [2] (fun i wr=>∃(k:Nat) (rs:List (List Int)) (u:Value) (G C:Nat->Nat),k<=3/\i=.int .i64 k/\rs=List.replicate k gR/\dJ wr (w.heap.size+2) u rs G C/\
      wr.heap[w.heap.size]? =some (.cells #[zn] 36 (0,0))/\wr.heap[w.heap.size+1]? =some (.cells #[u] 36 (0,0))/\Below w.heap.size w wr) (fun i _=>3 - (intOf i).toNat)
 case atStart=>
  refine⟨0,_,_,_,_,Nat.zero_le _,rfl,rfl,dJ.nil _ _,?_,?_,((Below.refl _ _).alloc lr_ _).alloc (by simp) _⟩
  ·exact (heap_alloc_old _ _ (by simp)).trans (heap_alloc_new _ _)
  ·have:=heap_alloc_new (w.alloc (Obj.cells #[Value.slice none 0 0] 36)) (Obj.cells #[Value.slice none 0 0] 36)
   simpa using this
 case round=>
  obtain⟨k,rs,u,G,C,hk,rfl,hrs,hown,hS,hR,hbl⟩:=hrel;have HRS:=hd_ hrs;have hn:rs.length<=3:=by rw[hrs];simpa using hk
  clear hrs;obtain⟨c1,f1,l1⟩:=cQ hR;have hb0:w.heap.size+2<=wr.heap.size:=o_;have l2:w.heap.size+1<wr.heap.size+1:=o_;have hub:u.ownBlock≠some (w.heap.size+1):=fun e=>by have:=(hown.hdr_lt _ e).1;omega
  have HO:=hd_ hown;have HS:=hd_ hS;have HR:=hd_ hR;have HB:=hd_ hbl;clear hown hS hR hbl
  by_cases hlt:k<3
  ·go_wp2_with fail
   go_region_law
    ((refine step_append_lies _ r_ _ _ _ r_ (w.heap.size+2) 23 i0 _ 1 24 underlying34 hi hz0 hz1 hz2 rfl o_ u rs.length _ r_ (((HO.out.hdr.alloc _).alloc _).drew)
            ⟨wr.heap.size+1,0,none⟩ 1 1 [.slice (some ⟨wr.heap.size,0,none⟩) 8 8] r_ r_ (World.news_of_block (cs:=#[.slice (some ⟨wr.heap.size,0,none⟩) 8 8]) (t:=23) (fr:=(0,0)) (aNv _ _ _)) (by simp[Value.oneCell'])
            o_ (by unfold maxLen;omega) o_ (by simp;omega) (wr.heap.size+2) (by simp) ?_;intro gg cap w1 hown1 hgrow hat hlt1;have d1:=aL9 c1 f1 l1 hgrow hub;obtain⟨d2,d3⟩:=d1))
   all_goals
    have hX:wr.grownBy ((wr.alloc (.cells (bG gR).toArray 3)).alloc (.cells #[.slice (some ⟨wr.heap.size,0,none⟩) 8 8] 23)).drew none:=
     aC1 (aL (World.grownBy_alloc wr _ none) (World.grownBy_alloc _ _ none))
    have hz:=(((rJ wr (w.heap.size+2) gR hb0 (by simp[gR,maxLen])).alloc (.cells #[.slice (some ⟨wr.heap.size,0,none⟩) 8 8] 23)).drew)
    have fin:=aB6 HO.out hX hz lr_ hown1 hgrow (by simpa using hat) HR.out HS.out o_ o_ o_ HB.out o_ lr_;have FIN:=hd_ fin;clear fin hX hz hown1 hgrow hat;go_wp2;go_roundw
    case rel=>
     obtain⟨G',C',q1,q2,q3,q4⟩:=FIN.out;exact⟨k+1,rs++[gR],_,G',C',o_,gn_,by rw[HRS.out,List.replicate_succ'],q1,q2,q3,q4⟩
    case measure=>simp[intOf];omega
  ·obtain⟨s1,s2,s3⟩:=cQ HS.out
   have h3:rs.length=3:=by rw[HRS.out];simp;omega
   obtain⟨g,cap,hu,hg1,hg2⟩:=World.ownsRow.form HO.out.hdr o_;subst hu;have e3:rs=gW:=by rw[HRS.out,show k=3 by omega];rfl
   have hw:=HO.out.grown (aA wr ⟨w.heap.size,0,none⟩ (.slice (some ⟨g,0,none⟩) rs.length cap)) (fun k e=>by simp at e;omega);have hb:=HB.out.setCell (p:=⟨w.heap.size,0,none⟩) lr_ (.slice (some ⟨g,0,none⟩) rs.length cap);rw[e3]at hw hb;have H1:=hd_ hw;have H2:=hd_ hb;have E3:=hd_ e3;clear hw hb h3 e3;go_wp2;rw[E3.out]
   have hr:=World.cell?_setCell_same wr ⟨w.heap.size,0,none⟩ (.slice (some ⟨g,0,none⟩) gW.length cap) s1;exact bodyPost_ret (v:=.agg #[.slice (some ⟨g,0,none⟩) gW.length cap]) (by simp[results,results168,go_sem,hr]) rfl ⟨_,G,C,rfl,H1.out.base o_,H2.out⟩
theorem aHP (w:World) (o:Obj) (r0 r1 r2:List Int) (n:Nat) (hn:w.heap.size=n) (h0:r0.length=8) (h1:r1.length=8) (h2:r2.length=8):
  dJ (((((w.alloc o).alloc (.cells #[.slice (some ⟨n+1+1,0,none⟩) 8 8,.slice (some ⟨n+1+1+1,0,none⟩) 8 8,.slice (some ⟨n+1+1+1+1,0,none⟩) 8 8] 23)).alloc
      (.cells (bG r0).toArray 3)).alloc (.cells (bG r1).toArray 3)).alloc (.cells (bG r2).toArray 3)) n (.slice (some ⟨n+1,0,none⟩) 3 3) [r0,r1,r2] (fun i=>n+2+i) (fun _=>8):=by
 subst hn;have eV:∀i,nV [r0,r1,r2] (fun i=>w.heap.size+2+i) (fun _=>8) i=.slice (some ⟨w.heap.size+2+i,0,none⟩) ([r0,r1,r2].getD i []).length 8:=fun i=>rfl
 have hh:=World.ownsRow_lit (base:=w.heap.size) (e:=23) (size:=1) (w.alloc o) #[.slice (some ⟨w.heap.size+1+1,0,none⟩) 8 8,.slice (some ⟨w.heap.size+1+1+1,0,none⟩) 8 8,.slice (some ⟨w.heap.size+1+1+1+1,0,none⟩) 8 8] 3 (by simp) (by simp[maxLen]) (by simp)
 have z0:=rJ ((w.alloc o).alloc (.cells #[.slice (some ⟨w.heap.size+1+1,0,none⟩) 8 8,.slice (some ⟨w.heap.size+1+1+1,0,none⟩) 8 8,.slice (some ⟨w.heap.size+1+1+1+1,0,none⟩) 8 8] 23)) w.heap.size r0 (by simp;omega) (by simp[h0,maxLen])
 have z1:=rJ (((w.alloc o).alloc (.cells #[.slice (some ⟨w.heap.size+1+1,0,none⟩) 8 8,.slice (some ⟨w.heap.size+1+1+1,0,none⟩) 8 8,.slice (some ⟨w.heap.size+1+1+1+1,0,none⟩) 8 8] 23)).alloc (.cells (bG r0).toArray 3)) w.heap.size r1 (by simp;omega) (by simp[h1,maxLen])
 have z2:=rJ ((((w.alloc o).alloc (.cells #[.slice (some ⟨w.heap.size+1+1,0,none⟩) 8 8,.slice (some ⟨w.heap.size+1+1+1,0,none⟩) 8 8,.slice (some ⟨w.heap.size+1+1+1+1,0,none⟩) 8 8] 23)).alloc (.cells (bG r0).toArray 3)).alloc (.cells (bG r1).toArray 3)) w.heap.size r2 (by simp;omega) (by simp[h2,maxLen]);simp only[World.size_alloc,h0,h1,h2]at hh z0 z1 z2
 refine⟨?_,fun i hi=>?_,fun i hi=>?_,fun i j hi hj hij=>?_⟩
 ·have:=((hh.alloc (.cells (bG r0).toArray 3)).alloc (.cells (bG r1).toArray 3)).alloc (.cells (bG r2).toArray 3)
  simpa[List.range_succ,nV,h0,h1,h2]using this
 ·simp only[List.length_cons,List.length_nil]at hi
  rw[eV];rcases (by omega:i=0\/i=1\/i=2)with rfl|rfl|rfl
  ·simpa[h0]using (z0.alloc (.cells (bG r1).toArray 3)).alloc (.cells (bG r2).toArray 3)
  ·simpa[h1]using z1.alloc (.cells (bG r2).toArray 3)
  ·simpa[h2]using z2
 ·simp[Value.ownBlock];omega
 ·simp;omega
theorem aAs (w:World):
  Calls prog 152 #[] w fun e w'=>∃u G C,e=.returned (.agg #[u])/\dJ w' w.heap.size u gW G C/\Below w.heap.size w w':=by
 have m8:=aJE;have m3:=aMo;go_enter func152,ntmps152;go_wp2;refine wp_loop_rounds 4 ?_;rw[rounds_succ];go_wp2;rw[rounds_succ];go_wp2;rw[rounds_succ];go_wp2;rw[rounds_succ];go_wp2;exact bodyPost_ret (v:=.agg #[.slice (some ⟨w.heap.size+1,0,none⟩) 3 3]) (by simp[results,results152,go_sem]) rfl
  ⟨_,_,_,rfl,aHP w _ gR gR gR _ rfl rfl rfl rfl,(((((Below.refl _ _).alloc lr_ _).alloc (by simp) _).alloc (by simp;omega) _).alloc (by simp;omega) _).alloc (by simp;omega) _⟩
def nY (zs:List Int):Prop:=zs.length=8/\(∀k,k<8->0<=zs.getD k 0)/\zs.sum<=2000
instance (zs:List Int):Decidable (nY zs):=by unfold nY;infer_instance
def fX (zs:List Int):Int:=if nY zs then zs.sum else -1
def dA (rs:List (List Int)):Int:=if okB rs=true then (rs.getD 0 []).sum else -1
theorem aGq {zs:List Int} (h:∀k,k<zs.length->0<=zs.getD k 0):∀z ∈ zs,0<=z:=fun z hz=>by
 obtain⟨k,hk,rfl⟩:=List.getElem_of_mem hz;have:=h k hk;simpa[hk]using this
theorem tS {zs:List Int} (h:∀z ∈ zs,0<=z):0<=zs.sum:=by
 induction zs with
 |nil=>simp
 |cons a l ih=>simp only[List.sum_cons];have:=h a (by simp);have:=ih (fun z hz=>h z (by simp[hz]));omega
theorem xX {zs:List Int} (h:∀z ∈ zs,0<=z) (k:Nat):(zs.take k).sum<=zs.sum:=by
 have e:zs.sum=(zs.take k).sum+(zs.drop k).sum:=by rw[<-List.sum_append,List.take_append_drop]
 have:=tS (fun z hz=>h z (List.mem_of_mem_drop hz):∀z ∈ zs.drop k,0<=z);omega
theorem nY.bd {zs:List Int} (h:nY zs):(∀z ∈ zs,0<=z)/\0<=zs.sum/\(∀k,k<8->0<=zs.getD k 0/\zs.getD k 0<=2000):=by
 have hm:=aGq (fun k hk=>h.2.1 k (by rw[<-h.1];exact hk):∀k,k<zs.length->0<=zs.getD k 0);refine⟨hm,tS hm,fun k hk=>⟨h.2.1 k hk,?_⟩⟩;have h1:=oQ zs k (by rw[h.1];exact hk);have h2:=xX hm (k+1);have h3:=tS (fun z hz=>hm z (List.mem_of_mem_take hz):∀z ∈ zs.take k,0<=z);have:=h.2.2;omega
theorem fZ {zs:List Int} (h:nY zs):fX zs=zs.sum:=if_pos h
theorem lT {zs:List Int} (h:¬nY zs):fX zs= -1:=if_neg h
theorem aHe (rs:List (List Int)):dA rs=if rs.length=3/\fX (rs.getD 1 [])=fX (rs.getD 0 [])/\fX (rs.getD 2 [])=fX (rs.getD 0 [])then fX (rs.getD 0 [])else -1:=by
 unfold dA
 by_cases hok:okB rs=true
 ·rw[if_pos hok]
  obtain⟨h3,hg⟩:=(dT rs).1 hok;have fine:∀i,i<3->nY (rs.getD i []):=fun i hi=>⟨(hg i hi).1,fun k hk=>((hg i hi).2.1 k hk).1,(hg i hi).2.2.2⟩
  rw[if_pos ⟨h3,by rw[fZ (fine 1 o_),fZ (fine 0 o_)];exact (hg 1 o_).2.2.1,by rw[fZ (fine 2 o_),fZ (fine 0 o_)];exact (hg 2 o_).2.2.1⟩,
      fZ (fine 0 o_)]
 ·rw[if_neg hok]
  split
  ·rename_i h
   obtain⟨h3,h1,h2⟩:=h
   by_cases f0:nY (rs.getD 0 [])
   ·exfalso
    apply hok;rw[dT];have pos:=f0.bd.2.1;have all:∀i,i<3->nY (rs.getD i [])/\(rs.getD i []).sum=(rs.getD 0 []).sum:=fun i hi=>by
     have e:fX (rs.getD i [])=fX (rs.getD 0 []):=by
      rcases (by omega:i=0\/i=1\/i=2)with rfl|rfl|rfl
      ·rfl
      ·exact h1
      ·exact h2
     rw[fZ f0]at e
     by_cases fi:nY (rs.getD i [])
     ·rw[fZ fi]at e;exact⟨fi,e⟩
     ·rw[lT fi]at e;omega
    exact⟨h3,fun i hi=>⟨(all i hi).1.1,(all i hi).1.bd.2.2,(all i hi).2,(all i hi).1.2.2⟩⟩
   ·rw[lT f0]
  ·rfl
theorem aGf (v:Value) (x:Option Addr) (n c:Nat) (w:World) (hv:v=.slice x n c) (h:n≠8):
  Calls prog 157 #[v] w fun e w'=>e=.returned (iv (-1))/\w=w':=by
 subst hv;have hn:((n:Int)==8)=false:=by simp;omega
 go_enter func157,ntmps157;go_wp2;go_ret;exact⟨rfl,rfl⟩
theorem aCF (b o c:Nat) (zs:List Int) (w:World) (hl:zs.length=8) (hc:∀i,i<8->w.cell? ⟨b,o+i,none⟩=some (.int .i64 (zs.getD i 0))):
  Calls prog 157 #[.slice (some ⟨b,o,none⟩) 8 c] w fun e w'=>e=.returned (iv (fX zs))/\w=w':=by
 have HL:=hd_ hl;have HC:=hd_ hc;clear hl hc;go_enter func157,ntmps157;go_wp2
 go_loop [3,11] (fun q i=>∃(j:Nat) (S:Int),j<=8/\i=.int .i64 j/\q=.int .i64 S/\(zs.take j).sum=S/\0<=S/\S<=2000/\∀i,i<j->0<=zs.getD i 0) (fun _ i=>8 - (intOf i).toNat)
 case atStart=>exact⟨0,0,Nat.zero_le _,rfl,rfl,rfl,o_,o_,fun _ h=>absurd h (Nat.not_lt_zero _)⟩
 case round=>
  obtain⟨j,S,hj,rfl,rfl,hS,S0,S1,hpos⟩:=hrel;have HS:=hd_ hS;have HP:=hd_ hpos;clear hS hpos
  by_cases hlt:j<8
  ·have hcell:=HC.out j hlt
   obtain⟨y,hy⟩:∃y,zs.getD j 0=y:=⟨_,rfl⟩
   rw[hy]at hcell;have HY:=hd_ hy;have hs:=oQ zs j (by rw[HL.out];exact hlt);rw[HS.out,hy]at hs;have HT:=hd_ hs;clear hy hs
   by_cases y0:y<0
   ·have bad:Hid (fX zs= -1):=lT (fun f=>by have:=f.2.1 j hlt;rw[HY.out]at this;omega)
    go_wp2;go_ret;exact⟨iW bad.out.symm,rfl⟩
   by_cases y1:2000 - S<y
   ·have bad:Hid (fX zs= -1):=lT (fun f=>by have:=xX f.bd.1 (j+1);rw[HT.out]at this;have:=f.2.2;omega)
    go_wp2;go_ret;exact⟨iW bad.out.symm,rfl⟩
   ·go_wp2
    go_round
    case rel=>exact⟨j+1,S+y,o_,gn_,rfl,HT.out,o_,o_,fun i hi=>by
          by_cases h:i<j
          · exact HP.out i h
          · obtain rfl:i=j:=o_
            rw[HY.out];omega⟩
    case measure=>simp[intOf];omega
  ·obtain rfl:j=8:=o_
   have good:Hid (fX zs=S):=by
    have e:zs.sum=S:=by rw[<-HS.out,List.take_of_length_le (by rw[HL.out];exact Nat.le_refl _)]
    rw[<-e];exact fZ ⟨HL.out,HP.out,by rw[e];exact S1⟩
   go_wp2;go_ret;exact⟨iW good.out.symm,rfl⟩
theorem wL (w:World) (v:Value) (zs:List Int) (h:cW w v zs):
  Calls prog 157 #[v] w fun e w'=>e=.returned (iv (fX zs))/\w=w':=by
 obtain⟨⟨x,c,hx⟩,q⟩:=h.cases
 by_cases h8:zs.length=8
 ·rcases q with q|⟨b,o,c,rfl,hc⟩
  ·omega
  rw[h8]at hc ⊢;exact aCF b o c zs w h8 hc
 ·rw[lT (fun f=>h8 f.1)]
  exact aGf v x _ c w hx h8
theorem vY (u:Value) (x:Option Addr) (n c:Nat) (w:World) (hu:u=.slice x n c) (h:n≠3):
  Calls prog 84 #[.agg #[u]] w fun e w'=>e=.returned (iv (-1))/\Below w.heap.size w w':=by
 subst hu;have hn:((n:Int)==3)=false:=by simp;omega
 go_enter func84,ntmps84;go_wp2;go_ret;exact⟨rfl,(Below.refl _ _).alloc lr_ _⟩
theorem aAB (b o cap:Nat) (rs:List (List Int)) (w:World) (h3:rs.length=3) (hcap:3<=cap) (hb:b<w.heap.size)
  (hc:∀i,i<3->∃x,w.cell? ⟨b,o+i,none⟩=some x/\cW w x (rs.getD i [])):
  Calls prog 84 #[.agg #[.slice (some ⟨b,o,none⟩) 3 cap]] w fun e w'=>e=.returned (iv (dA rs))/\Below w.heap.size w w':=by
 have HV:=hd_ (aHe rs);have H3:=hd_ h3;obtain⟨x0,h0,i0⟩:=hc 0 o_;obtain⟨x1,h1,i1⟩:=hc 1 o_;obtain⟨x2,h2,i2⟩:=hc 2 o_;have hA:=(Below.refl w.heap.size w).alloc lr_ (.cells #[.slice (some ⟨b,o,none⟩) 3 cap] 36);have J0:=hd_ (wL _ x0 _ (i0.below hA lr_));have J1:=hd_ (wL _ x1 _ (i1.below hA lr_));have J2:=hd_ (wL _ x2 _ (i2.below hA lr_));have HA:=hd_ hA
 obtain⟨⟨y0,c0,e0⟩,_⟩:=i0.cases;obtain⟨⟨y1,c1,e1⟩,_⟩:=i1.cases;obtain⟨⟨y2,c2,e2⟩,_⟩:=i2.cases;obtain⟨n0,m0⟩:=nm_ ((rs.getD 0 []).length);obtain⟨n1,m1⟩:=nm_ ((rs.getD 1 []).length);obtain⟨n2,m2⟩:=nm_ ((rs.getD 2 []).length);obtain⟨V0,v0⟩:=nm_ (fX (rs.getD 0 []));obtain⟨V1,v1⟩:=nm_ (fX (rs.getD 1 []));obtain⟨V2,v2⟩:=nm_ (fX (rs.getD 2 []));rw[<-v0, <-v1, <-v2]at HV;rw[<-v0]at J0
 rw[<-v1]at J1;rw[<-v2]at J2;rw[<-m0]at e0;rw[<-m1]at e1;rw[<-m2]at e2;subst e0 e1 e2;clear i0 i1 i2 hc hA m0 m1 m2 v0 v1 v2 h3;have cap1:¬cap=1:=o_;have cap1':(1:Int)<=(cap:Int):=o_;have cap3:(3:Int)<=(cap:Int):=o_;have h0':w.cell? ⟨b,o,none⟩=some (.slice y0 n0 c0):=h0;have h2':w.cell? ⟨b,o+1+1,none⟩=some (.slice y2 n2 c2):=h2;go_enter func84,ntmps84
 go_wp2_with fail
 refine J0.out.mono ?_;rintro e w1 ⟨rfl,rfl⟩
 go_wp2_with fail
 by_cases q1:V1=V0
 ·by_cases q2:V2=V0
  ·subst q1
   subst q2;have fin:=hd_ (HV.out.trans (if_pos ⟨H3.out,rfl,rfl⟩));refine wp_loop_rounds 3 ?_;rw[rounds_succ]
   go_wp2_with fail
   refine J1.out.mono ?_;rintro e w1 ⟨rfl,rfl⟩
   go_wp2_with fail
   rw[rounds_succ]
   go_wp2_with fail
   refine J2.out.mono ?_;rintro e w1 ⟨rfl,rfl⟩
   go_wp2_with fail
   rw[rounds_succ];go_wp2;go_ret;exact⟨iW fin.out.symm,HA.out⟩
  ·subst q1
   have fin:=hd_ (HV.out.trans (if_neg (fun h=>q2 h.2.2)));have q2':(V2==V1)=false:=by simpa using q2
   refine wp_loop_rounds 3 ?_;rw[rounds_succ]
   go_wp2_with fail
   refine J1.out.mono ?_;rintro e w1 ⟨rfl,rfl⟩
   go_wp2_with fail
   rw[rounds_succ]
   go_wp2_with fail
   refine J2.out.mono ?_;rintro e w1 ⟨rfl,rfl⟩;go_wp2;go_ret;exact⟨iW fin.out.symm,HA.out⟩
 ·have fin:=hd_ (HV.out.trans (if_neg (fun h=>q1 h.2.1)))
  have q1':(V1==V0)=false:=by simpa using q1
  refine wp_loop_rounds 1 ?_;rw[rounds_succ]
  go_wp2_with fail
  refine J1.out.mono ?_;rintro e w1 ⟨rfl,rfl⟩;go_wp2;go_ret;exact⟨iW fin.out.symm,HA.out⟩
theorem sK (w:World) (u:Value) (rs:List (List Int)) (h:Rws w u rs):
  Calls prog 84 #[.agg #[u]] w fun e w'=>e=.returned (iv (dA rs))/\Below w.heap.size w w':=by
 have bad:rs.length≠3->dA rs= -1:=fun h=>by rw[aHe,if_neg (fun q=>h q.1)]
 rcases h with ⟨rfl,rfl⟩|⟨b,o,cap,rfl,hcap,_,hb,hc⟩
 ·rw[bad (by simp)]
  exact vY _ none 0 0 w rfl o_
 ·by_cases h3:rs.length=3
  ·rw[h3]at hc hcap ⊢
   exact aAB b o cap rs w h3 hcap hb hc
  ·rw[bad h3]
   exact vY _ _ _ _ w rfl h3
theorem iX {rs:List (List Int)} (h:okB rs=true):0<=dA rs/\dA rs<=2000:=by
 obtain⟨_,hg⟩:=(dT rs).1 h;have f:nY (rs.getD 0 []):=⟨(hg 0 o_).1,fun k hk=>((hg 0 o_).2.1 k hk).1,(hg 0 o_).2.2.2⟩
 unfold dA;rw[if_pos h];exact⟨f.bd.2.1,f.2.2⟩
theorem sN {rs:List (List Int)} (h:okB rs=false):dA rs= -1:=by unfold dA;rw[h];rfl
theorem aMb (w:World) (u:Value) (rs:List (List Int)) (h:Rws w u rs):
  Calls prog 178 #[.agg #[u]] w fun e w'=>e=.returned (.bool (okB rs))/\Below w.heap.size w w':=by
 have hA:=(Below.refl w.heap.size w).alloc lr_ (.cells #[u] 36);have K:=hd_ (sK _ u rs (h.below hA lr_));obtain⟨⟨x,c,hx⟩,_⟩:=h.cases;have HA:=hd_ hA;obtain⟨n,hn⟩:=nm_ rs.length;rw[<-hn]at hx;subst hx;clear h hA hn;cases hok:okB rs with
 |true=>
  have v0:=(iX hok).1;obtain⟨V,hV⟩:=nm_ (dA rs);rw[<-hV]at K v0;clear hV hok;exact zBm
 |false=>
  rw[sN hok]at K;clear hok;exact zBm
end Go.Proofs.YtcblbdpdbggkbaaGreat
namespace Go.Proofs.YtcblbdpdbggkbaaGreat
open _root_.Go.Proofs.Tryz
open Go.RowKit Go.Sort
theorem lO {w:World} {u:Value} {rs:List (List Int)} (h:Rws w u rs) (hok:okB rs=true):
  ∃b o cap,u=.slice (some ⟨b,o,none⟩) 3 cap/\3<=cap/\b<w.heap.size/\
   ∀i,i<3->∃bi oi ci,w.cell? ⟨b,o+i,none⟩=some (.slice (some ⟨bi,oi,none⟩) 8 ci)/\bi<w.heap.size/\∀k,k<8->w.cell? ⟨bi,oi+k,none⟩=some (.int .i64 ((rs.getD i []).getD k 0)):=by
 obtain⟨h3,hg⟩:=(dT rs).1 hok;rcases h with ⟨rfl,rfl⟩|⟨b,o,cap,rfl,hcap,_,hb,hc⟩
 ·simp at h3
 refine⟨b,o,cap,by rw[h3],o_,hb,fun i hi=>?_⟩;obtain⟨x,hx,hi'⟩:=hc i o_;have g:=hg i hi;rcases hi' with ⟨_,h0⟩|⟨bi,oi,ci,rfl,_,_,hbi,hci⟩
 ·have:=g.1;rw[h0]at this;simp at this
 ·rw[g.1]at hx hci
  exact⟨bi,oi,ci,hx,hbi,hci⟩
def atV (rs:List (List Int)) (i:Nat) (t:Int):Int:=(rs.getD i []).getD (oE i t).toNat 0
theorem lH (i t:Int):∃P:Nat,oE i t=P/\P<8/\(oE i t).toNat=P:=by
 have:=aLi i t;exact⟨(oE i t).toNat,o_,o_,rfl⟩
theorem aMT {rs:List (List Int)} (h:okB rs=true) (i:Nat) (hi:i<3) (t:Int):0<=atV rs i t/\atV rs i t<=2000:=by
 obtain⟨_,hg⟩:=(dT rs).1 h;obtain⟨P,_,hP,e⟩:=lH i t;unfold atV;rw[e];exact (hg i hi).2.1 P hP
theorem aKT (w:World) (u:Value) (rs:List (List Int)) (h:Rws w u rs):
  Calls prog 223 #[.agg #[u]] w fun e w'=>e=.returned (iv (dA rs))/\Below w.heap.size w w':=by
 have hA:=(Below.refl w.heap.size w).alloc lr_ (.cells #[u] 36);have K:=hd_ (rM u rs _ (h.below hA lr_));have HA:=hd_ hA;clear hA;cases hok:okB rs with
 |false=>
  rw[hok]at K;rw[sN hok];obtain⟨⟨x,c,hx⟩,_⟩:=h.cases;obtain⟨n,hn⟩:=nm_ rs.length;rw[<-hn]at hx;subst hx;clear h hn hok;go_enter func223,ntmps223
  go_wp2_with (go_at_call 219;refine K.out.mono ?_;rintro e w1 ⟨rfl,hb1⟩)
  go_ret;exact⟨rfl,HA.out.trans (hb1.mono HA.out.size)⟩
 |true=>
  rw[hok]at K;obtain⟨b,o,cap,rfl,hcap,hb,hrow⟩:=lO h hok;obtain⟨b0,o0,c0,e0,l0,r0⟩:=hrow 0 o_;obtain⟨_,hg⟩:=(dT rs).1 hok;have fin:Hid (dA rs=(rs.getD 0 []).sum):=if_pos hok;obtain⟨g8,gr,_,_⟩:=hg 0 o_;generalize rs.getD 0 []=z0 at g8 gr fin r0;have G8:=hd_ g8;have GR:=hd_ gr;have e0':w.cell? ⟨b,o,none⟩=some (.slice (some ⟨b0,o0,none⟩) 8 c0):=e0;have R0:=hd_ r0
  clear h hrow hok hg g8 gr e0 r0;go_enter func223,ntmps223
  go_wp2_with fail
  refine K.out.mono ?_;rintro e w1 ⟨rfl,hb1⟩;have L:=HA.out.trans (hb1.mono HA.out.size);have cb:w1.cell? ⟨w.heap.size,0,none⟩=some (.slice (some ⟨b,o,none⟩) 3 cap):=by rw[hb1.cell (by simp)];simp
  rw[<-L.cell (p:=⟨b,o,none⟩) hb]at e0';have KC:Hid (Calls prog 224 #[.slice (some ⟨b0,o0,none⟩) 8 c0] w1 fun e w'=>e=.returned (iv z0.sum)/\w1=w'):=
   pK b0 o0 c0 8 z0 w1 G8.out o_ GR.out (fun i hi=>by rw[L.cell (p:=⟨b0,o0+i,none⟩) l0];exact R0.out i hi)
  have HL:=hd_ L;clear L hb1
  go_wp2_with (go_at_call 224;refine KC.out.mono ?_;rintro e w' ⟨rfl,rfl⟩)
  go_ret;exact⟨iW fin.out.symm,HL.out⟩
end Go.Proofs.YtcblbdpdbggkbaaGreat
namespace Go.Proofs.YtcblbdpdbggkbaaGreat
open _root_.Go.Proofs.Tryz
open Go.RowKit
def pI (k:Int) (n:Nat):List Int:=(List.range n).map fun (i:Nat)=>k+(i:Int)
def eX (rs:List (List Int)):Nat->Nat
 | 0=>0
 |i+1=>eX rs i+(rs.getD i []).length
theorem gP (k:Int) (n:Nat):(pI k n).length=n:=by simp[pI]
theorem aIS (k:Int) (n i:Nat) (h:i<n):(pI k n).getD i 0=k+i:=by simp[pI,h]
theorem aKX (k:Int) (zs:List Int) (j:Nat) (hj:j<zs.length):
  (bG (pI k j++zs.drop j)).set j (iv (k+j))=bG (pI k (j+1)++zs.drop (j+1)):=by
 apply List.ext_getElem?;intro i;simp only[bG,List.getElem?_set,List.getElem?_map,List.length_map,List.length_append,gP,List.length_drop];rcases Nat.lt_trichotomy i j with h|h|h
 ·rw[if_neg o_,List.getElem?_append_left (by rw[gP];exact h),List.getElem?_append_left (by rw[gP];omega)]
  simp[pI,h,show i<j+1 by omega]
 ·subst h
  rw[if_pos rfl,if_pos o_,List.getElem?_append_left (by rw[gP];omega)];simp[pI]
 ·rw[if_neg o_,List.getElem?_append_right (by rw[gP];omega),List.getElem?_append_right (by rw[gP];omega),gP,gP]
  simp only[List.getElem?_drop];rw[show j+(i - j)=i by omega,show j+1+(i - (j+1))=i by omega]
theorem aEO (w:World) (B g c n:Nat) (zs:List Int) (k:Int) (hl:zs.length=n) (hn:n<=200000000) (hk:0<=k) (hk':k<=1000000000000)
  (h:w.ownsRow B 3 1 (.slice (some ⟨g,0,none⟩) n c) n (bG zs)):
  Calls prog 53 #[.slice (some ⟨g,0,none⟩) n c,iv k] w fun e w'=>
   e=.returned (iv (k+n))/\w'.ownsRow B 3 1 (.slice (some ⟨g,0,none⟩) n c) n (bG (pI k n))/\w.grownBy w' (some g):=by
 have HL:=hd_ hl;have H:=hd_ h;clear hl h;go_enter func53,ntmps53;go_wp2;go_loopw [1,5] (fun q i wr=>∃j:Nat,j<=n/\i=.int .i64 j/\q=.int .i64 (k+j)/\wr.ownsRow B 3 1 (.slice (some ⟨g,0,none⟩) n c) n (bG (pI k j++zs.drop j))/\w.grownBy wr (some g)) (fun _ i _=>n - (intOf i).toNat)
 case atStart=>exact⟨0,Nat.zero_le _,rfl,gn_,by simpa[pI]using H.out,eS _ _⟩
 case round=>
  obtain⟨j,hj,rfl,rfl,hown,hg⟩:=hrel;have HO:=hd_ hown;have HG:=hd_ hg;clear hown hg
  by_cases hlt:j<n
  ·have hc:∃x,wr.cell? ⟨g,j,none⟩=some x:=by
    rw[HO.out.cellAt j o_];exact⟨_,List.getElem?_eq_getElem (by rw[nS];simp[gP,HL.out];omega)⟩
   obtain⟨x,hc⟩:=hc;have hf:=HO.out.frozenAt j;have hs:=HO.out.stored j (iv (k+j));rw[aKX k zs j (by rw[HL.out];exact hlt)]at hs;have HS:=hd_ hs;clear hs;go_wp2;go_roundw
   case rel=>exact⟨j+1,o_,gn_,by rw[show ((j+1:Nat):Int)=(j:Int)+1 by omega];congr 1;omega,HS.out.1,aL HG.out HS.out.2⟩
   case measure=>simp[intOf];omega
  ·obtain rfl:j=n:=o_
   go_wp2;go_ret;have h0:zs.drop j=[]:=List.drop_of_length_le (by rw[HL.out];exact Nat.le_refl _);have ho:=HO.out;rw[h0,List.append_nil]at ho;exact⟨rfl,ho,HG.out⟩
theorem aEa (w:World) (v:Value) (n:Nat) (k:Int) (hn:n<=200000000) (hk:0<=k) (hk':k<=1000000000000) (h:cW w v (pI k n)):
  Calls prog 54 #[v,iv k] w fun e w'=>e=.returned (iv (k+n))/\w=w':=by
 obtain⟨⟨x,c,hv⟩,q⟩:=h.cases;rw[gP]at hv q
 by_cases h0:n=0
 ·subst h0 hv
  go_enter func54,ntmps54;exact zBj
 rcases q with q|⟨b,o,c,rfl,hc⟩
 ·omega
 have Hc:=hd_ hc;clear hc h hv;go_enter func54,ntmps54;go_wp2
 go_loop [1,5] (fun q i=>∃j:Nat,j<=n/\i=.int .i64 j/\q=.int .i64 (k+j)) (fun _ i=>n - (intOf i).toNat)
 case atStart=>exact⟨0,Nat.zero_le _,rfl,gn_⟩
 case round=>
  obtain⟨j,hj,rfl,rfl⟩:=hrel
  by_cases hlt:j<n
  ·have h1:=Hc.out j hlt
   rw[aIS _ _ _ hlt]at h1;go_wp2
   go_round
   case rel=>exact⟨j+1,o_,gn_,by rw[show ((j+1:Nat):Int)=(j:Int)+1 by omega];congr 1;omega⟩
   case measure=>simp[intOf];omega
  ·obtain rfl:j=n:=o_
   exact zt
attribute [local go_sem ↓] Go.wp_at_zero Go.wp_at_succ
theorem aIm {w:World} {b o n:Nat} {zs:List Int} (hn:zs.length=n) (hc:∀k,k<n->w.cell? ⟨b,o+k,none⟩=some (.int .i64 (zs.getD k 0))):
  ∀j u,(bG zs)[j]? =some u->w.cell? ((⟨b,o,none⟩:Addr).add j)=some u:=fun j u hu=>by
 have hj:j<zs.length:=by
  have:=(List.getElem?_eq_some_iff.1 hu).1;simpa[bG]using this
 have e:(⟨b,o,none⟩:Addr).add j=⟨b,o+j,none⟩:=by unfold Addr.add;split<;>simp_all
 rw[e,hc j o_];rw[iM _ _ hj]at hu;exact hu
theorem aK6 (zs:List Int):∀u ∈ bG zs,u.oneCell'=true:=fun u hu=>by
 obtain⟨z,_,rfl⟩:=List.mem_map.1 hu
 rfl
theorem aIb (w:World) (B:Nat) (hB:B<=w.heap.size):(w.alloc (.cells #[] 3)).ownsRow B 3 1 (.slice (some ⟨w.heap.size,0,none⟩) 0 0) 0 []:=
 World.ownsRow_lit (base:=B) (e:=3) (size:=1) w #[] 0 hB (by simp[maxLen]) (by simp)
theorem aE1 {w wr w1 w2:World} {S R B W g c gg cap n:Nat} {o o':Obj} {u:Value} {t:TypeId} {rs:List (List Int)} {G C:Nat->Nat} {zs:List Int} (hn:zs.length=n)
  (HO:dJ wr B u rs G C) (hX:Below wr.heap.size wr w1) (hz:w1.ownsRow B 3 1 (.slice (some ⟨g,0,none⟩) n c) n (bG zs)) (hg:wr.heap.size<=g)
  (hown1:w2.ownsRow B 23 1 (.slice (some ⟨gg,0,none⟩) (rs.length+1) cap) (rs.length+1) ((List.range rs.length).map (nV rs G C)++[.slice (some ⟨g,0,none⟩) n c]))
  (hgrow:(w1.alloc o').grownBy w2 u.ownBlock) (hat:u.ownBlock=some gg\/gg=w1.heap.size+1)
  (hR:wr.heap[R]? =some (.cells #[u] t (0,0))) (hS:wr.heap[S]? =some o) (hRB:R<B) (hSB:S<B) (hSR:S≠R) (hbl:Below W w wr) (hWR:W<=R) (hWw:W<=w.heap.size):
  ∃G' C',dJ (w2.setCell ⟨R,0,none⟩ (.slice (some ⟨gg,0,none⟩) (rs.length+1) cap)) B (.slice (some ⟨gg,0,none⟩) (rs.length+1) cap) (rs++[zs]) G' C'/\
   (w2.setCell ⟨R,0,none⟩ (.slice (some ⟨gg,0,none⟩) (rs.length+1) cap)).heap[S]? =some o/\
   (w2.setCell ⟨R,0,none⟩ (.slice (some ⟨gg,0,none⟩) (rs.length+1) cap)).heap[R]? =some (.cells #[.slice (some ⟨gg,0,none⟩) (rs.length+1) cap] t (0,0))/\
   Below W w (w2.setCell ⟨R,0,none⟩ (.slice (some ⟨gg,0,none⟩) (rs.length+1) cap)):=by
 subst hn;exact aB6 HO (aL (cU hX) (World.grownBy_alloc w1 o' none)) (hz.alloc _) hg hown1 hgrow (by simpa using hat) hR hS hRB hSB hSR hbl hWR hWw
theorem gZ (w:World) (a b c:Obj):(((w.alloc a).alloc b).alloc c).heap[w.heap.size]? =some a/\(((w.alloc a).alloc b).alloc c).heap[w.heap.size+1]? =some b/\(((w.alloc a).alloc b).alloc c).heap[w.heap.size+2]? =some c:=by
 have e1:(w.alloc a).heap.size=w.heap.size+1:=by simp
 have e2:((w.alloc a).alloc b).heap.size=w.heap.size+2:=by simp
 have h1:=heap_alloc_new (w.alloc a) b;have h2:=heap_alloc_new ((w.alloc a).alloc b) c;rw[e1]at h1;rw[e2]at h2;exact⟨(heap_alloc_old _ _ o_).trans ((heap_alloc_old _ _ o_).trans (heap_alloc_new _ _)),(heap_alloc_old _ _ o_).trans h1,h2⟩
theorem aIu {wr w1 w2:World} {S R:Nat} {o o':Obj} {x:Value} {row:Option Nat} (h:wr.heap[S]? =some o) (hb:Below wr.heap.size wr w1) (hg:(w1.alloc o').grownBy w2 row) (hr:row≠some S) (hSR:S≠R):
  (w2.setCell ⟨R,0,none⟩ x).heap[S]? =some o:=by
 rw[heap_setCell_other w2 ⟨R,0,none⟩ S _ hSR];have h1:=jS h (cU (row:=none) hb) (by simp);have h2:=jS h1 (World.grownBy_alloc w1 o' none) (by simp);exact jS h2 hg hr
theorem aH1 {α:Type} (l:List α) (k:Nat) (d:α) (h:k<l.length):l.take k++[l.getD k d]=l.take (k+1):=by
 rw[List.take_succ_eq_append_getElem h];simp[h]
theorem aGU {wr w1:World} {o:Obj} (h:(wr.alloc o).drew.grownBy w1 (some wr.heap.size)):Below wr.heap.size wr w1:=by
 have h1:Below wr.heap.size wr (wr.alloc o).drew:=((Below.refl _ _).alloc lr_ _).drew;exact h1.grown h (by simp) (fun k e=>by cases e;exact Nat.le_refl _)
theorem aIf {w w1:World} {b:Nat} {u:Value} (hb:Below w.heap.size w w1) (c:w.cell? ⟨b,0,none⟩=some u) (f:w.frozen? ⟨b,0,none⟩=false) (l:b<w.heap.size):
  w1.cell? ⟨b,0,none⟩=some u/\w1.frozen? ⟨b,0,none⟩=false/\b<w1.heap.size:=
 ⟨cell_later hb c,by rw[hb.frozen (p:=⟨b,0,none⟩) l];exact f,Nat.lt_of_lt_of_le l hb.size⟩
theorem aLb {w w1:World} {o:Obj} {b:Nat} {u:Value} {row:Option Nat} (c:w.cell? ⟨b,0,none⟩=some u) (f:w.frozen? ⟨b,0,none⟩=false) (l:b<w.heap.size)
  (hg:(w.alloc o).grownBy w1 row) (hr:row≠some b):w1.cell? ⟨b,0,none⟩=some u/\w1.frozen? ⟨b,0,none⟩=false:=by
 have l1:b<(w.alloc o).heap.size:=by simp;omega
 rw[hg.cell_far ⟨b,0,none⟩ l1 (Ne.symm hr),hg.frozen_far ⟨b,0,none⟩ l1 (Ne.symm hr)];rw[World.cell?_alloc_past _ _ _ l,World.frozen?_alloc_past _ _ _ l];exact⟨c,f⟩
theorem aGY (b o cap:Nat) (rs:List (List Int)) (w:World) (hl:rs.length=3) (h8:∀i,i<3->(rs.getD i []).length=8) (hb:b<w.heap.size)
  (hrow:∀i,i<3->∃bi oi ci,w.cell? ⟨b,o+i,none⟩=some (.slice (some ⟨bi,oi,none⟩) 8 ci)/\bi<w.heap.size/\∀k,k<8->w.cell? ⟨bi,oi+k,none⟩=some (.int .i64 ((rs.getD i []).getD k 0))):
  Calls prog 218 #[.agg #[.slice (some ⟨b,o,none⟩) 3 cap]] w fun e w'=>∃u G C,e=.returned (.agg #[u])/\dJ w' w.heap.size u rs G C/\Below w.heap.size w w':=by
 obtain⟨i0,hi,hz0,hz1,hz2⟩:=info_parts aBX;obtain⟨j0,hj,hy0,hy1,hy2⟩:=info_parts aJP;have HL:=hd_ hl;have H8:=hd_ h8;have HW:=hd_ hrow;clear hl h8 hrow;go_enter func218,ntmps218;go_wp2;go_loopw [4] (fun i wr=>∃(k:Nat) (qs:List (List Int)) (u:Value) (G C:Nat->Nat),k<=3/\i=.int .i64 k/\qs=rs.take k/\dJ wr (w.heap.size+3) u qs G C/\
      wr.heap[w.heap.size+1]? =some (.cells #[zn] 36 (0,0))/\wr.heap[w.heap.size+2]? =some (.cells #[u] 36 (0,0))/\Below w.heap.size w wr/\
      wr.heap[w.heap.size]? =some (.cells #[.slice (some ⟨b,o,none⟩) 3 cap] 36 (0,0))) (fun i _=>3 - (intOf i).toNat)
 case atStart=>
  refine⟨0,_,_,_,_,Nat.zero_le _,rfl,rfl,dJ.nil _ _,?_,?_,(((Below.refl _ _).alloc lr_ _).alloc (by simp) _).alloc (by simp;omega) _,?_⟩
  ·exact (gZ w _ _ _).2.1
  ·exact (gZ w _ _ _).2.2
  ·exact (gZ w _ _ _).1
 case round=>
  obtain⟨k,qs,u,G,C,hk,rfl,hqs,hown,hS,hR,hbl,hbx0⟩:=hrel;obtain⟨hbox,_,l0⟩:=cQ hbx0;obtain⟨c1,f1,l1⟩:=cQ hR;have HQ:=hd_ hqs;have hn:qs.length=k:=by rw[hqs];simp[HL.out];omega
  have HN:=hd_ hn;have hn3:qs.length<=3:=o_;have hub:u.ownBlock≠some (w.heap.size+2):=fun e=>by have:=(hown.hdr_lt _ e).1;omega
  have hb0:w.heap.size+3<=wr.heap.size:=o_;have hub0:u.ownBlock≠some w.heap.size:=fun e=>by have:=(hown.hdr_lt _ e).1;omega
  have HB0:=hd_ hbx0;have HU0:=hd_ hub0;have HO:=hd_ hown;have HS:=hd_ hS;have HR:=hd_ hR;have HB:=hd_ hbl;clear hown hS hR hbl hn hqs hbx0 hub0
  by_cases hlt:k<3
  ·obtain⟨bi,oi,ci,e1,li,hc⟩:=HW.out k hlt
   rw[<-HB.out.cell (p:=⟨b,o+k,none⟩) hb]at e1;have hzl:=H8.out k hlt;obtain⟨zs,hzs⟩:=nm_ (rs.getD k []);rw[<-hzs]at hc hzl;have hc':∀i,i<8->wr.cell? ⟨bi,oi+i,none⟩=some (.int .i64 (zs.getD i 0)):=fun i hi=>by rw[HB.out.cell (p:=⟨bi,oi+i,none⟩) li];exact hc i hi
   have hbi:bi<wr.heap.size:=by have:=HB.out.size;omega
   have HC:=hd_ hc';have HZ:=hd_ hzs;have HZL:=hd_ hzl;clear hc hc' hzs hzl;have lb:b<wr.heap.size:=by have:=HB.out.size;omega
   have ki0:(0:Int)<=(k:Int):=o_;have ki3:(k:Int)<3:=o_
   go_wp2_with fail
   go_region_law ((first
        |(refine step_append_lies _ r_ _ _ _ r_ (w.heap.size+3) 3 j0 _ 1 8 underlying23 hj hy0 hy1 hy2 rfl o_ (.slice (some ⟨wr.heap.size,0,none⟩) 0 0) 0 [] r_ ((aIb wr (w.heap.size+3) hb0).drew)
            ⟨bi,oi,none⟩ 8 ci (bG zs) r_ (by rw[nS,HZL.out]) (aIm HZL.out (fun i hi=>(World.cell?_alloc_lt (h:=hbi) ..).trans (HC.out i hi))) (aK6 zs)
            o_ (by unfold maxLen;omega) o_ (by simp;omega) (wr.heap.size+1) (by simp) ?_;intro g1 cap1 w1 hown1 hgrow1 hat1 hlt1;have hbw:=aGU hgrow1;have HO1:=HO.out.below hbw lr_;have d1:=aIf hbw c1 f1 l1;obtain⟨d2,d3,d4⟩:=d1;have HBW:=hd_ hbw;have HQ1:=hd_ HO1;have HW1:=hd_ hown1;have hsz:=hbw.size;clear hbw HO1 hown1 hgrow1)
        |(refine step_append_lies _ r_ _ _ _ r_ (w.heap.size+3) 23 i0 _ 1 24 underlying34 hi hz0 hz1 hz2 rfl o_ u qs.length _ r_ (HQ1.out.hdr.alloc _)
            ⟨w1.heap.size,0,none⟩ 1 1 [.slice (some ⟨g1,0,none⟩) 8 cap1] r_ r_ (World.news_of_block (cs:=#[.slice (some ⟨g1,0,none⟩) 8 cap1]) (t:=23) (fr:=(0,0)) (heap_alloc_new w1 _)) (by simp[Value.oneCell'])
            o_ (by unfold maxLen;omega) o_ (by simp;omega) (w1.heap.size+1) (by simp) ?_;intro gg cap2 w2 hown2 hgrow2 hat2 hlt2;have d5:=aLb d2 d3 d4 hgrow2 hub;obtain⟨d6,d7⟩:=d5)))
   all_goals
    have hg1:wr.heap.size<=g1:=by
     rcases hat1 with h|h
     ·simp[Value.ownBlock]at h;omega
     ·omega
    have fin:=aE1 HZL.out HO.out HBW.out HW1.out hg1 hown2 hgrow2 hat2 HR.out HS.out o_ o_ o_ HB.out o_ lr_;have hbx:=aIu (x:=.slice (some ⟨gg,0,none⟩) (qs.length+1) cap2) HB0.out HBW.out hgrow2 HU0.out (show w.heap.size≠w.heap.size+2 by omega);have FIN:=hd_ fin;have HBX:=hd_ hbx;clear fin hbx hown2 hgrow2 hat2 hg1 hat1;go_wp2;go_roundw
    case rel=>
     obtain⟨G',C',q1,q2,q3,q4⟩:=FIN.out;exact⟨k+1,qs++[zs],_,G',C',o_,gn_,by rw[HQ.out,HZ.out];exact aH1 _ _ _ (by rw[HL.out];exact hlt),q1,q2,q3,q4,HBX.out⟩
    case measure=>simp[intOf];omega
  ·obtain⟨s1,s2,s3⟩:=cQ HS.out
   have h3:qs.length=3:=by rw[HN.out];omega
   obtain⟨g,cap',hu,hg1,hg2⟩:=World.ownsRow.form HO.out.hdr o_;subst hu;have e3:qs=rs:=by rw[HQ.out,List.take_of_length_le (by rw[HL.out];omega)]
   have hw:=HO.out.grown (aA wr ⟨w.heap.size+1,0,none⟩ (.slice (some ⟨g,0,none⟩) 3 cap')) (fun k e=>by simp at e;omega);have hb:=HB.out.setCell (p:=⟨w.heap.size+1,0,none⟩) (by simp) (.slice (some ⟨g,0,none⟩) 3 cap');rw[h3]at hw c1;rw[e3]at hw;have H1:=hd_ hw;have H2:=hd_ hb;have H3:=hd_ h3;clear hw hb h3 e3 hub hn3;go_wp2
   have hr:=World.cell?_setCell_same wr ⟨w.heap.size+1,0,none⟩ (.slice (some ⟨g,0,none⟩) 3 cap') s1;exact bodyPost_ret (v:=.agg #[.slice (some ⟨g,0,none⟩) 3 cap']) (by simp[results,results218,go_sem,hr]) rfl ⟨_,G,C,rfl,H1.out.base o_,H2.out⟩
theorem aHg (w:World) (u:Value) (rs:List (List Int)) (h:Rws w u rs) (hok:okB rs=true):
  Calls prog 218 #[.agg #[u]] w fun e w'=>∃x c G C,e=.returned (.agg #[.slice x 3 c])/\dJ w' w.heap.size (.slice x 3 c) rs G C/\Below w.heap.size w w':=by
 obtain⟨h3,hg⟩:=(dT rs).1 hok;obtain⟨b,o,cap,rfl,_,hb,hrow⟩:=lO h hok;refine (aGY b o cap rs w h3 (fun i hi=>(hg i hi).1) hb hrow).mono fun e w' ⟨u',G,C,he,ho,hb'⟩=>?_
 obtain⟨⟨x,c,hx⟩,_⟩:=ho.rws.cases;rw[h3]at hx;subst hx;exact⟨x,c,G,C,he,ho,hb'⟩
end Go.Proofs.YtcblbdpdbggkbaaGreat
namespace Go.Proofs.YtcblbdpdbggkbaaGreat
open _root_.Go.Proofs.Tryz
open Go.RowKit Go.Sort
def qW (rs:List (List Int)) (t n:Int) (i:Nat):List Int:=(rs.getD i []).set (oE i t).toNat (atV rs i t+n)
def tH (rs:List (List Int)) (t n:Int):List (List Int):=[qW rs t n 0,qW rs t n 1,qW rs t n 2]
def nZ (rs:List (List Int)) (t n:Int):Bool:=okB rs&&decide (0<=t)&&decide (t<64)&&decide (0<=n)&&decide (n<=2000 - dA rs)
theorem kQ (rs:List (List Int)) (t n:Int):nZ rs t n=true↔okB rs=true/\0<=t/\t<64/\0<=n/\n<=2000 - dA rs:=by
 simp[nZ,and_assoc]
theorem aE7 (rs:List (List Int)) (t n:Int) (i:Nat) (hi:i<3):(tH rs t n).getD i []=qW rs t n i:=by
 exact zB1
theorem sL {rs qs:List (List Int)} (h:rs.length=3) (h':qs.length=3) (e:∀i,i<3->rs.getD i []=qs.getD i []):rs=qs:=by
 have:=fO (d:=[]) h h' e;simpa using this
theorem aKi (w:World) (u:Value) (rs:List (List Int)) (t n:Int) (h:Rws w u rs) (hno:nZ rs t n=false):
  Calls prog 310 #[.agg #[u],iv t,iv n] w fun e w'=>e=.returned (.tuple #[.agg #[zn],.bool false])/\Below w.heap.size w w':=by
 have hA:=((Below.refl w.heap.size w).alloc lr_ (.cells #[u] 36)).alloc (by simp) (.cells #[zn] 36);have K:=hd_ (rM u rs _ (h.below hA lr_));have HA:=hd_ hA;clear hA;cases hok:okB rs with
 |false=>
  rw[hok]at K;obtain⟨⟨x,c,hx⟩,_⟩:=h.cases;obtain⟨m,hn⟩:=nm_ rs.length;rw[<-hn]at hx;subst hx;clear h hn hok hno;go_enter func310,ntmps310
  go_wp2_with fail
  refine K.out.mono ?_;rintro e w1 ⟨rfl,hb1⟩;have sz:=hb1.size;simp only[World.size_alloc]at sz;have cb:w1.cell? ⟨w.heap.size+1,0,none⟩=some (.slice none 0 0):=by rw[hb1.cell (by simp)];simp[go_sem]
  have fb:w1.frozen? ⟨w.heap.size+1,0,none⟩=false:=by rw[hb1.frozen (by simp)];simp[go_sem]
  have L:=hd_ (HA.out.trans (hb1.mono HA.out.size));clear hb1;go_wp2;exact zAr
 |true=>
  rw[hok]at K;obtain⟨b,o,cap,rfl,hcap,hb,hrow⟩:=lO h hok;obtain⟨b0,o0,c0,e0,l0,r0⟩:=hrow 0 o_;obtain⟨_,hg⟩:=(dT rs).1 hok;have fin:Hid (dA rs=(rs.getD 0 []).sum):=if_pos hok;obtain⟨g8,gr,_,_⟩:=hg 0 o_;have av:=iX hok;generalize rs.getD 0 []=z0 at g8 gr fin r0;obtain⟨S,hS⟩:=nm_ (dA rs);rw[<-hS]at av fin;have hno':(t<0\/63<t)\/(0<=t/\t<=63/\(n<0\/2000 - S<n)):=by
   apply Classical.byContradiction;intro hh;have:nZ rs t n=true:=(kQ rs t n).2 ⟨hok,o_,o_,o_,by rw[<-hS];omega⟩;rw[this]at hno;cases hno
  have G8:=hd_ g8;have GR:=hd_ gr;have e0':w.cell? ⟨b,o,none⟩=some (.slice (some ⟨b0,o0,none⟩) 8 c0):=e0;have R0:=hd_ r0;clear h hrow hok hg g8 gr e0 r0 hno hS;rcases hno' with ht|⟨t0,t1,hn⟩
  ·go_enter func310,ntmps310
   go_wp2_with fail
   refine K.out.mono ?_;rintro e w1 ⟨rfl,hb1⟩;have sz:=hb1.size;simp only[World.size_alloc]at sz;have cb:w1.cell? ⟨w.heap.size+1,0,none⟩=some (.slice none 0 0):=by rw[hb1.cell (by simp)];simp[go_sem]
   have fb:w1.frozen? ⟨w.heap.size+1,0,none⟩=false:=by rw[hb1.frozen (by simp)];simp[go_sem]
   have L:=hd_ (HA.out.trans (hb1.mono HA.out.size));clear hb1
   go_wp2_with (go_at_call 66;refine (fY _ _ _ _ ht).mono ?_;rintro e w' ⟨rfl,rfl⟩)
   exact zAr
  ·go_enter func310,ntmps310
   go_wp2_with fail
   refine K.out.mono ?_;rintro e w1 ⟨rfl,hb1⟩;have sz:=hb1.size;simp only[World.size_alloc]at sz;have cb:w1.cell? ⟨w.heap.size+1,0,none⟩=some (.slice none 0 0):=by rw[hb1.cell (by simp)];simp[go_sem]
   have ca:w1.cell? ⟨w.heap.size,0,none⟩=some (.slice (some ⟨b,o,none⟩) 3 cap):=by rw[hb1.cell (by simp;omega)];simp[go_sem]
   have fb:w1.frozen? ⟨w.heap.size+1,0,none⟩=false:=by rw[hb1.frozen (by simp)];simp[go_sem]
   have hL:=HA.out.trans (hb1.mono HA.out.size);rw[<-hL.cell (p:=⟨b,o,none⟩) hb]at e0';have KC:Hid (Calls prog 224 #[.slice (some ⟨b0,o0,none⟩) 8 c0] w1 fun e w'=>e=.returned (iv S)/\w1=w'):=by
    exact zBD
   have L:=hd_ hL;clear hb1 hL
   go_wp2_with (go_at_call 66;refine (aJ _ _ _ _ t0 t1).mono ?_;rintro e w' ⟨rfl,rfl⟩;clear t1)
   refine KC.out.mono ?_;rintro e w' ⟨rfl,rfl⟩
   go_wp2_with (go_at_call 66;refine (fY _ _ _ _ hn).mono ?_;rintro e w' ⟨rfl,rfl⟩)
   exact zAr
theorem dJ.hdrCell {w:World} {B g c n:Nat} {rs:List (List Int)} {G C:Nat->Nat} (h:dJ w B (.slice (some ⟨g,0,none⟩) n c) rs G C) (hn:rs.length=n) (i:Nat) (hi:i<n):
  w.cell? ⟨g,i,none⟩=some (.slice (some ⟨G i,0,none⟩) (rs.getD i []).length (C i)):=by
 have hh:=h.hdr;rw[hn]at hh;have:=hh.cellAt i o_;rw[this,List.getElem?_map,List.getElem?_range hi]
 rfl
theorem dJ.rowCell {w:World} {B:Nat} {u:Value} {rs:List (List Int)} {G C:Nat->Nat} (h:dJ w B u rs G C) (i k:Nat) (hi:i<rs.length) (hk:k<(rs.getD i []).length):
  w.cell? ⟨G i,k,none⟩=some (.int .i64 ((rs.getD i []).getD k 0))/\w.frozen? ⟨G i,k,none⟩=false:=by
 have hr:=h.row i hi;exact⟨by rw[World.ownsRow.cellAt hr k o_,iM _ _ hk],World.ownsRow.frozenAt hr k⟩
theorem aHU (w:World) (u:Value) (rs:List (List Int)) (t n:Int) (h:Rws w u rs) (hyes:nZ rs t n=true):
  Calls prog 310 #[.agg #[u],iv t,iv n] w fun e w'=>∃x c G C,e=.returned (.tuple #[.agg #[.slice x 3 c],.bool true])/\dJ w' w.heap.size (.slice x 3 c) (tH rs t n) G C/\Below w.heap.size w w':=by
 obtain⟨hok,t0,t1,n0,n1⟩:=(kQ rs t n).1 hyes;have hA:=((Below.refl w.heap.size w).alloc lr_ (.cells #[u] 36)).alloc (by simp) (.cells #[zn] 36);have K:=hd_ (rM u rs _ (h.below hA lr_));have HA:=hd_ hA;rw[hok]at K;have HRW:=hd_ h;obtain⟨b,o,cap,rfl,hcap,hb,hrow⟩:=lO h hok;obtain⟨b0,o0,c0,e0,l0,r0⟩:=hrow 0 o_;obtain⟨h3,hg⟩:=(dT rs).1 hok
 have fin:Hid (dA rs=(rs.getD 0 []).sum):=if_pos hok;obtain⟨g8,gr,_,_⟩:=hg 0 o_;have av:=iX hok;have HG:=hd_ hg;have H3:=hd_ h3;have HOK:=hd_ hok;have t1':t<=63:=o_;generalize hz:rs.getD 0 []=z0 at g8 gr fin r0;clear hz;obtain⟨S,hS⟩:=nm_ (dA rs);rw[<-hS]at av fin n1;have nU:n<=2000:=o_;have G8:=hd_ g8;have GR:=hd_ gr;have e0':w.cell? ⟨b,o,none⟩=some (.slice (some ⟨b0,o0,none⟩) 8 c0):=e0
 have R0:=hd_ r0;clear h hrow hok hg g8 gr e0 r0 hS hyes hA h3;go_enter func310,ntmps310
 go_wp2_with fail
 refine K.out.mono ?_;rintro e w1 ⟨rfl,hb1⟩;have sz:=hb1.size;simp only[World.size_alloc]at sz;have cb:w1.cell? ⟨w.heap.size+1,0,none⟩=some (.slice none 0 0):=by rw[hb1.cell (by simp)];simp[go_sem]
 have ca:w1.cell? ⟨w.heap.size,0,none⟩=some (.slice (some ⟨b,o,none⟩) 3 cap):=by rw[hb1.cell (by simp;omega)];simp[go_sem]
 have fb:w1.frozen? ⟨w.heap.size+1,0,none⟩=false:=by rw[hb1.frozen (by simp)];simp[go_sem]
 have hL:=HA.out.trans (hb1.mono HA.out.size);rw[<-hL.cell (p:=⟨b,o,none⟩) hb]at e0';have KC:Hid (Calls prog 224 #[.slice (some ⟨b0,o0,none⟩) 8 c0] w1 fun e w'=>e=.returned (iv S)/\w1=w'):=by
  exact zBD
 have KCopy:=hd_ (aHg w1 _ rs (HRW.out.below hL lr_) HOK.out);have L:=hd_ hL;clear hb1 hL
 go_wp2_with (go_at_call 66;refine (aJ _ _ _ _ t0 t1').mono ?_;rintro e w' ⟨rfl,rfl⟩;clear t1')
 refine KC.out.mono ?_;rintro e w' ⟨rfl,rfl⟩
 go_wp2_with (go_at_call 66;refine (aJ _ _ _ _ n0 n1).mono ?_;rintro e w' ⟨rfl,rfl⟩;clear n1)
 go_wp2_with fail
 refine KCopy.out.mono ?_;rintro e w2 ⟨x,c,G,C,rfl,ho,hb2⟩;obtain⟨g,c',hu,hg1,hg2⟩:=World.ownsRow.form ho.hdr (by rw[H3.out];omega);rw[H3.out]at hu;obtain⟨rfl,rfl⟩:x=some ⟨g,0,none⟩/\c=c':=by simpa using hu
 clear hu;have cb2:=cell_later hb2 cb;have fb2:w2.frozen? ⟨w.heap.size+1,0,none⟩=false:=by rw[hb2.frozen (p:=⟨w.heap.size+1,0,none⟩) (by simp;omega)];exact fb
 have sz2:=hb2.size;have L2:=hd_ (L.out.trans (hb2.mono L.out.size));have HO2:=hd_ ho;clear ho hb2 cb fb ca e0';have hz:=fun (i:Nat) (hi:i<3)=>(HG.out i hi).1
 have H8:=hd_ hz;have AB:=hd_ (fun (i:Nat) (hi:i<3)=>aMT HOK.out i hi t);clear hz;go_wp2;go_loopw [9] (fun i wr=>∃(k:Nat) (qs:List (List Int)),k<=3/\i=.int .i64 k/\qs.length=3/\(∀j,j<3->qs.getD j []=if j<k then qW rs t n j else rs.getD j [])/\
      dJ wr w1.heap.size (.slice (some ⟨g,0,none⟩) 3 c) qs G C/\wr.cell? ⟨w2.heap.size,0,none⟩=some (.slice (some ⟨g,0,none⟩) 3 c)/\
      wr.cell? ⟨w.heap.size+1,0,none⟩=some (.slice none 0 0)/\wr.frozen? ⟨w.heap.size+1,0,none⟩=false/\Below w.heap.size w wr/\w2.heap.size<wr.heap.size) (fun i _=>3 - (intOf i).toNat)
 case atStart=>
  have l1:w.heap.size+1<w2.heap.size:=o_;exact⟨0,rs,Nat.zero_le _,rfl,H3.out,fun j hj=>by simp,HO2.out.below ((Below.refl _ _).alloc lr_ _) lr_,by simp,by rw[World.cell?_alloc_past _ _ _ l1];exact cb2,
      by rw[World.frozen?_alloc_past _ _ _ l1];exact fb2,L2.out.alloc L2.out.size _,by simp⟩
 case round=>
  obtain⟨k,qs,hk,rfl,hq3,hqs,hown,hbox,cr,fr,hbl,hlt2⟩:=hrel;have HQ3:=hd_ hq3;have HQ:=hd_ hqs;have HO:=hd_ hown;have HB:=hd_ hbl;clear hq3 hqs hown hbl
  by_cases hlt:k<3
  ·obtain⟨P,hP,hP8,hPn⟩:=lH (k:Int) t
   have hqk:qs.getD k []=rs.getD k []:=by rw[HQ.out k hlt,if_neg o_]
   have hc1:=HO.out.hdrCell HQ3.out k hlt;rw[hqk,H8.out k hlt]at hc1;have hc2:=HO.out.rowCell k P (by rw[HQ3.out];exact hlt) (by rw[hqk,H8.out k hlt];exact hP8);have ha:(qs.getD k []).getD P 0=atV rs k t:=by rw[hqk];unfold atV;rw[hPn]
   rw[ha]at hc2;obtain⟨a0,a1⟩:=AB.out k hlt;have K1:Hid (∀W,Calls prog 320 #[iv k,iv t] W fun e w'=>e=.returned (iv P)/\Below W.heap.size W w'):=fun W=>by
    rw[<-hP];exact aFq k t W o_ o_ t0 t1
   have hst:∀w4:World,Below wr.heap.size wr w4->∃qs',qs'.length=3/\(∀j,j<3->qs'.getD j []=if j<k+1 then qW rs t n j else rs.getD j [])/\
     dJ (w4.setCell ⟨G k,P,none⟩ (iv (atV rs k t+n))) w1.heap.size (.slice (some ⟨g,0,none⟩) 3 c) qs' G C/\w4.grownBy (w4.setCell ⟨G k,P,none⟩ (iv (atV rs k t+n))) (some (G k)):=fun w4 hw4=>by
    have q:=(HO.out.below hw4 lr_).store k P (atV rs k t+n) (by rw[HQ3.out];exact hlt) (by rw[hqk,H8.out k hlt];exact hP8);refine⟨_,by simpa using HQ3.out,fun j hj=>?_,q.1,q.2⟩
    by_cases e:j=k
    ·subst e
     rw[if_pos o_];unfold qW;rw[hPn,hqk];simp[HQ3.out,hlt]
    ·have e1:(qs.set k ((qs.getD k []).set P (atV rs k t+n))).getD j []=qs.getD j []:=by simp[Ne.symm e]
     rw[e1,HQ.out j hj]
     by_cases e2:j<k
     ·rw[if_pos e2,if_pos o_]
     ·rw[if_neg e2,if_neg o_]
   have HST:=hd_ hst;have HGk:Hid (w1.heap.size<=G k/\G k<w2.heap.size):=⟨((HO.out.row k (by rw[HQ3.out];exact hlt)).lt (G k) rfl).1,((HO2.out.row k (by rw[H3.out];exact hlt)).lt (G k) rfl).2⟩
   obtain⟨a,hA⟩:=nm_ (atV rs k t);rw[<-hA]at hc2 HST a0 a1;obtain⟨hc2,hf2⟩:=hc2;have lgk:G k<wr.heap.size:=World.block_lt_of_cell? _ _ hc2;have rb:=cell_regrown hbox;have r1:=cell_regrown hc1;have r2:=cell_regrown hc2;have k0:(0:Int)<=(k:Int):=o_;have k3:(k:Int)<3:=o_;have P8:(P:Int)<8:=o_;have wr1:IntKind.i64.wrap (a+n)=a+n:=IntWalk.i64_in _ o_;clear hP hPn hst hA ha hqk hP8;go_wp2
   refine iP (C:=fun w'=>∃p:Regrown,w'=grow (redrawn wr p.d) p.os) 21 _ rfl rfl rfl kr_ kr_ kr_ kr_ kr_ ⟨⟨wr.drawn+1,#[]⟩,by rw[grow_empty];rfl⟩ ?_;simp only[List.take_succ_cons,List.take_zero]
   repeat (refine cK (fun K hK=>?_);go_simp;first|(refine hK _ ?_;clear hK K)|(apply Exists.intro;refine⟨fun _=>?_,hK _ ?_⟩;(exact Calls.regrown_of (K1.out _));clear hK K))
   refine dE ?_;intro _ hw';obtain⟨⟨dq,oq⟩,hw''⟩:=hw';subst hw'';have hb_w4:=below_regrown wr dq oq;obtain⟨w4,hq_w4⟩:=nm_ (grow (redrawn wr dq) oq);rw[<-hq_w4]at hb_w4 ⊢;clear hq_w4;have d1:=cell_later hb_w4 hc2;have d2:w4.frozen? ⟨G k,P,none⟩=false:=by rw[hb_w4.frozen (p:=⟨G k,P,none⟩) lgk];exact hf2
   have HB4:=hd_ hb_w4;clear hb_w4 rb r1 r2 wr1 hc1 hc2;go_wp2;go_roundw
   case rel=>
    obtain⟨qs',q1,q2,q3,q4⟩:=HST.out w4 HB4.out;have lw2:w2.heap.size<w4.heap.size:=by have:=HB4.out.size;omega
    have e2:G k≠w2.heap.size:=by have:=HGk.out.2;omega
    have e1:G k≠w.heap.size+1:=by have:=HGk.out.1;omega
    refine⟨k+1,qs',o_,gn_,q1,q2,q3,?_,?_,?_,?_,by simpa using lw2⟩
    ·exact zBN
    ·exact zBQ
    ·rw[World.frozen?_setCell,HB4.out.frozen (p:=⟨w.heap.size+1,0,none⟩) (by simp;omega)];exact fr
    ·exact (HB.out.trans (HB4.out.mono HB.out.size)).setCell (by have:=HGk.out.1;simp;omega) _
   case measure=>simp[intOf];omega
  ·have hq:qs=tH rs t n:=sL HQ3.out rfl (fun i hi=>by rw[HQ.out i hi,if_pos o_,aE7 _ _ _ _ hi])
   have HE:=hd_ hq;clear hq;go_wp2;have hr:=World.cell?_setCell_same wr ⟨w.heap.size+1,0,none⟩ (.slice (some ⟨g,0,none⟩) 3 c) cr;have hw:=HO.out.grown (aA wr ⟨w.heap.size+1,0,none⟩ (.slice (some ⟨g,0,none⟩) 3 c)) (fun k e=>by simp at e;omega);rw[HE.out]at hw
   exact bodyPost_ret (v:=.tuple #[.agg #[.slice (some ⟨g,0,none⟩) 3 c],.bool true]) (by simp[results,results310,go_sem,hr]) rfl
    ⟨_,_,G,C,rfl,hw.base o_,HB.out.setCell (by simp) _⟩
end Go.Proofs.YtcblbdpdbggkbaaGreat
namespace Go.Proofs.YtcblbdpdbggkbaaGreat
open _root_.Go.Proofs.Tryz
open Go.RowKit
def aMI (a:Nat) (w w':World):Prop:=w.grownBy w' (some a)
theorem aMI.set {a R i:Nat} {w w':World} (h:aMI a w w') (hR:w.heap.size<=R) (u:Value):aMI a w (w'.setCell ⟨R,i,none⟩ u):=
 ⟨h.os,h.tape,h.output,by simpa using h.size,fun k hk hne=>by rw[heap_setCell_other w' ⟨R,i,none⟩ k u (by simp;omega)];exact h.block k hk hne⟩
end Go.Proofs.YtcblbdpdbggkbaaGreat
namespace Go.Proofs.YtcblbdpdbggkbaaGreat
open _root_.Go.Proofs.Tryz
open Go.RowKit Go.Sort
def fW (t:Int):Int:=if 0<=t/\t<64 then (37 * t+11) % 64 else -1
theorem wT {t:Int} (h0:0<=t) (h1:t<64):fW t=(37 * t+11) % 64:=if_pos ⟨h0,h1⟩
theorem aA0 {t:Int} (h:t<0\/64<=t):fW t= -1:=if_neg o_
theorem aK9 {t:Int} (h0:0<=t) (h1:t<64):0<=fW t/\fW t<64:=by rw[wT h0 h1];omega
theorem aIR (t:Int) (w:World):Calls prog 176 #[iv t] w fun e w'=>e=.returned (iv (fW t))/\w=w':=by
 by_cases h:t<0\/64<=t
 ·rw[aA0 h]
  go_enter func176,ntmps176
  go_wp2_with (go_at_call 106;refine (nI _ _ h).mono ?_;rintro e w' ⟨rfl,rfl⟩)
  go_ret;exact⟨rfl,rfl⟩
 ·have h0:0<=t:=o_
  have h1:t<64:=o_;rw[wT h0 h1];clear h;go_enter func176,ntmps176
  go_wp2_with (go_at_call 106;refine (jZ _ _ h0 h1).mono ?_;rintro e w' ⟨rfl,rfl⟩)
  go_ret;exact⟨iW (by first|rfl|(simp;omega)|omega),rfl⟩
theorem aJb (t:Int) (w:World):Calls prog 321 #[iv t] w fun e w'=>e=.returned (iv (fW t))/\w=w':=by
 by_cases h:t<0\/63<t
 ·rw[aA0 o_]
  go_enter func321,ntmps321
  go_wp2_with (go_at_call 66;refine (fY _ _ _ _ h).mono ?_;rintro e w' ⟨rfl,rfl⟩)
  go_ret;exact⟨rfl,rfl⟩
 ·have h0:0<=t:=o_
  have h1:t<64:=o_;have h2:t<=63:=o_;rw[wT h0 h1];clear h;go_enter func321,ntmps321
  go_wp2_with (go_at_call 66;refine (aJ _ _ _ _ h0 h2).mono ?_;rintro e w' ⟨rfl,rfl⟩)
  go_ret;exact⟨iW (by first|rfl|(simp;omega)|omega),rfl⟩
def wI (zs:List Int) (i:Nat):Prop:=(0<=zs.getD i 0/\zs.getD i 0<=63)/\(0<i->zs.getD (i - 1) 0<zs.getD i 0)
instance (zs:List Int) (i:Nat):Decidable (wI zs i):=by unfold wI;infer_instance
def aLK (zs:List Int):Prop:=zs.length<=6/\∀i,i<zs.length->wI zs i
instance (zs:List Int):Decidable (aLK zs):=by unfold aLK;infer_instance
def eE (zs:List Int):Bool:=decide (aLK zs)
def kD (zs:List Int) (k:Nat):Int:=if k=0 then -1 else zs.getD (k - 1) 0
theorem vJ (zs:List Int):eE zs=true↔aLK zs:=by simp[eE]
theorem aCn {zs:List Int} (h:6<zs.length):eE zs=false:=by simp only[eE,decide_eq_false_iff_not];exact fun q=>by have:=q.1;omega
theorem vC {zs:List Int} {i:Nat} (hi:i<zs.length) (h:¬wI zs i):eE zs=false:=by simp only[eE,decide_eq_false_iff_not];exact fun q=>h (q.2 i hi)
theorem wQ {zs:List Int} (hl:zs.length<=6) (h:∀i,i<zs.length->wI zs i):eE zs=true:=(vJ zs).2 ⟨hl,h⟩
theorem aJH {zs:List Int} {k:Nat} (h:∀i,i<k->wI zs i): -1<=kD zs k/\kD zs k<=63:=by
 unfold kD
 split
 ·omega
 ·have:=(h (k - 1) o_).1;omega
theorem aKj {zs:List Int} {k:Nat} (h:∀i,i<k->wI zs i):wI zs k↔kD zs k<zs.getD k 0/\zs.getD k 0<64:=by
 have hb:=aJH h;unfold wI;unfold kD at hb ⊢
 split
 ·subst_vars;simp;omega
 ·have:0<k:=o_
  simp only[this,true_implies];rw[if_neg o_]at hb;omega
theorem aDh (b o c n:Nat) (zs:List Int) (w:World) (hl:zs.length=n) (hn:n<=6) (hb:b<w.heap.size) (hc:∀i,i<n->w.cell? ⟨b,o+i,none⟩=some (.int .i64 (zs.getD i 0))):
  Calls prog 175 #[.agg #[.slice (some ⟨b,o,none⟩) n c]] w fun e w'=>e=.returned (.bool (eE zs))/\Below w.heap.size w w':=by
 have hA:=(Below.refl w.heap.size w).alloc lr_ (.cells #[.slice (some ⟨b,o,none⟩) n c] 38);have HC:Hid (∀i,i<n->(w.alloc (.cells #[.slice (some ⟨b,o,none⟩) n c] 38)).cell? ⟨b,o+i,none⟩=some (.int .i64 (zs.getD i 0))):=fun i hi=>by
  rw[hA.cell (p:=⟨b,o+i,none⟩) hb];exact hc i hi
 have HL:=hd_ hl;have HA:=hd_ hA;have hn':¬(6:Int)<(n:Int):=o_;clear hc hl hA;go_enter func175,ntmps175;go_wp2
 go_loop [3,13] (fun q i=>∃k:Nat,k<=n/\i=.int .i64 k/\q=.int .i64 (kD zs k)/\∀i,i<k->wI zs i) (fun _ i=>n - (intOf i).toNat)
 case atStart=>exact⟨0,Nat.zero_le _,rfl,rfl,fun _ h=>absurd h (Nat.not_lt_zero _)⟩
 case round=>
  obtain⟨k,hk,rfl,rfl,hg⟩:=hrel;have G:=hd_ hg;have I:=hd_ (aKj hg)
  by_cases hlt:k<n
  ·have h1:=HC.out k hlt
   have hs:Hid (kD zs (k+1)=zs.getD k 0):=by show (if k+1=0 then _ else _)=_;rw[if_neg o_];rfl
   generalize zs.getD k 0=x at h1 I hs;generalize kD zs k=L at I ⊢;clear hg
   by_cases hx:x<=L
   ·have bad:Hid (eE zs=false):=vC (by rw[HL.out];exact hlt) (fun q=>by have:=(I.out.1 q).1;omega)
    go_wp2;go_ret;exact⟨aH bad.out.symm,HA.out⟩
   by_cases hy:64<=x
   ·have bad:Hid (eE zs=false):=vC (by rw[HL.out];exact hlt) (fun q=>by have:=(I.out.1 q).2;omega)
    go_wp2;go_ret;exact⟨aH bad.out.symm,HA.out⟩
   ·go_wp2
    go_round
    case rel=>exact⟨k+1,o_,gn_,by rw[hs.out],fun i hi=>by
          by_cases h:i<k
          · exact G.out i h
          · obtain rfl:i=k:=o_
            exact I.out.2 o_⟩
    case measure=>simp[intOf];omega
  ·have good:Hid (eE zs=true):=wQ (by rw[HL.out];exact hn) (fun i hi=>G.out i (by rw[HL.out]at hi;omega))
   go_wp2;go_ret;exact⟨aH good.out.symm,HA.out⟩
theorem nL (w:World) (u:Value) (zs:List Int) (h:cW w u zs):
  Calls prog 175 #[.agg #[u]] w fun e w'=>e=.returned (.bool (eE zs))/\Below w.heap.size w w':=by
 obtain⟨⟨x,c,hx⟩,_⟩:=h.cases
 by_cases hn:6<zs.length
 ·rw[aCn hn]
  obtain⟨n,hn'⟩:=nm_ zs.length;rw[<-hn']at hx hn;subst hx;have h6:(6:Int)<(n:Int):=o_;clear h hn' hn;go_enter func175,ntmps175;exact zAE
 rcases h with ⟨rfl,rfl⟩|⟨b,o,cap,rfl,_,_,hb,hc⟩
 ·have e:eE []=true:=by decide
  rw[e];go_enter func175,ntmps175;go_wp2;refine wp_loop_rounds 1 ?_;rw[rounds_succ];exact zAE
 ·exact aDh b o cap _ zs w rfl o_ hb hc
theorem aDo (b o c n:Nat) (zs:List Int) (w:World) (hl:zs.length=n) (hn:n<=maxLen) (hb:b<w.heap.size) (hc:∀i,i<n->w.cell? ⟨b,o+i,none⟩=some (.int .i64 (zs.getD i 0))):
  Calls prog 220 #[.agg #[.slice (some ⟨b,o,none⟩) n c]] w fun e w'=>e=.returned (.bool (eE zs))/\Below w.heap.size w w':=by
 unfold maxLen at hn;have HC:=hd_ hc;have HL:=hd_ hl;clear hc hl;go_enter func220,ntmps220;go_wp2;go_loopw [3] (fun i wr=>∃k:Nat,k<=n/\i=.int .i64 k/\(∀i,i<k->wI zs i)/\Below w.heap.size w wr/\wr.cell? ⟨w.heap.size,0,none⟩=some (.slice (some ⟨b,o,none⟩) n c)) (fun i _=>n - (intOf i).toNat)
 case atStart=>exact⟨0,Nat.zero_le _,rfl,fun _ h=>absurd h (Nat.not_lt_zero _),(Below.refl _ _).alloc lr_ _,by simp⟩
 case round=>
  obtain⟨k,hk,rfl,hg,hbl,hbox⟩:=hrel;have G:=hd_ hg;have HB:=hd_ hbl;clear hg hbl
  by_cases hlt:k<n
  ·have h1:=HC.out k hlt
   rw[<-HB.out.cell (p:=⟨b,o+k,none⟩) hb]at h1;obtain⟨x,hx⟩:∃x,zs.getD k 0=x:=⟨_,rfl⟩
   rw[hx]at h1;have HX:=hd_ hx;clear hx;have k0:(0:Int)<=(k:Int):=o_;have kn:(k:Int)<(n:Int):=o_
   by_cases hr:x<0\/63<x
   ·have bad:Hid (eE zs=false):=vC (by rw[HL.out];exact hlt) (fun q=>by have:=q.1;rw[HX.out]at this;omega)
    go_wp2
    go_quiet (with_reducible exact aE (fY _ _ _ _ hr))
    go_wp2;go_ret;exact⟨aH bad.out.symm,below_drewN HB.out _⟩
   have x0:0<=x:=o_;have x1:x<=63:=o_;rcases Nat.eq_zero_or_pos k with h0|h0
   ·subst h0
    have good:Hid (wI zs 0):=⟨by rw[HX.out];exact⟨x0,x1⟩,fun h=>absurd h (Nat.lt_irrefl _)⟩
    have h1':wr.cell? ⟨b,o,none⟩=some (.int .i64 x):=h1;have z0:(0:Int)<(n:Int):=o_;go_wp2
    go_quiet (with_reducible exact aE (aJ _ _ _ _ x0 x1))
    go_wp2;go_roundw
    case rel=>exact⟨1,o_,gn_,fun i hi=>by
          obtain rfl:i=0:=o_
          exact good.out,below_drewN HB.out _,by simpa using hbox⟩
    case measure=>simp[intOf];omega
   ·obtain⟨j,rfl⟩:∃j,k=j+1:=⟨k - 1,o_⟩
    have h2:=HC.out j o_;rw[<-HB.out.cell (p:=⟨b,o+j,none⟩) hb]at h2;obtain⟨y,hy'⟩:∃y,zs.getD j 0=y:=⟨_,rfl⟩
    rw[hy']at h2;have HY:=hd_ hy';clear hy';have p0:(0:Int)<((j+1:Nat):Int):=o_;have e1:((j+1:Nat):Int) - 1=(j:Int):=o_;have j0:(0:Int)<=(j:Int):=o_;have jn:(j:Int)<(n:Int):=o_
    by_cases hyx:x<=y
    ·have bad:Hid (eE zs=false):=vC (by rw[HL.out];exact hlt) (fun q=>by have:=q.2 h0;rw[HX.out,Nat.add_sub_cancel,HY.out]at this;omega)
     have hd:decide (x<=y)=true:=decide_eq_true hyx;go_wp2
     go_quiet (with_reducible exact aE (aJ _ _ _ _ x0 x1))
     go_wp2;go_ret;exact⟨aH bad.out.symm,below_drewN HB.out _⟩
    ·have good:Hid (wI zs (j+1)):=⟨by rw[HX.out];exact⟨x0,x1⟩,fun _=>by rw[Nat.add_sub_cancel,HX.out,HY.out];omega⟩
     have hd:decide (x<=y)=false:=decide_eq_false hyx;go_wp2
     go_quiet (with_reducible exact aE (aJ _ _ _ _ x0 x1))
     go_wp2;go_roundw
     case rel=>exact⟨j+1+1,o_,gn_,fun i hi=>by
            by_cases h:i<j+1
            · exact G.out i h
            · obtain rfl:i=j+1:=o_
              exact good.out,below_drewN HB.out _,by simpa using hbox⟩
     case measure=>simp[intOf];omega
  ·by_cases h6:n<=6
   ·have good:Hid (eE zs=true):=wQ (by rw[HL.out];exact h6) (fun i hi=>G.out i (by rw[HL.out]at hi;omega))
    have h6':(n:Int)<=6:=o_;go_wp2;go_ret;exact⟨aH (by first|(rw[good.out];done)|(rw[good.out];simp;omega)),HB.out⟩
   ·have bad:Hid (eE zs=false):=aCn (by rw[HL.out];omega)
    go_wp2;go_ret;exact⟨aH (by first|(rw[bad.out];done)|(rw[bad.out];simp;omega)),HB.out⟩
theorem jX (w:World) (u:Value) (zs:List Int) (h:cW w u zs):
  Calls prog 220 #[.agg #[u]] w fun e w'=>e=.returned (.bool (eE zs))/\Below w.heap.size w w':=by
 rcases h with ⟨rfl,rfl⟩|⟨b,o,cap,rfl,h1,h2,hb,hc⟩
 ·have e:eE []=true:=by decide
  rw[e];go_enter func220,ntmps220;go_wp2;refine wp_loop_rounds 1 ?_;rw[rounds_succ];exact zAE
 ·exact aDo b o cap _ zs w rfl o_ hb hc
theorem fS {zs:List Int} (h:eE zs=true):zs.length<=6/\(∀i,i<zs.length->0<=zs.getD i 0/\zs.getD i 0<=63)/\∀i,i+1<zs.length->zs.getD i 0<zs.getD (i+1) 0:=by
 obtain⟨h1,h2⟩:=(vJ zs).1 h;refine⟨h1,fun i hi=>(h2 i hi).1,fun i hi=>?_⟩;have:=(h2 (i+1) hi).2 o_;rwa[Nat.add_sub_cancel]at this
def jL (t:Int):Bool:=decide (0<=t/\t<64)
theorem aLT {zs:List Int} {x:Int}:x ∈ zs↔∃i,i<zs.length/\zs.getD i 0=x:=by
 exact zBB
theorem uS (t:Int):jL t=true↔0<=t/\t<64:=by simp[jL]
theorem yL (t:Int):jL t=false↔t<0\/64<=t:=by simp[jL];omega
theorem rP:(prog.info? 3).map (fun i=>(i.zero,i.size,i.bytes))=some (some (.int .i64 0),1,8):=by kernel_rfl
theorem xL (w:World) (B:Nat) (hB:B<=w.heap.size):(w.alloc (.cells #[] 3)).ownsRow B 3 1 (.slice (some ⟨w.heap.size,0,none⟩) 0 0) 0 []:=
 World.ownsRow_lit (base:=B) (e:=3) (size:=1) w #[] 0 hB (by simp[maxLen]) (by simp)
def aZ (w:World) (B:Nat) (v:Value) (zs:List Int):Prop:=w.ownsRow B 3 1 v zs.length (bG zs)
theorem aZ.rd {w:World} {B:Nat} {v:Value} {zs:List Int} (h:aZ w B v zs):cW w v zs:=aCB h
theorem aZ.base {w:World} {B B':Nat} {v:Value} {zs:List Int} (h:aZ w B v zs) (hB:B'<=B):aZ w B' v zs:=aM h hB
theorem aZ.kept {w w':World} {B:Nat} {v:Value} {zs:List Int} {row:Option Nat} (h:aZ w B v zs) (hg:w.grownBy w' row) (hr:∀k,row=some k->k<B):aZ w' B v zs:=by
 exact zAj
theorem aZ.alloc {w:World} {B:Nat} {v:Value} {zs:List Int} (h:aZ w B v zs) (o:Obj):aZ (w.alloc o) B v zs:=World.ownsRow.alloc h o
theorem aZ.nil (w:World) (B:Nat):aZ w B zn []:=World.ownsRow_nil w B _ 1
theorem aZ.form {w:World} {B:Nat} {v:Value} {zs:List Int} (h:aZ w B v zs):∃x c,v=.slice x zs.length c:=h.rd.cases.1
theorem xD (zs:List Int) (x:Int):bG (zs++[x])=bG zs++[.int .i64 x]:=by simp[bG]
theorem aZ.take {w:World} {B n c:Nat} {x:Option Addr} {zs:List Int} (h:aZ w B (.slice x n c) zs) (k:Nat) (hk:k<=zs.length):aZ w B (.slice x k c) (zs.take k):=by
 have hl:(zs.take k).length=k:=by simp;omega
 have hi:bG (zs.take k)=(bG zs).take k:=by simp[bG,List.map_take]
 obtain⟨h1,h2⟩:=h;refine⟨by rw[nS];simp,?_⟩;rw[hl];rcases h2 with ⟨e,h0⟩|⟨g,cap,cur,e,hb,hh,hn,hm,hs,ht⟩
 ·refine .inl ⟨?_,o_⟩
  obtain⟨rfl,rfl,rfl⟩:=Value.slice.inj e;obtain rfl:k=0:=o_
  rfl
 ·obtain⟨rfl,rfl,rfl⟩:=Value.slice.inj e
  refine .inr ⟨g,c,cur,rfl,hb,hh,o_,hm,hs,?_⟩;rw[hi, <-ht,List.take_take]
  congr 1
  omega
def oP (m:Int):List Int->Bool->List Int
 | [],d=>if d then []else [m]
 |x::xs,d=>(if !d&&decide (m<=x)then [m]else [])++((if x=m then []else [x])++oP m xs (d || decide (m<=x)))
def gT (zs:List Int) (m:Int):List Int:=(oP m zs false).take 6
theorem aKC (zs:List Int) (m:Int):(gT zs m).length<=6:=by simp[gT];omega
theorem aIA {zs:List Int} {k:Nat} (h:k<zs.length):zs.drop k=zs.getD k 0::zs.drop (k+1):=by
 rw[List.drop_eq_getElem_cons h];simp[h]
theorem aNm (m:Int) (rest:List Int):oP m (m::rest) false=[m]++oP m rest true:=by
 show (if _ then _ else _)++((if _ then _ else _)++oP m rest _)=_
 simp
theorem aM1 {m y:Int} (rest:List Int) (h:m<=y) (h':y≠m):oP m (y::rest) false=[m]++([y]++oP m rest true):=by
 show (if _ then _ else _)++((if _ then _ else _)++oP m rest _)=_
 simp[h,h']
theorem aNr (m:Int) (rest:List Int):oP m (m::rest) true=oP m rest true:=by
 show (if _ then _ else _)++((if _ then _ else _)++oP m rest _)=_
 simp
theorem aMh {m y:Int} {d:Bool} (rest:List Int) (h:d=true\/y<m) (h':y≠m):oP m (y::rest) d=[y]++oP m rest d:=by
 show (if _ then _ else _)++((if _ then _ else _)++oP m rest _)=_
 rcases h with h|h
 ·simp[h,h']
 ·have:¬m<=y:=o_
  simp[this,h']
theorem lU {w:World} {B no:Nat} {v:Value} {os:List Int} {m:Int} (h:w.ownsRow B 3 1 v (no+1) (bG os++[.int .i64 m])) (hn:no=os.length):aZ w B v (os++[m]):=by
 unfold aZ;rw[xD,List.length_append, <-hn];exact h
theorem fV {w wr w':World} {o:Obj} {e:TypeId} {v:Value} {n:Nat} {xs:List Value} (hb:Below w.heap.size w wr) (ho:wr.ownsRow w.heap.size e 1 v n xs) (hg:(wr.alloc o).grownBy w' v.ownBlock):Below w.heap.size w w':=
 (hb.alloc hb.size o).grown hg (Nat.le_trans hb.size (by simp)) (fun k e=>(ho.lt k e).1)
theorem zB {w:World} {B n c:Nat} {e:TypeId} {x:Option Addr} {xs:List Value} (h:w.ownsRow B e 1 (.slice x n c) n xs):n<=c/\c<=maxLen:=by
 rcases h.2 with ⟨e,h0⟩|⟨g,cap,cur,e,hb,hh,hn,hm,hs,ht⟩
 ·obtain⟨_,h1,h2⟩:=Value.slice.inj e
  subst h1 h2;exact⟨Nat.le_refl _,Nat.zero_le _⟩
 ·obtain⟨_,_,h2⟩:=Value.slice.inj e
  subst h2;exact⟨hn,hm⟩
theorem oH {w wr w':World} {o:Obj} {e:TypeId} {v u:Value} {n:Nat} {xs:List Value} {a:Addr} (hc:wr.cell? a=some u) (ha:a.block<w.heap.size) (ho:wr.ownsRow w.heap.size e 1 v n xs) (hg:(wr.alloc o).grownBy w' v.ownBlock):w'.cell? a=some u:=
 hg.cell ((World.cell?_alloc_lt (h:=World.block_lt_of_cell? _ _ hc) ..).trans hc) (fun h=>by have:=(ho.lt _ h.symm).1;omega)
theorem aF9 (w:World) (b o c n:Nat) (zs:List Int) (m:Int) (hl:zs.length=n) (hn:n<=100) (hb:b<w.heap.size) (hc:∀i,i<n->w.cell? ⟨b,o+i,none⟩=some (.int .i64 (zs.getD i 0))):
  Calls prog 225 #[.slice (some ⟨b,o,none⟩) n c,iv m] w fun e w'=>∃v,e=.returned v/\aZ w' w.heap.size v (gT zs m)/\Below w.heap.size w w':=by
 obtain⟨i0,hi,hz0,hz1,hz2⟩:=info_parts rP;have HL:=hd_ hl;have HC:=hd_ hc;clear hl hc;go_enter func225,ntmps225;go_wp2;go_loopw [5,6,7] (fun u d i wr=>∃(k:Nat) (dn:Bool) (os:List Int),k<=n/\i=.int .i64 k/\d=.bool dn/\os.length<=2 * k/\aZ wr w.heap.size u os/\os++oP m (zs.drop k) dn=oP m zs false/\Below w.heap.size w wr) (fun _ _ i _=>n - (intOf i).toNat)
 case atStart=>exact⟨0,false,[],Nat.zero_le _,rfl,rfl,Nat.le_refl _,xL w w.heap.size lr_,rfl,(Below.refl _ _).alloc lr_ _⟩
 case round=>
  obtain⟨k,dn,os,hk,rfl,rfl,hos,hown,hput,hbl⟩:=hrel;obtain⟨x,cp,hu⟩:=hown.form;obtain⟨no,hno⟩:=nm_ os.length;have hno2:no<=200:=o_;rw[<-hno]at hu;subst hu;have HN:=hd_ hno;have HP:=hd_ hput;have HB:=hd_ hbl;have hsz:=hbl.size;have ho:wr.ownsRow w.heap.size 3 1 (.slice x no cp) no (bG os):=by have h:=hown;unfold aZ at h;rw[<-hno]at h;exact h
  have HO:=hd_ ho;clear hput hbl hown hno ho
  by_cases hlt:k<n
  ·have h1:=HC.out k hlt
   rw[<-HB.out.cell (p:=⟨b,o+k,none⟩) hb]at h1;have hd:=aIA (zs:=zs) (k:=k) (by rw[HL.out];exact hlt);generalize zs.getD k 0=y at h1 hd;rw[hd]at HP;clear hd;have k0:(0:Int)<=(k:Int):=o_;have kn:(k:Int)<(n:Int):=o_;cases dn with
   |false=>
    by_cases hmy:m<=y
    ·have hD:decide (m<=y)=true:=decide_eq_true hmy
     by_cases hym:y=m
     ·subst hym
      go_wp2_with (first|(at_builtin;refine wpList_append_own _ rfl _ _ 23 rfl w.heap.size 3 i0 (iv 0) 1 8 underlying23 hi hz0 hz1 hz2 rfl dc_ _ _ _ rfl (HO.out.alloc _) ⟨wr.heap.size,0,none⟩ 1 1 [iv y] rfl rfl (cell_one_new _ _ _) (by simp[Value.oneCell']) (by unfold maxLen;omega) o_ (by simp;omega) ?_;intro v1 w1 ho1 hg1 _;obtain⟨g_v1,c_v1,rfl,_,_⟩:=World.ownsRow.form ho1 (Nat.succ_pos _);have c_w1:=oH h1 hb HO.out hg1))
      go_roundw
      case rel=>exact⟨k+1,true,os++[y],o_,gn_,rfl,by simp;omega,lU ho1 HN.out,by rw[<-HP.out,aNm,List.append_assoc],fV HB.out HO.out hg1⟩
      case measure=>simp[intOf];omega
     ·have hne:(y != m)=true:=by simpa using hym
      have hne2:decide (y=m)=false:=decide_eq_false hym
      go_wp2_with (first|(at_builtin;refine wpList_append_own _ rfl _ _ 23 rfl w.heap.size 3 i0 (iv 0) 1 8 underlying23 hi hz0 hz1 hz2 rfl dc_ _ _ _ rfl (HO.out.alloc _) ⟨wr.heap.size,0,none⟩ 1 1 [iv m] rfl rfl (cell_one_new _ _ _) (by simp[Value.oneCell']) (by unfold maxLen;omega) o_ (by simp;omega) ?_;intro v1 w1 ho1 hg1 _;obtain⟨g_v1,c_v1,rfl,_,_⟩:=World.ownsRow.form ho1 (Nat.succ_pos _);have c_w1:=oH h1 hb HO.out hg1)|(at_builtin;refine wpList_append_own _ rfl _ _ 23 rfl w.heap.size 3 i0 (iv 0) 1 8 underlying23 hi hz0 hz1 hz2 rfl dc_ _ _ _ rfl (ho1.alloc _) ⟨w1.heap.size,0,none⟩ 1 1 [iv y] rfl rfl (cell_one_new _ _ _) (by simp[Value.oneCell']) (by unfold maxLen;omega) o_ (by simp;omega) ?_;intro v2 w2 ho2 hg2 _;obtain⟨g_v2,c_v2,rfl,_,_⟩:=World.ownsRow.form ho2 (Nat.succ_pos _)))
      go_roundw
      case rel=>
       have o1:=lU ho1 HN.out;have o2:=lU (os:=os++[m]) (by have h:=ho2;rw[<-xD]at h;exact h) (by simp;exact HN.out);have b1:=fV HB.out HO.out hg1;exact⟨k+1,true,os++[m]++[y],o_,gn_,rfl,by simp;omega,o2,by rw[<-HP.out,aM1 _ hmy hym];simp,fV b1 ho1 hg2⟩
      case measure=>simp[intOf];omega
    ·have hD:decide (m<=y)=false:=decide_eq_false hmy
     have hym:y≠m:=o_;have hne:(y != m)=true:=by simpa using hym
     have hne2:decide (y=m)=false:=decide_eq_false hym
     go_wp2_with (first|(at_builtin;refine wpList_append_own _ rfl _ _ 23 rfl w.heap.size 3 i0 (iv 0) 1 8 underlying23 hi hz0 hz1 hz2 rfl dc_ _ _ _ rfl (HO.out.alloc _) ⟨wr.heap.size,0,none⟩ 1 1 [iv y] rfl rfl (cell_one_new _ _ _) (by simp[Value.oneCell']) (by unfold maxLen;omega) o_ (by simp;omega) ?_;intro v1 w1 ho1 hg1 _;obtain⟨g_v1,c_v1,rfl,_,_⟩:=World.ownsRow.form ho1 (Nat.succ_pos _);have c_w1:=oH h1 hb HO.out hg1))
     go_roundw
     case rel=>exact⟨k+1,false,os++[y],o_,gn_,rfl,by simp;omega,lU ho1 HN.out,by rw[<-HP.out,aMh _ (.inr o_) hym,List.append_assoc],fV HB.out HO.out hg1⟩
     case measure=>simp[intOf];omega
   |true=>
    by_cases hym:y=m
    ·subst hym
     go_wp2;go_roundw
     case rel=>exact⟨k+1,true,os,o_,gn_,rfl,o_,by have h:=HO.out;rw[HN.out]at h;rw[HN.out];exact h,by rw[<-HP.out,aNr],HB.out⟩
     case measure=>simp[intOf];omega
    ·have hne:(y != m)=true:=by simpa using hym
     have hne2:decide (y=m)=false:=decide_eq_false hym
     go_wp2_with (first|(at_builtin;refine wpList_append_own _ rfl _ _ 23 rfl w.heap.size 3 i0 (iv 0) 1 8 underlying23 hi hz0 hz1 hz2 rfl dc_ _ _ _ rfl (HO.out.alloc _) ⟨wr.heap.size,0,none⟩ 1 1 [iv y] rfl rfl (cell_one_new _ _ _) (by simp[Value.oneCell']) (by unfold maxLen;omega) o_ (by simp;omega) ?_;intro v1 w1 ho1 hg1 _;obtain⟨g_v1,c_v1,rfl,_,_⟩:=World.ownsRow.form ho1 (Nat.succ_pos _);have c_w1:=oH h1 hb HO.out hg1))
     go_roundw
     case rel=>exact⟨k+1,true,os++[y],o_,gn_,rfl,by simp;omega,lU ho1 HN.out,by rw[<-HP.out,aMh _ (.inl rfl) hym,List.append_assoc],fV HB.out HO.out hg1⟩
     case measure=>simp[intOf];omega
  ·have hd0:zs.drop k=[]:=List.drop_of_length_le (by rw[HL.out];omega)
   rw[hd0]at HP;clear hd0;cases dn with
   |false=>
    have hPV:oP m zs false=os++[m]:=HP.out.symm;have HPV:=hd_ hPV;clear hPV
    by_cases h6:no+1<=6
    ·have h6':(no:Int)+1<=6:=o_
     go_wp2_with (first|(at_builtin;refine wpList_append_own _ rfl _ _ 23 rfl w.heap.size 3 i0 (iv 0) 1 8 underlying23 hi hz0 hz1 hz2 rfl dc_ _ _ _ rfl (HO.out.alloc _) ⟨wr.heap.size,0,none⟩ 1 1 [iv m] rfl rfl (cell_one_new _ _ _) (by simp[Value.oneCell']) (by unfold maxLen;omega) o_ (by simp;omega) ?_;intro v1 w1 ho1 hg1 _;obtain⟨g_v1,c_v1,rfl,_,_⟩:=World.ownsRow.form ho1 (Nat.succ_pos _);obtain⟨cc1,cc2⟩:=zB ho1))
     go_ret;refine⟨_,rfl,?_,fV HB.out HO.out hg1⟩;have o1:=lU ho1 HN.out;have e:gT zs m=os++[m]:=by unfold gT;rw[HPV.out,List.take_of_length_le (by simp;rw[<-HN.out];omega)]
     rw[e];exact o1
    ·have h6':¬(no:Int)+1<=6:=o_
     go_wp2_with (first|(at_builtin;refine wpList_append_own _ rfl _ _ 23 rfl w.heap.size 3 i0 (iv 0) 1 8 underlying23 hi hz0 hz1 hz2 rfl dc_ _ _ _ rfl (HO.out.alloc _) ⟨wr.heap.size,0,none⟩ 1 1 [iv m] rfl rfl (cell_one_new _ _ _) (by simp[Value.oneCell']) (by unfold maxLen;omega) o_ (by simp;omega) ?_;intro v1 w1 ho1 hg1 _;obtain⟨g_v1,c_v1,rfl,_,_⟩:=World.ownsRow.form ho1 (Nat.succ_pos _);obtain⟨cc1,cc2⟩:=zB ho1))
     go_ret;refine⟨_,rfl,?_,fV HB.out HO.out hg1⟩;have o1:=lU ho1 HN.out;have e:gT zs m=(os++[m]).take 6:=by unfold gT;rw[HPV.out]
     rw[e];exact o1.take 6 (by simp;rw[<-HN.out];omega)
   |true=>
    have hPV:oP m zs false=os:=by rw[<-HP.out];unfold oP;simp
    have HPV:=hd_ hPV;clear hPV;have hcc:=zB HO.out;obtain⟨cc1,cc2⟩:=hcc;have fin:∀k,k<=no->(k=no/\no<=6\/k=6)->aZ wr w.heap.size (.slice x k cp) (gT zs m):=fun k hk h=>by
     have ho:=HO.out;have o1:aZ wr w.heap.size (.slice x no cp) os:=by rw[HN.out]at ho;rw[HN.out];exact ho
     have hn:=HN.out;have e:gT zs m=os.take k:=by
      unfold gT;rw[HPV.out];rcases h with ⟨h,h6⟩|h
      ·rw[List.take_of_length_le o_,List.take_of_length_le o_]
      ·rw[h]
     rw[e];exact o1.take k o_
    have FIN:=hd_ fin;clear fin;have hx:(x=none/\no=0/\cp=0)\/∃g,x=some ⟨g,0,none⟩:=by
     rcases HO.out.2 with ⟨e,h0⟩|⟨g,cap,cur,e,_⟩
     ·exact .inl (by have:=Value.slice.inj e;exact this)
     ·exact .inr ⟨g,(Value.slice.inj e).1⟩
    rcases hx with ⟨rfl,rfl,rfl⟩|⟨g,rfl⟩
    ·go_wp2
     go_ret;exact⟨_,rfl,FIN.out 0 lr_ (.inl ⟨rfl,o_⟩),HB.out⟩
    ·have cc3:(no:Int)<=(cp:Int):=o_
     by_cases h6:no<=6
     ·have h6':(no:Int)<=6:=o_
      go_wp2;go_ret;exact⟨_,rfl,FIN.out no lr_ (.inl ⟨rfl,h6⟩),HB.out⟩
     ·have h6':¬(no:Int)<=6:=o_
      have c6:(6:Int)<=(cp:Int):=o_;go_wp2;go_ret;exact⟨_,rfl,FIN.out 6 o_ (.inr rfl),HB.out⟩
theorem aF0 (w:World) (m:Int):Calls prog 225 #[zn,iv m] w fun e w'=>∃v,e=.returned v/\aZ w' w.heap.size v (gT [] m)/\Below w.heap.size w w':=by
 obtain⟨i0,hi,hz0,hz1,hz2⟩:=info_parts rP;have HO:=hd_ (xL w w.heap.size lr_);have hbl:=(Below.refl w.heap.size w).alloc lr_ (.cells #[] 3);have HB:=hd_ hbl;clear hbl;go_enter func225,ntmps225;go_wp2;refine wp_loop_rounds 1 ?_;rw[rounds_succ]
 go_wp2_with (first|(at_builtin;refine wpList_append_own _ rfl _ _ 23 rfl w.heap.size 3 i0 (iv 0) 1 8 underlying23 hi hz0 hz1 hz2 rfl dc_ _ _ _ rfl (HO.out.alloc _) ⟨w.heap.size+1,0,none⟩ 1 1 [iv m] rfl rfl (by have:=cell_one_new (w.alloc (.cells #[] 3)) (iv m) 3;simpa using this) (by simp[Value.oneCell']) (by unfold maxLen;omega) o_ (by simp;omega) ?_;intro v1 w1 ho1 hg1 _;obtain⟨g_v1,c_v1,rfl,_,_⟩:=World.ownsRow.form ho1 (Nat.succ_pos _);obtain⟨cc1,cc2⟩:=zB ho1))
 go_ret;refine⟨_,rfl,?_,fV HB.out HO.out hg1⟩;have o1:=lU (os:=[]) ho1 rfl;exact o1
theorem aAy (w:World) (v:Value) (zs:List Int) (m:Int) (h:cW w v zs) (hn:zs.length<=100):
  Calls prog 225 #[v,iv m] w fun e w'=>∃v,e=.returned v/\aZ w' w.heap.size v (gT zs m)/\Below w.heap.size w w':=by
 rcases h with ⟨rfl,rfl⟩|⟨b,o,cap,rfl,_,_,hb,hc⟩
 ·exact aF0 w m
 ·exact aF9 w b o cap _ zs m rfl hn hb hc
def fF (zs:List Int) (t:Int):Bool:=eE zs&&jL t
def kP (zs:List Int) (t:Int):List Int:=if fF zs t=true then gT zs (fW t)else []
theorem sF {zs:List Int} {t:Int} (h:fF zs t=true):kP zs t=gT zs (fW t):=if_pos h
theorem aDa {zs:List Int} {t:Int} (h:fF zs t=false):kP zs t=[]:=if_neg (by rw[h];simp)
theorem aFe (w:World) (u:Value) (zs:List Int) (t:Int) (h:cW w u zs) (hno:fF zs t=false):
  Calls prog 311 #[.agg #[u],iv t] w fun e w'=>e=.returned (.tuple #[.agg #[zn],.bool false])/\Below w.heap.size w w':=by
 have hA:=((Below.refl w.heap.size w).alloc lr_ (.cells #[u] 38)).alloc (by simp) (.cells #[zn] 38);have K:=hd_ (jX _ u zs (h.below hA lr_));have HA:=hd_ hA;clear hA;obtain⟨⟨x,c,hx⟩,_⟩:=h.cases;obtain⟨n,hn⟩:=nm_ zs.length;rw[<-hn]at hx;subst hx;clear h hn
 have cr:((w.alloc (.cells #[.slice x n c] 38)).alloc (.cells #[zn] 38)).cell? ⟨w.heap.size+1,0,none⟩=some (.slice none 0 0):=by rw[World.cell?_alloc_at (hn:=by simp)];simp
 have fr:((w.alloc (.cells #[.slice x n c] 38)).alloc (.cells #[zn] 38)).frozen? ⟨w.heap.size+1,0,none⟩=false:=World.frozen?_alloc_at _ _ _ _ (by simp);cases hok:eE zs with
 |false=>
  rw[hok]at K;clear hok hno;go_enter func311,ntmps311
  go_wp2_with fail
  refine K.out.mono ?_;rintro e w1 ⟨rfl,hb1⟩;have cr1:=cell_later hb1 cr;have fr1:w1.frozen? ⟨w.heap.size+1,0,none⟩=false:=by rw[hb1.frozen (by simp)];exact fr
  go_wp2;exact zAZ
 |true=>
  rw[hok]at K;have ht:t<0\/63<t:=by
   unfold fF at hno;rw[hok]at hno;have:=(yL t).1 (by simpa using hno);omega
  clear hok hno;go_enter func311,ntmps311
  go_wp2_with fail
  refine K.out.mono ?_;rintro e w1 ⟨rfl,hb1⟩;have cr1:=cell_later hb1 cr;have fr1:w1.frozen? ⟨w.heap.size+1,0,none⟩=false:=by rw[hb1.frozen (by simp)];exact fr
  go_wp2_with (go_at_call 66;refine (fY _ _ _ _ ht).mono ?_;rintro e w' ⟨rfl,rfl⟩)
  exact zAZ
theorem aC8 (w:World) (u:Value) (zs:List Int) (t:Int) (h:cW w u zs) (hok:eE zs=true) (t0:0<=t) (t1:t<64):
  Calls prog 311 #[.agg #[u],iv t] w fun e w'=>∃v,e=.returned (.tuple #[.agg #[v],.bool true])/\aZ w' w.heap.size v (gT zs (fW t))/\Below w.heap.size w w':=by
 have hA:=((Below.refl w.heap.size w).alloc lr_ (.cells #[u] 38)).alloc (by simp) (.cells #[zn] 38);have I:=hd_ (h.below hA lr_);have K:=hd_ (jX _ u zs I.out);rw[hok]at K;have HA:=hd_ hA;have hl:=(fS hok).1;have t2:t<=63:=o_;have KM:Hid (∀W,Calls prog 321 #[iv t] W fun e w'=>e=.returned (iv (fW t))/\W=w'):=fun W=>aJb t W
 have KP:Hid (∀W,cW W u zs->Calls prog 225 #[u,iv (fW t)] W fun e w'=>∃v,e=.returned v/\aZ w' W.heap.size v (gT zs (fW t))/\Below W.heap.size W w'):=fun W hW=>aAy W u zs _ hW o_
 clear hA;obtain⟨⟨x,c,hx⟩,_⟩:=h.cases;obtain⟨n,hn⟩:=nm_ zs.length;rw[<-hn]at hx;subst hx;generalize fW t=M at *;clear h hn hok;have cb:((w.alloc (.cells #[.slice x n c] 38)).alloc (.cells #[zn] 38)).cell? ⟨w.heap.size,0,none⟩=some (.slice x n c):=by
  rw[World.cell?_alloc_past (hn:=by simp)];simp
 have cr:((w.alloc (.cells #[.slice x n c] 38)).alloc (.cells #[zn] 38)).cell? ⟨w.heap.size+1,0,none⟩=some (.slice none 0 0):=by rw[World.cell?_alloc_at (hn:=by simp)];simp
 have fr:((w.alloc (.cells #[.slice x n c] 38)).alloc (.cells #[zn] 38)).frozen? ⟨w.heap.size+1,0,none⟩=false:=World.frozen?_alloc_at _ _ _ _ (by simp);go_enter func311,ntmps311
 go_wp2_with fail
 refine K.out.mono ?_;rintro e w1 ⟨rfl,hb1⟩;have cb1:=cell_later hb1 cb;have cr1:=cell_later hb1 cr;have fr1:w1.frozen? ⟨w.heap.size+1,0,none⟩=false:=by rw[hb1.frozen (by simp)];exact fr
 have B1:=hd_ (HA.out.trans (hb1.mono HA.out.size));have I1:=hd_ (I.out.below hb1 lr_);have l1:w.heap.size+1<w1.heap.size:=World.block_lt_of_cell? _ _ cr1;clear hb1 cb cr fr I
 go_wp2_with (go_at_call 66;refine (aJ _ _ _ _ t0 t2).mono ?_;rintro e w' ⟨rfl,rfl⟩)
 have KPd:Hid (Calls prog 225 #[.slice x n c,iv M] w1.drew fun e w'=>∃v,e=.returned v/\aZ w' w1.drew.heap.size v (gT zs M)/\Below w1.drew.heap.size w1.drew w'):=KP.out w1.drew I1.out
 go_region_with (first|(go_at_call 321;refine (KM.out _).mono ?_;rintro e w' ⟨rfl,rfl⟩)|(go_at_call 225;refine KPd.out.mono ?_;rintro e w2 ⟨v,rfl,ho2,hb2⟩;obtain⟨xv,cv,rfl⟩:=ho2.form;have cr2:=cell_later hb2 cr1;have fr2:w2.frozen? ⟨w.heap.size+1,0,none⟩=false:=(hb2.frozen (p:=⟨w.heap.size+1,0,none⟩) l1).trans fr1))
 all_goals
  have ho3:=(ho2.kept (aA w2 ⟨w.heap.size+1,0,none⟩ (.slice xv (gT zs M).length cv)) (fun k e=>by simp at e;simp;omega)).base (B':=w.heap.size) (by simp;omega);have hr:=World.cell?_setCell_same w2 ⟨w.heap.size+1,0,none⟩ (.slice xv (gT zs M).length cv) cr2
  have hb3:Below w.heap.size w (w2.setCell ⟨w.heap.size+1,0,none⟩ (.slice xv (gT zs M).length cv)):=((B1.out.trans (Below.drew (Below.refl _ _))).trans (hb2.mono (by simp;omega))).setCell (by simp) _;have HR:=hd_ hr;have H3:=hd_ ho3;have HB3:=hd_ hb3;clear hr ho3 hb3;go_wp2;have hr:=HR.out
  exact bodyPost_ret (v:=.tuple #[.agg #[.slice xv (gT zs M).length cv],.bool true]) (by simp[results,results311,go_sem,hr]) rfl ⟨_,rfl,H3.out,HB3.out⟩
theorem aFy (w:World) (u:Value) (zs:List Int) (t:Int) (h:cW w u zs):
  Calls prog 311 #[.agg #[u],iv t] w fun e w'=>∃v,e=.returned (.tuple #[.agg #[v],.bool (fF zs t)])/\aZ w' w.heap.size v (kP zs t)/\Below w.heap.size w w':=by
 cases hok:fF zs t with
 |false=>
  rw[aDa hok];exact (aFe w u zs t h hok).mono fun e w' ⟨he,hb⟩=>⟨_,he,aZ.nil _ _,hb⟩
 |true=>
  rw[sF hok];have h':eE zs=true/\jL t=true:=by unfold fF at hok;simpa using hok
  have ht:=(uS t).1 h'.2;exact aC8 w u zs t h h'.1 ht.1 ht.2
end Go.Proofs.YtcblbdpdbggkbaaGreat
namespace Go.Proofs.YtcblbdpdbggkbaaGreat
open _root_.Go.Proofs.Tryz
open Go.RowKit
theorem aDv (x y:Option Addr) (n m c d:Nat) (w:World) (h:n≠m\/(n=0/\m=0)):
  Calls prog 296 #[.slice x n c,.slice y m d] w fun e w'=>e=.returned (.bool (decide (n=m)))/\w=w':=by
 rcases h with h|⟨rfl,rfl⟩
 ·have hn:((n:Int) != (m:Int))=true:=by simp;omega
  go_enter func296,ntmps296;go_wp2;go_ret;exact⟨by simpa using h,rfl⟩
 ·go_enter func296,ntmps296
  exact zBj
theorem aD1 (b o c b' o' c' n:Nat) (za zb:List Int) (w:World) (hn:n<=maxLen) (ha:za.length=n) (hb:zb.length=n)
  (hca:∀i,i<n->w.cell? ⟨b,o+i,none⟩=some (.int .i64 (za.getD i 0))) (hcb:∀i,i<n->w.cell? ⟨b',o'+i,none⟩=some (.int .i64 (zb.getD i 0))):
  Calls prog 296 #[.slice (some ⟨b,o,none⟩) n c,.slice (some ⟨b',o',none⟩) n c'] w fun e w'=>e=.returned (.bool (decide (za=zb)))/\∃m,w'=w.drewN m:=by
 unfold maxLen at hn;have Ha:=hd_ ha;have Hb:=hd_ hb;have Hca:=hd_ hca;have Hcb:=hd_ hcb;clear ha hb hca hcb;go_enter func296,ntmps296;go_wp2;go_loopw [5] (fun i wr=>∃k:Nat,k<=n/\i=.int .i64 k/\(∀j,j<k->za.getD j 0=zb.getD j 0)/\∃m,wr=w.drewN m) (fun i _=>n - (intOf i).toNat)
 case atStart=>exact⟨0,Nat.zero_le _,rfl,fun _ h=>absurd h (Nat.not_lt_zero _),0,rfl⟩
 case round=>
  exact zx
theorem aCq (w:World) (u v:Value) (za zb:List Int) (ha:cW w u za) (hb:cW w v zb) (hl:za.length<=maxLen):
  Calls prog 296 #[u,v] w fun e w'=>e=.returned (.bool (decide (za=zb)))/\∃m,w'=w.drewN m:=by
 obtain⟨⟨x,c,hx⟩,qa⟩:=ha.cases;obtain⟨⟨y,d,hy⟩,qb⟩:=hb.cases
 by_cases h:za.length≠zb.length\/(za.length=0/\zb.length=0)
 ·rw[hx,hy]
  refine (aDv x y _ _ c d w h).mono fun e w' ⟨he,hw⟩=>⟨?_,0,hw.symm⟩
  exact zAL
 ·have e:za.length=zb.length:=o_
  rcases qa with qa|⟨b,o,c,rfl,hca⟩
  ·omega
  rcases qb with qb|⟨b',o',c',rfl,hcb⟩
  ·omega
  rw[<-e]at hcb ⊢;exact aD1 b o c b' o' c' _ za zb w hl rfl e.symm hca hcb
end Go.Proofs.YtcblbdpdbggkbaaGreat
