/-
  What the law FnExactNetList needs of the texts before it, part 6.
-/
import Derived.Deep.DeepCutAuto
import Derived.Deep.RegionWith
import Derived.JoinedOf
import Derived.KernelRfl
import Derived.LoopN
import Derived.Test.YtcblbdpdbggkbaaGreatChecked
import Derived.Test.YtcblbdpdbggkbaaGreatSFnExactNetList5
set_option maxRecDepth 100000
set_option maxHeartbeats 16000000
set_option linter.unusedVariables false
set_option linter.unusedSectionVars false
set_option linter.unusedSimpArgs false
set_option linter.unusedVariables false
namespace Go.Proofs.YtcblbdpdbggkbaaGreat
open Go.RowKit Go.Sort
theorem imSumJoin_noA (w:World) (V1 V2:SV) (a b:Sm) (h1:RdS w V1 a) (h2:RdS w V2 b) (okA:okS a=false):
  Calls Tryz.prog 78 #[.agg #[.slice V1.xr V1.nr V1.cr,.slice V1.xf V1.nf V1.cf,.slice V1.xt V1.nt V1.ct,.int .i64 a.lo,.int .i64 a.al,.slice V1.xk V1.nk V1.ck,.int .i64 a.ka],.agg #[.slice V2.xr V2.nr V2.cr,.slice V2.xf V2.nf V2.cf,.slice V2.xt V2.nt V2.ct,.int .i64 b.lo,.int .i64 b.al,.slice V2.xk V2.nk V2.ck,.int .i64 b.ka]] w fun e w'=>∃U,e=.returned (.tuple #[.agg #[.slice U.xr U.nr U.cr,.slice U.xf U.nf U.cf,.slice U.xt U.nt U.ct,.int .i64 (joinS a b).lo,.int .i64 (joinS a b).al,.slice U.xk U.nk U.ck,.int .i64 (joinS a b).ka],.bool (joinOkS a b)])/\OwnS w' w.heap.size w'.heap.size U (joinS a b)/\Below w.heap.size w w':=by
 have hno:joinOkS a b=false:=by unfold joinOkS;rw[okA];rfl
 have hA:=(((Below.refl w.heap.size w).alloc lr_ (.cells #[.slice V1.xr V1.nr V1.cr,.slice V1.xf V1.nf V1.cf,.slice V1.xt V1.nt V1.ct,.int .i64 a.lo,.int .i64 a.al,.slice V1.xk V1.nk V1.ck,.int .i64 a.ka] 46)).alloc (by simp) (.cells #[.slice V2.xr V2.nr V2.cr,.slice V2.xf V2.nf V2.cf,.slice V2.xt V2.nt V2.ct,.int .i64 b.lo,.int .i64 b.al,.slice V2.xk V2.nk V2.ck,.int .i64 b.ka] 46)).alloc (by simp;omega) (.cells #[.slice none 0 0,.slice none 0 0,.slice none 0 0,.int .i64 0,.int .i64 0,.slice none 0 0,.int .i64 0] 46)
 have XA:=((Box7.new w 46 (.slice V1.xr V1.nr V1.cr) (.slice V1.xf V1.nf V1.cf) (.slice V1.xt V1.nt V1.ct) (.int .i64 a.lo) (.int .i64 a.al) (.slice V1.xk V1.nk V1.ck) (.int .i64 a.ka)).alloc (.cells #[.slice V2.xr V2.nr V2.cr,.slice V2.xf V2.nf V2.cf,.slice V2.xt V2.nt V2.ct,.int .i64 b.lo,.int .i64 b.al,.slice V2.xk V2.nk V2.ck,.int .i64 b.ka] 46)).alloc (.cells #[.slice none 0 0,.slice none 0 0,.slice none 0 0,.int .i64 0,.int .i64 0,.slice none 0 0,.int .i64 0] 46)
 have XB:=(Box7.new (w.alloc (.cells #[.slice V1.xr V1.nr V1.cr,.slice V1.xf V1.nf V1.cf,.slice V1.xt V1.nt V1.ct,.int .i64 a.lo,.int .i64 a.al,.slice V1.xk V1.nk V1.ck,.int .i64 a.ka] 46)) 46 (.slice V2.xr V2.nr V2.cr) (.slice V2.xf V2.nf V2.cf) (.slice V2.xt V2.nt V2.ct) (.int .i64 b.lo) (.int .i64 b.al) (.slice V2.xk V2.nk V2.ck) (.int .i64 b.ka)).alloc (.cells #[.slice none 0 0,.slice none 0 0,.slice none 0 0,.int .i64 0,.int .i64 0,.slice none 0 0,.int .i64 0] 46)
 rw[World.size_alloc]at XB
 have R:=Box7.new ((w.alloc (.cells #[.slice V1.xr V1.nr V1.cr,.slice V1.xf V1.nf V1.cf,.slice V1.xt V1.nt V1.ct,.int .i64 a.lo,.int .i64 a.al,.slice V1.xk V1.nk V1.ck,.int .i64 a.ka] 46)).alloc (.cells #[.slice V2.xr V2.nr V2.cr,.slice V2.xf V2.nf V2.cf,.slice V2.xt V2.nt V2.ct,.int .i64 b.lo,.int .i64 b.al,.slice V2.xk V2.nk V2.ck,.int .i64 b.ka] 46)) 46 (.slice none 0 0) (.slice none 0 0) (.slice none 0 0) (.int .i64 0) (.int .i64 0) (.slice none 0 0) (.int .i64 0)
 rw[World.size_alloc,World.size_alloc]at R;obtain⟨axa0,axa1,axa2,axa3,axa4,axa5,axa6⟩:=(XA).cells
 obtain⟨W0,hW⟩:∃W,W=((w.alloc (.cells #[.slice V1.xr V1.nr V1.cr,.slice V1.xf V1.nf V1.cf,.slice V1.xt V1.nt V1.ct,.int .i64 a.lo,.int .i64 a.al,.slice V1.xk V1.nk V1.ck,.int .i64 a.ka] 46)).alloc (.cells #[.slice V2.xr V2.nr V2.cr,.slice V2.xf V2.nf V2.cf,.slice V2.xt V2.nt V2.ct,.int .i64 b.lo,.int .i64 b.al,.slice V2.xk V2.nk V2.ck,.int .i64 b.ka] 46)).alloc (.cells #[.slice none 0 0,.slice none 0 0,.slice none 0 0,.int .i64 0,.int .i64 0,.slice none 0 0,.int .i64 0] 46):=⟨_,rfl⟩
 rw[<-hW]at hA XA XB R;have B:=hd_ hA;have H1:=hd_ h1;have H2:=hd_ h2;have SZ:Hid (W0.heap.size=w.heap.size+3):=by show _=_;rw[hW];simp
 clear hA h1 h2;have K1:=imSumOk_at W0 V1 a (H1.out.below B.out lr_);rw[okA]at K1;go_enter Tryz.func78,Tryz.ntmps78
 go_wp2_with fail
 rw[<-hW];clear hW axa0 axa1 axa2 axa3 axa4 axa5 axa6;refine (K1).mono ?_;rintro e w1 ⟨rfl,hb⟩;clear K1;have SZ1:=hd_ hb.size;replace XA:=XA.later hb;replace XB:=XB.later hb;replace R:=R.later hb;replace B:=hd_ (B.out.trans (hb.mono B.out.size));clear hb;obtain⟨cr0,cr1,cr2,cr3,cr4,cr5,cr6⟩:=(R).cells;have frr:=R.free
 have fin:=R.set (.slice none 0 0) (.slice none 0 0) (.slice none 0 0) (.int .i64 0) (.int .i64 0) (.slice none 0 0) (.int .i64 0);have OF:=OwnS.box7 (OwnS.none _ _ _ B.out.size lr_) R (.slice none 0 0) (.slice none 0 0) (.slice none 0 0) (.int .i64 0) (.int .i64 0) (.slice none 0 0) (.int .i64 0)
 have BF:=below_set7 B.out (show w.heap.size<=w.heap.size+1+1 by omega) (.slice none 0 0) (.slice none 0 0) (.slice none 0 0) (.int .i64 0) (.int .i64 0) (.slice none 0 0) (.int .i64 0);have SF:=set7_size w1 (w.heap.size+1+1) (.slice none 0 0) (.slice none 0 0) (.slice none 0 0) (.int .i64 0) (.int .i64 0) (.slice none 0 0) (.int .i64 0)
 have HF:=hd_ (And.intro (OwnS.base OF lr_ (Nat.le_of_eq SF.symm) lr_) BF);have HY:=hd_ fin;clear fin OF BF SF;go_wp2;show bodyPost _ _ _ _ _ (set7 w1 (w.heap.size+1+1) (.slice none 0 0) (.slice none 0 0) (.slice none 0 0) (.int .i64 0) (.int .i64 0) (.slice none 0 0) (.int .i64 0))
 obtain⟨d0,d1,d2,d3,d4,d5,d6⟩:=HY.out.cells;generalize set7 w1 (w.heap.size+1+1) (.slice none 0 0) (.slice none 0 0) (.slice none 0 0) (.int .i64 0) (.int .i64 0) (.slice none 0 0) (.int .i64 0)=WF at HF d0 d1 d2 d3 d4 d5 d6 ⊢
 refine bodyPost_ret (v:=.tuple #[.agg #[.slice none 0 0,.slice none 0 0,.slice none 0 0,.int .i64 0,.int .i64 0,.slice none 0 0,.int .i64 0],.bool false]) (by simp[results,Tryz.results78,go_sem,d0,d1,d2,d3,d4,d5,d6]) rfl ?_;rw[joinS_no hno,hno];exact⟨SV.none,rfl,HF.out⟩
theorem imSumJoin_noB (w:World) (V1 V2:SV) (a b:Sm) (h1:RdS w V1 a) (h2:RdS w V2 b) (okA:okS a=true) (okB':okS b=false):
  Calls Tryz.prog 78 #[.agg #[.slice V1.xr V1.nr V1.cr,.slice V1.xf V1.nf V1.cf,.slice V1.xt V1.nt V1.ct,.int .i64 a.lo,.int .i64 a.al,.slice V1.xk V1.nk V1.ck,.int .i64 a.ka],.agg #[.slice V2.xr V2.nr V2.cr,.slice V2.xf V2.nf V2.cf,.slice V2.xt V2.nt V2.ct,.int .i64 b.lo,.int .i64 b.al,.slice V2.xk V2.nk V2.ck,.int .i64 b.ka]] w fun e w'=>∃U,e=.returned (.tuple #[.agg #[.slice U.xr U.nr U.cr,.slice U.xf U.nf U.cf,.slice U.xt U.nt U.ct,.int .i64 (joinS a b).lo,.int .i64 (joinS a b).al,.slice U.xk U.nk U.ck,.int .i64 (joinS a b).ka],.bool (joinOkS a b)])/\OwnS w' w.heap.size w'.heap.size U (joinS a b)/\Below w.heap.size w w':=by
 have hno:joinOkS a b=false:=by unfold joinOkS;rw[okB'];cases okS a<;>rfl
 have hA:=(((Below.refl w.heap.size w).alloc lr_ (.cells #[.slice V1.xr V1.nr V1.cr,.slice V1.xf V1.nf V1.cf,.slice V1.xt V1.nt V1.ct,.int .i64 a.lo,.int .i64 a.al,.slice V1.xk V1.nk V1.ck,.int .i64 a.ka] 46)).alloc (by simp) (.cells #[.slice V2.xr V2.nr V2.cr,.slice V2.xf V2.nf V2.cf,.slice V2.xt V2.nt V2.ct,.int .i64 b.lo,.int .i64 b.al,.slice V2.xk V2.nk V2.ck,.int .i64 b.ka] 46)).alloc (by simp;omega) (.cells #[.slice none 0 0,.slice none 0 0,.slice none 0 0,.int .i64 0,.int .i64 0,.slice none 0 0,.int .i64 0] 46)
 have XA:=((Box7.new w 46 (.slice V1.xr V1.nr V1.cr) (.slice V1.xf V1.nf V1.cf) (.slice V1.xt V1.nt V1.ct) (.int .i64 a.lo) (.int .i64 a.al) (.slice V1.xk V1.nk V1.ck) (.int .i64 a.ka)).alloc (.cells #[.slice V2.xr V2.nr V2.cr,.slice V2.xf V2.nf V2.cf,.slice V2.xt V2.nt V2.ct,.int .i64 b.lo,.int .i64 b.al,.slice V2.xk V2.nk V2.ck,.int .i64 b.ka] 46)).alloc (.cells #[.slice none 0 0,.slice none 0 0,.slice none 0 0,.int .i64 0,.int .i64 0,.slice none 0 0,.int .i64 0] 46)
 have XB:=(Box7.new (w.alloc (.cells #[.slice V1.xr V1.nr V1.cr,.slice V1.xf V1.nf V1.cf,.slice V1.xt V1.nt V1.ct,.int .i64 a.lo,.int .i64 a.al,.slice V1.xk V1.nk V1.ck,.int .i64 a.ka] 46)) 46 (.slice V2.xr V2.nr V2.cr) (.slice V2.xf V2.nf V2.cf) (.slice V2.xt V2.nt V2.ct) (.int .i64 b.lo) (.int .i64 b.al) (.slice V2.xk V2.nk V2.ck) (.int .i64 b.ka)).alloc (.cells #[.slice none 0 0,.slice none 0 0,.slice none 0 0,.int .i64 0,.int .i64 0,.slice none 0 0,.int .i64 0] 46)
 rw[World.size_alloc]at XB
 have R:=Box7.new ((w.alloc (.cells #[.slice V1.xr V1.nr V1.cr,.slice V1.xf V1.nf V1.cf,.slice V1.xt V1.nt V1.ct,.int .i64 a.lo,.int .i64 a.al,.slice V1.xk V1.nk V1.ck,.int .i64 a.ka] 46)).alloc (.cells #[.slice V2.xr V2.nr V2.cr,.slice V2.xf V2.nf V2.cf,.slice V2.xt V2.nt V2.ct,.int .i64 b.lo,.int .i64 b.al,.slice V2.xk V2.nk V2.ck,.int .i64 b.ka] 46)) 46 (.slice none 0 0) (.slice none 0 0) (.slice none 0 0) (.int .i64 0) (.int .i64 0) (.slice none 0 0) (.int .i64 0)
 rw[World.size_alloc,World.size_alloc]at R;obtain⟨axa0,axa1,axa2,axa3,axa4,axa5,axa6⟩:=(XA).cells
 obtain⟨W0,hW⟩:∃W,W=((w.alloc (.cells #[.slice V1.xr V1.nr V1.cr,.slice V1.xf V1.nf V1.cf,.slice V1.xt V1.nt V1.ct,.int .i64 a.lo,.int .i64 a.al,.slice V1.xk V1.nk V1.ck,.int .i64 a.ka] 46)).alloc (.cells #[.slice V2.xr V2.nr V2.cr,.slice V2.xf V2.nf V2.cf,.slice V2.xt V2.nt V2.ct,.int .i64 b.lo,.int .i64 b.al,.slice V2.xk V2.nk V2.ck,.int .i64 b.ka] 46)).alloc (.cells #[.slice none 0 0,.slice none 0 0,.slice none 0 0,.int .i64 0,.int .i64 0,.slice none 0 0,.int .i64 0] 46):=⟨_,rfl⟩
 rw[<-hW]at hA XA XB R;have B:=hd_ hA;have H1:=hd_ h1;have H2:=hd_ h2;have SZ:Hid (W0.heap.size=w.heap.size+3):=by show _=_;rw[hW];simp
 clear hA h1 h2;have K1:=imSumOk_at W0 V1 a (H1.out.below B.out lr_);rw[okA]at K1;go_enter Tryz.func78,Tryz.ntmps78
 go_wp2_with fail
 rw[<-hW];clear hW axa0 axa1 axa2 axa3 axa4 axa5 axa6;refine (K1).mono ?_;rintro e w1 ⟨rfl,hb⟩;clear K1;have SZ1:=hd_ hb.size;replace XA:=XA.later hb;replace XB:=XB.later hb;replace R:=R.later hb;replace B:=hd_ (B.out.trans (hb.mono B.out.size));clear hb;obtain⟨cxb0,cxb1,cxb2,cxb3,cxb4,cxb5,cxb6⟩:=(XB).cells;have frr:=R.free;have K1:=imSumOk_at w1 V2 b (H2.out.below B.out lr_);rw[okB']at K1
 go_wp2_with fail
 refine (K1).mono ?_;rintro e w2 ⟨rfl,hb⟩;clear K1;clear cxb0 cxb1 cxb2 cxb3 cxb4 cxb5 cxb6 frr;replace XA:=XA.later hb;replace XB:=XB.later hb;replace R:=R.later hb;replace B:=hd_ (B.out.trans (hb.mono B.out.size));clear hb;obtain⟨cr0,cr1,cr2,cr3,cr4,cr5,cr6⟩:=(R).cells;have frr:=R.free
 have fin:=R.set (.slice none 0 0) (.slice none 0 0) (.slice none 0 0) (.int .i64 0) (.int .i64 0) (.slice none 0 0) (.int .i64 0);have OF:=OwnS.box7 (OwnS.none _ _ _ B.out.size lr_) R (.slice none 0 0) (.slice none 0 0) (.slice none 0 0) (.int .i64 0) (.int .i64 0) (.slice none 0 0) (.int .i64 0)
 have BF:=below_set7 B.out (show w.heap.size<=w.heap.size+1+1 by omega) (.slice none 0 0) (.slice none 0 0) (.slice none 0 0) (.int .i64 0) (.int .i64 0) (.slice none 0 0) (.int .i64 0);have SF:=set7_size w2 (w.heap.size+1+1) (.slice none 0 0) (.slice none 0 0) (.slice none 0 0) (.int .i64 0) (.int .i64 0) (.slice none 0 0) (.int .i64 0)
 have HF:=hd_ (And.intro (OwnS.base OF lr_ (Nat.le_of_eq SF.symm) lr_) BF);have HY:=hd_ fin;clear fin OF BF SF;go_wp2;show bodyPost _ _ _ _ _ (set7 w2 (w.heap.size+1+1) (.slice none 0 0) (.slice none 0 0) (.slice none 0 0) (.int .i64 0) (.int .i64 0) (.slice none 0 0) (.int .i64 0))
 obtain⟨d0,d1,d2,d3,d4,d5,d6⟩:=HY.out.cells;generalize set7 w2 (w.heap.size+1+1) (.slice none 0 0) (.slice none 0 0) (.slice none 0 0) (.int .i64 0) (.int .i64 0) (.slice none 0 0) (.int .i64 0)=WF at HF d0 d1 d2 d3 d4 d5 d6 ⊢
 refine bodyPost_ret (v:=.tuple #[.agg #[.slice none 0 0,.slice none 0 0,.slice none 0 0,.int .i64 0,.int .i64 0,.slice none 0 0,.int .i64 0],.bool false]) (by simp[results,Tryz.results78,go_sem,d0,d1,d2,d3,d4,d5,d6]) rfl ?_;rw[joinS_no hno,hno];exact⟨SV.none,rfl,HF.out⟩
theorem imSumJoin_much (w:World) (V1 V2:SV) (a b:Sm) (h1:RdS w V1 a) (h2:RdS w V2 b) (okA:okS a=true) (okB':okS b=true) (hs:¬a.al+b.al<=2000):
  Calls Tryz.prog 78 #[.agg #[.slice V1.xr V1.nr V1.cr,.slice V1.xf V1.nf V1.cf,.slice V1.xt V1.nt V1.ct,.int .i64 a.lo,.int .i64 a.al,.slice V1.xk V1.nk V1.ck,.int .i64 a.ka],.agg #[.slice V2.xr V2.nr V2.cr,.slice V2.xf V2.nf V2.cf,.slice V2.xt V2.nt V2.ct,.int .i64 b.lo,.int .i64 b.al,.slice V2.xk V2.nk V2.ck,.int .i64 b.ka]] w fun e w'=>∃U,e=.returned (.tuple #[.agg #[.slice U.xr U.nr U.cr,.slice U.xf U.nf U.cf,.slice U.xt U.nt U.ct,.int .i64 (joinS a b).lo,.int .i64 (joinS a b).al,.slice U.xk U.nk U.ck,.int .i64 (joinS a b).ka],.bool (joinOkS a b)])/\OwnS w' w.heap.size w'.heap.size U (joinS a b)/\Below w.heap.size w w':=by
 have hno:joinOkS a b=false:=by unfold joinOkS;rw[okA,okB',decide_eq_false hs];rfl
 have hj:joinB a.rs b.rs=false:=by
  cases q:joinB a.rs b.rs with
  |false=>rfl
  |true=>have:=(joinB_iff _ _).1 q;have:=((okS_iff _).1 okA).ra;have:=((okS_iff _).1 okB').ra;omega
 have hA:=(((Below.refl w.heap.size w).alloc lr_ (.cells #[.slice V1.xr V1.nr V1.cr,.slice V1.xf V1.nf V1.cf,.slice V1.xt V1.nt V1.ct,.int .i64 a.lo,.int .i64 a.al,.slice V1.xk V1.nk V1.ck,.int .i64 a.ka] 46)).alloc (by simp) (.cells #[.slice V2.xr V2.nr V2.cr,.slice V2.xf V2.nf V2.cf,.slice V2.xt V2.nt V2.ct,.int .i64 b.lo,.int .i64 b.al,.slice V2.xk V2.nk V2.ck,.int .i64 b.ka] 46)).alloc (by simp;omega) (.cells #[.slice none 0 0,.slice none 0 0,.slice none 0 0,.int .i64 0,.int .i64 0,.slice none 0 0,.int .i64 0] 46)
 have XA:=((Box7.new w 46 (.slice V1.xr V1.nr V1.cr) (.slice V1.xf V1.nf V1.cf) (.slice V1.xt V1.nt V1.ct) (.int .i64 a.lo) (.int .i64 a.al) (.slice V1.xk V1.nk V1.ck) (.int .i64 a.ka)).alloc (.cells #[.slice V2.xr V2.nr V2.cr,.slice V2.xf V2.nf V2.cf,.slice V2.xt V2.nt V2.ct,.int .i64 b.lo,.int .i64 b.al,.slice V2.xk V2.nk V2.ck,.int .i64 b.ka] 46)).alloc (.cells #[.slice none 0 0,.slice none 0 0,.slice none 0 0,.int .i64 0,.int .i64 0,.slice none 0 0,.int .i64 0] 46)
 have XB:=(Box7.new (w.alloc (.cells #[.slice V1.xr V1.nr V1.cr,.slice V1.xf V1.nf V1.cf,.slice V1.xt V1.nt V1.ct,.int .i64 a.lo,.int .i64 a.al,.slice V1.xk V1.nk V1.ck,.int .i64 a.ka] 46)) 46 (.slice V2.xr V2.nr V2.cr) (.slice V2.xf V2.nf V2.cf) (.slice V2.xt V2.nt V2.ct) (.int .i64 b.lo) (.int .i64 b.al) (.slice V2.xk V2.nk V2.ck) (.int .i64 b.ka)).alloc (.cells #[.slice none 0 0,.slice none 0 0,.slice none 0 0,.int .i64 0,.int .i64 0,.slice none 0 0,.int .i64 0] 46)
 rw[World.size_alloc]at XB
 have R:=Box7.new ((w.alloc (.cells #[.slice V1.xr V1.nr V1.cr,.slice V1.xf V1.nf V1.cf,.slice V1.xt V1.nt V1.ct,.int .i64 a.lo,.int .i64 a.al,.slice V1.xk V1.nk V1.ck,.int .i64 a.ka] 46)).alloc (.cells #[.slice V2.xr V2.nr V2.cr,.slice V2.xf V2.nf V2.cf,.slice V2.xt V2.nt V2.ct,.int .i64 b.lo,.int .i64 b.al,.slice V2.xk V2.nk V2.ck,.int .i64 b.ka] 46)) 46 (.slice none 0 0) (.slice none 0 0) (.slice none 0 0) (.int .i64 0) (.int .i64 0) (.slice none 0 0) (.int .i64 0)
 rw[World.size_alloc,World.size_alloc]at R;obtain⟨axa0,axa1,axa2,axa3,axa4,axa5,axa6⟩:=(XA).cells
 obtain⟨W0,hW⟩:∃W,W=((w.alloc (.cells #[.slice V1.xr V1.nr V1.cr,.slice V1.xf V1.nf V1.cf,.slice V1.xt V1.nt V1.ct,.int .i64 a.lo,.int .i64 a.al,.slice V1.xk V1.nk V1.ck,.int .i64 a.ka] 46)).alloc (.cells #[.slice V2.xr V2.nr V2.cr,.slice V2.xf V2.nf V2.cf,.slice V2.xt V2.nt V2.ct,.int .i64 b.lo,.int .i64 b.al,.slice V2.xk V2.nk V2.ck,.int .i64 b.ka] 46)).alloc (.cells #[.slice none 0 0,.slice none 0 0,.slice none 0 0,.int .i64 0,.int .i64 0,.slice none 0 0,.int .i64 0] 46):=⟨_,rfl⟩
 rw[<-hW]at hA XA XB R;have B:=hd_ hA;have H1:=hd_ h1;have H2:=hd_ h2;have SZ:Hid (W0.heap.size=w.heap.size+3):=by show _=_;rw[hW];simp
 clear hA h1 h2;have K1:=imSumOk_at W0 V1 a (H1.out.below B.out lr_);rw[okA]at K1;go_enter Tryz.func78,Tryz.ntmps78
 go_wp2_with fail
 rw[<-hW];clear hW axa0 axa1 axa2 axa3 axa4 axa5 axa6;refine (K1).mono ?_;rintro e w1 ⟨rfl,hb⟩;clear K1;have SZ1:=hd_ hb.size;replace XA:=XA.later hb;replace XB:=XB.later hb;replace R:=R.later hb;replace B:=hd_ (B.out.trans (hb.mono B.out.size));clear hb;obtain⟨cxb0,cxb1,cxb2,cxb3,cxb4,cxb5,cxb6⟩:=(XB).cells;have frr:=R.free;have K1:=imSumOk_at w1 V2 b (H2.out.below B.out lr_);rw[okB']at K1
 go_wp2_with fail
 refine (K1).mono ?_;rintro e w2 ⟨rfl,hb⟩;clear K1;have SZ2:=hd_ (Nat.le_trans (Nat.le_of_eq SZ.out.symm) (Nat.le_trans SZ1.out hb.size));clear cxb0 cxb1 cxb2 cxb3 cxb4 cxb5 cxb6 frr;replace XA:=XA.later hb;replace XB:=XB.later hb;replace R:=R.later hb;replace B:=hd_ (B.out.trans (hb.mono B.out.size));clear hb;obtain⟨cxa0,cxa1,cxa2,cxa3,cxa4,cxa5,cxa6⟩:=(XA).cells
 obtain⟨cxb0,cxb1,cxb2,cxb3,cxb4,cxb5,cxb6⟩:=(XB).cells;have hA:=B.out.alloc B.out.size (.cells #[.slice V1.xr V1.nr V1.cr,.slice V1.xf V1.nf V1.cf,.slice V1.xt V1.nt V1.ct,.int .i64 a.lo,.int .i64 a.al,.slice V1.xk V1.nk V1.ck,.int .i64 a.ka] 46)
 have X6:=Box7.new w2 46 (.slice V1.xr V1.nr V1.cr) (.slice V1.xf V1.nf V1.cf) (.slice V1.xt V1.nt V1.ct) (.int .i64 a.lo) (.int .i64 a.al) (.slice V1.xk V1.nk V1.ck) (.int .i64 a.ka);obtain⟨W2,hW⟩:∃W,W=w2.alloc (.cells #[.slice V1.xr V1.nr V1.cr,.slice V1.xf V1.nf V1.cf,.slice V1.xt V1.nt V1.ct,.int .i64 a.lo,.int .i64 a.al,.slice V1.xk V1.nk V1.ck,.int .i64 a.ka] 46):=⟨_,rfl⟩
 have hsz:=B.out.size;have L6:=hd_ hsz;have S6:=hd_ SZ2.out;clear hsz;replace XA:=XA.alloc (.cells #[.slice V1.xr V1.nr V1.cr,.slice V1.xf V1.nf V1.cf,.slice V1.xt V1.nt V1.ct,.int .i64 a.lo,.int .i64 a.al,.slice V1.xk V1.nk V1.ck,.int .i64 a.ka] 46)
 replace XB:=XB.alloc (.cells #[.slice V1.xr V1.nr V1.cr,.slice V1.xf V1.nf V1.cf,.slice V1.xt V1.nt V1.ct,.int .i64 a.lo,.int .i64 a.al,.slice V1.xk V1.nk V1.ck,.int .i64 a.ka] 46);replace R:=R.alloc (.cells #[.slice V1.xr V1.nr V1.cr,.slice V1.xf V1.nf V1.cf,.slice V1.xt V1.nt V1.ct,.int .i64 a.lo,.int .i64 a.al,.slice V1.xk V1.nk V1.ck,.int .i64 a.ka] 46)
 obtain⟨bxb0,bxb1,bxb2,bxb3,bxb4,bxb5,bxb6⟩:=(XB).cells;rw[<-hW]at hA X6 XA XB R;replace B:=hd_ hA;clear hA;have IW:=fun w=>index_way (wayR V2) (wayF V2) (wayT V2 b) (wayK V2 b) w
 unfold wayR wayF wayT wayK at IW;have I1:=fun w=>(IW w).1
 have I2:=fun w=>(IW w).2.1
 have I3:=fun w=>(IW w).2.2.1
 have I4:=fun w=>(IW w).2.2.2
 clear IW;have K1:=waysOf_at W2 V2 b;unfold wayR wayF wayT wayK at K1
 go_wp2_with fail
 rw[<-hW];clear hW bxb0 bxb1 bxb2 bxb3 bxb4 bxb5 bxb6;clear cxa0 cxa1 cxa2 cxa3 cxa4 cxa5 cxa6 cxb0 cxb1 cxb2 cxb3 cxb4 cxb5 cxb6;refine (K1).mono ?_;rintro e w3 ⟨rfl,hb⟩;clear K1;replace XA:=XA.later hb;replace XB:=XB.later hb;replace R:=R.later hb;replace B:=hd_ (B.out.trans (hb.mono B.out.size));replace X6:=X6.later hb;clear hb;obtain⟨cx60,cx61,cx62,cx63,cx64,cx65,cx66⟩:=(X6).cells;clear XB
 go_wp2;refine wp_loop_rounds 5 ?_;rw[rounds_succ];have K1:=imWithR_at w3 V1 a V2.xr V2.nr V2.cr b.rs (H1.out.below B.out lr_) (H2.out.below B.out lr_).r;rw[hj]at K1
 go_wp2_with fail
 refine (K1).mono ?_;rintro e w4 ⟨y,m,d,rfl,ho,hb⟩;clear K1 ho;clear XA;clear X6;clear cx60 cx61 cx62 cx63 cx64 cx65 cx66;replace R:=R.later hb;replace B:=hd_ (B.out.trans (hb.mono B.out.size));clear hb;obtain⟨W4,hW⟩:∃W,W=(w4.alloc (.cells #[.slice y m d,.slice V1.xf V1.nf V1.cf,.slice V1.xt V1.nt V1.ct,.int .i64 a.lo,.int .i64 a.al,.slice V1.xk V1.nk V1.ck,.int .i64 a.ka] 46)):=⟨_,rfl⟩
 obtain⟨ar0,ar1,ar2,ar3,ar4,ar5,ar6⟩:=((R.alloc (.cells #[.slice y m d,.slice V1.xf V1.nf V1.cf,.slice V1.xt V1.nt V1.ct,.int .i64 a.lo,.int .i64 a.al,.slice V1.xk V1.nk V1.ck,.int .i64 a.ka] 46))).cells;have frr:=(R.alloc (.cells #[.slice y m d,.slice V1.xf V1.nf V1.cf,.slice V1.xt V1.nt V1.ct,.int .i64 a.lo,.int .i64 a.al,.slice V1.xk V1.nk V1.ck,.int .i64 a.ka] 46)).free
 replace R:=R.alloc (.cells #[.slice y m d,.slice V1.xf V1.nf V1.cf,.slice V1.xt V1.nt V1.ct,.int .i64 a.lo,.int .i64 a.al,.slice V1.xk V1.nk V1.ck,.int .i64 a.ka] 46);rw[<-hW]at R;replace B:=hd_ ((B.out).alloc (Nat.le_trans B.out.size (by simp)) (.cells #[.slice y m d,.slice V1.xf V1.nf V1.cf,.slice V1.xt V1.nt V1.ct,.int .i64 a.lo,.int .i64 a.al,.slice V1.xk V1.nk V1.ck,.int .i64 a.ka] 46))
 rw[<-hW]at B;have X9:=Box7.new w4 46 (.slice y m d) (.slice V1.xf V1.nf V1.cf) (.slice V1.xt V1.nt V1.ct) (.int .i64 a.lo) (.int .i64 a.al) (.slice V1.xk V1.nk V1.ck) (.int .i64 a.ka);rw[<-hW]at X9;have fin:=R.set (.slice none 0 0) (.slice none 0 0) (.slice none 0 0) (.int .i64 0) (.int .i64 0) (.slice none 0 0) (.int .i64 0)
 have OF:=OwnS.box7 (OwnS.none _ _ _ B.out.size lr_) R (.slice none 0 0) (.slice none 0 0) (.slice none 0 0) (.int .i64 0) (.int .i64 0) (.slice none 0 0) (.int .i64 0);have BF:=below_set7 B.out (show w.heap.size<=w.heap.size+1+1 by omega) (.slice none 0 0) (.slice none 0 0) (.slice none 0 0) (.int .i64 0) (.int .i64 0) (.slice none 0 0) (.int .i64 0)
 have SF:=set7_size W4 (w.heap.size+1+1) (.slice none 0 0) (.slice none 0 0) (.slice none 0 0) (.int .i64 0) (.int .i64 0) (.slice none 0 0) (.int .i64 0);have HF:=hd_ (And.intro (OwnS.base OF lr_ (Nat.le_of_eq SF.symm) lr_) BF);have HY:=hd_ fin;clear fin OF BF SF;go_wp2;rw[<-hW];clear hW ar0 ar1 ar2 ar3 ar4 ar5 ar6 frr
 show bodyPost _ _ _ _ _ (set7 W4 (w.heap.size+1+1) (.slice none 0 0) (.slice none 0 0) (.slice none 0 0) (.int .i64 0) (.int .i64 0) (.slice none 0 0) (.int .i64 0))
 obtain⟨d0,d1,d2,d3,d4,d5,d6⟩:=HY.out.cells;generalize set7 W4 (w.heap.size+1+1) (.slice none 0 0) (.slice none 0 0) (.slice none 0 0) (.int .i64 0) (.int .i64 0) (.slice none 0 0) (.int .i64 0)=WF at HF d0 d1 d2 d3 d4 d5 d6 ⊢
 refine bodyPost_ret (v:=.tuple #[.agg #[.slice none 0 0,.slice none 0 0,.slice none 0 0,.int .i64 0,.int .i64 0,.slice none 0 0,.int .i64 0],.bool false]) (by simp[results,Tryz.results78,go_sem,d0,d1,d2,d3,d4,d5,d6]) rfl ?_;rw[joinS_no hno,hno];exact⟨SV.none,rfl,HF.out⟩
theorem imSumJoin_yes (w:World) (V1 V2:SV) (a b:Sm) (h1:RdS w V1 a) (h2:RdS w V2 b) (hok:joinOkS a b=true):
  Calls Tryz.prog 78 #[.agg #[.slice V1.xr V1.nr V1.cr,.slice V1.xf V1.nf V1.cf,.slice V1.xt V1.nt V1.ct,.int .i64 a.lo,.int .i64 a.al,.slice V1.xk V1.nk V1.ck,.int .i64 a.ka],.agg #[.slice V2.xr V2.nr V2.cr,.slice V2.xf V2.nf V2.cf,.slice V2.xt V2.nt V2.ct,.int .i64 b.lo,.int .i64 b.al,.slice V2.xk V2.nk V2.ck,.int .i64 b.ka]] w fun e w'=>∃U,e=.returned (.tuple #[.agg #[.slice U.xr U.nr U.cr,.slice U.xf U.nf U.cf,.slice U.xt U.nt U.ct,.int .i64 (joinS a b).lo,.int .i64 (joinS a b).al,.slice U.xk U.nk U.ck,.int .i64 (joinS a b).ka],.bool (joinOkS a b)])/\OwnS w' w.heap.size w'.heap.size U (joinS a b)/\Below w.heap.size w w':=by
 have okA:=(okS_iff _).2 (joinAll hok).oka;have okB':=(okS_iff _).2 (joinAll hok).okb;have jr:=(joinAll hok).r;have jf:=(joinAll hok).f;have jt:=(joinAll hok).t;have jk:=(joinAll hok).k;have JA:=hd_ (joinA_yes jr);have HOK:=hd_ hok;clear hok
 have hA:=(((Below.refl w.heap.size w).alloc lr_ (.cells #[.slice V1.xr V1.nr V1.cr,.slice V1.xf V1.nf V1.cf,.slice V1.xt V1.nt V1.ct,.int .i64 a.lo,.int .i64 a.al,.slice V1.xk V1.nk V1.ck,.int .i64 a.ka] 46)).alloc (by simp) (.cells #[.slice V2.xr V2.nr V2.cr,.slice V2.xf V2.nf V2.cf,.slice V2.xt V2.nt V2.ct,.int .i64 b.lo,.int .i64 b.al,.slice V2.xk V2.nk V2.ck,.int .i64 b.ka] 46)).alloc (by simp;omega) (.cells #[.slice none 0 0,.slice none 0 0,.slice none 0 0,.int .i64 0,.int .i64 0,.slice none 0 0,.int .i64 0] 46)
 have XA:=((Box7.new w 46 (.slice V1.xr V1.nr V1.cr) (.slice V1.xf V1.nf V1.cf) (.slice V1.xt V1.nt V1.ct) (.int .i64 a.lo) (.int .i64 a.al) (.slice V1.xk V1.nk V1.ck) (.int .i64 a.ka)).alloc (.cells #[.slice V2.xr V2.nr V2.cr,.slice V2.xf V2.nf V2.cf,.slice V2.xt V2.nt V2.ct,.int .i64 b.lo,.int .i64 b.al,.slice V2.xk V2.nk V2.ck,.int .i64 b.ka] 46)).alloc (.cells #[.slice none 0 0,.slice none 0 0,.slice none 0 0,.int .i64 0,.int .i64 0,.slice none 0 0,.int .i64 0] 46)
 have XB:=(Box7.new (w.alloc (.cells #[.slice V1.xr V1.nr V1.cr,.slice V1.xf V1.nf V1.cf,.slice V1.xt V1.nt V1.ct,.int .i64 a.lo,.int .i64 a.al,.slice V1.xk V1.nk V1.ck,.int .i64 a.ka] 46)) 46 (.slice V2.xr V2.nr V2.cr) (.slice V2.xf V2.nf V2.cf) (.slice V2.xt V2.nt V2.ct) (.int .i64 b.lo) (.int .i64 b.al) (.slice V2.xk V2.nk V2.ck) (.int .i64 b.ka)).alloc (.cells #[.slice none 0 0,.slice none 0 0,.slice none 0 0,.int .i64 0,.int .i64 0,.slice none 0 0,.int .i64 0] 46)
 rw[World.size_alloc]at XB
 have R:=Box7.new ((w.alloc (.cells #[.slice V1.xr V1.nr V1.cr,.slice V1.xf V1.nf V1.cf,.slice V1.xt V1.nt V1.ct,.int .i64 a.lo,.int .i64 a.al,.slice V1.xk V1.nk V1.ck,.int .i64 a.ka] 46)).alloc (.cells #[.slice V2.xr V2.nr V2.cr,.slice V2.xf V2.nf V2.cf,.slice V2.xt V2.nt V2.ct,.int .i64 b.lo,.int .i64 b.al,.slice V2.xk V2.nk V2.ck,.int .i64 b.ka] 46)) 46 (.slice none 0 0) (.slice none 0 0) (.slice none 0 0) (.int .i64 0) (.int .i64 0) (.slice none 0 0) (.int .i64 0)
 rw[World.size_alloc,World.size_alloc]at R;obtain⟨axa0,axa1,axa2,axa3,axa4,axa5,axa6⟩:=(XA).cells
 obtain⟨W0,hW⟩:∃W,W=((w.alloc (.cells #[.slice V1.xr V1.nr V1.cr,.slice V1.xf V1.nf V1.cf,.slice V1.xt V1.nt V1.ct,.int .i64 a.lo,.int .i64 a.al,.slice V1.xk V1.nk V1.ck,.int .i64 a.ka] 46)).alloc (.cells #[.slice V2.xr V2.nr V2.cr,.slice V2.xf V2.nf V2.cf,.slice V2.xt V2.nt V2.ct,.int .i64 b.lo,.int .i64 b.al,.slice V2.xk V2.nk V2.ck,.int .i64 b.ka] 46)).alloc (.cells #[.slice none 0 0,.slice none 0 0,.slice none 0 0,.int .i64 0,.int .i64 0,.slice none 0 0,.int .i64 0] 46):=⟨_,rfl⟩
 rw[<-hW]at hA XA XB R;have B:=hd_ hA;have H1:=hd_ h1;have H2:=hd_ h2;have SZ:Hid (W0.heap.size=w.heap.size+3):=by show _=_;rw[hW];simp
 clear hA h1 h2;have K1:=imSumOk_at W0 V1 a (H1.out.below B.out lr_);rw[okA]at K1;go_enter Tryz.func78,Tryz.ntmps78
 go_wp2_with fail
 rw[<-hW];clear hW axa0 axa1 axa2 axa3 axa4 axa5 axa6;refine (K1).mono ?_;rintro e w1 ⟨rfl,hb⟩;clear K1;have SZ1:=hd_ hb.size;replace XA:=XA.later hb;replace XB:=XB.later hb;replace R:=R.later hb;replace B:=hd_ (B.out.trans (hb.mono B.out.size));clear hb;obtain⟨cxb0,cxb1,cxb2,cxb3,cxb4,cxb5,cxb6⟩:=(XB).cells;have frr:=R.free;have K1:=imSumOk_at w1 V2 b (H2.out.below B.out lr_);rw[okB']at K1
 go_wp2_with fail
 refine (K1).mono ?_;rintro e w2 ⟨rfl,hb⟩;clear K1;have SZ2:=hd_ (Nat.le_trans (Nat.le_of_eq SZ.out.symm) (Nat.le_trans SZ1.out hb.size));clear cxb0 cxb1 cxb2 cxb3 cxb4 cxb5 cxb6 frr;replace XA:=XA.later hb;replace XB:=XB.later hb;replace R:=R.later hb;replace B:=hd_ (B.out.trans (hb.mono B.out.size));clear hb;obtain⟨cxa0,cxa1,cxa2,cxa3,cxa4,cxa5,cxa6⟩:=(XA).cells
 obtain⟨cxb0,cxb1,cxb2,cxb3,cxb4,cxb5,cxb6⟩:=(XB).cells;have hA:=B.out.alloc B.out.size (.cells #[.slice V1.xr V1.nr V1.cr,.slice V1.xf V1.nf V1.cf,.slice V1.xt V1.nt V1.ct,.int .i64 a.lo,.int .i64 a.al,.slice V1.xk V1.nk V1.ck,.int .i64 a.ka] 46)
 have X6:=Box7.new w2 46 (.slice V1.xr V1.nr V1.cr) (.slice V1.xf V1.nf V1.cf) (.slice V1.xt V1.nt V1.ct) (.int .i64 a.lo) (.int .i64 a.al) (.slice V1.xk V1.nk V1.ck) (.int .i64 a.ka);obtain⟨W2,hW⟩:∃W,W=w2.alloc (.cells #[.slice V1.xr V1.nr V1.cr,.slice V1.xf V1.nf V1.cf,.slice V1.xt V1.nt V1.ct,.int .i64 a.lo,.int .i64 a.al,.slice V1.xk V1.nk V1.ck,.int .i64 a.ka] 46):=⟨_,rfl⟩
 have hsz:=B.out.size;have L6:=hd_ hsz;have S6:=hd_ SZ2.out;clear hsz;replace XA:=XA.alloc (.cells #[.slice V1.xr V1.nr V1.cr,.slice V1.xf V1.nf V1.cf,.slice V1.xt V1.nt V1.ct,.int .i64 a.lo,.int .i64 a.al,.slice V1.xk V1.nk V1.ck,.int .i64 a.ka] 46)
 replace XB:=XB.alloc (.cells #[.slice V1.xr V1.nr V1.cr,.slice V1.xf V1.nf V1.cf,.slice V1.xt V1.nt V1.ct,.int .i64 a.lo,.int .i64 a.al,.slice V1.xk V1.nk V1.ck,.int .i64 a.ka] 46);replace R:=R.alloc (.cells #[.slice V1.xr V1.nr V1.cr,.slice V1.xf V1.nf V1.cf,.slice V1.xt V1.nt V1.ct,.int .i64 a.lo,.int .i64 a.al,.slice V1.xk V1.nk V1.ck,.int .i64 a.ka] 46)
 obtain⟨bxb0,bxb1,bxb2,bxb3,bxb4,bxb5,bxb6⟩:=(XB).cells;rw[<-hW]at hA X6 XA XB R;replace B:=hd_ hA;clear hA;have IW:=fun w=>index_way (wayR V2) (wayF V2) (wayT V2 b) (wayK V2 b) w
 unfold wayR wayF wayT wayK at IW;have I1:=fun w=>(IW w).1
 have I2:=fun w=>(IW w).2.1
 have I3:=fun w=>(IW w).2.2.1
 have I4:=fun w=>(IW w).2.2.2
 clear IW;have K1:=waysOf_at W2 V2 b;unfold wayR wayF wayT wayK at K1
 go_wp2_with fail
 rw[<-hW];clear hW bxb0 bxb1 bxb2 bxb3 bxb4 bxb5 bxb6;clear cxa0 cxa1 cxa2 cxa3 cxa4 cxa5 cxa6 cxb0 cxb1 cxb2 cxb3 cxb4 cxb5 cxb6;refine (K1).mono ?_;rintro e w3 ⟨rfl,hb⟩;clear K1;replace XA:=XA.later hb;replace XB:=XB.later hb;replace R:=R.later hb;replace B:=hd_ (B.out.trans (hb.mono B.out.size));replace X6:=X6.later hb;clear hb;obtain⟨cx60,cx61,cx62,cx63,cx64,cx65,cx66⟩:=(X6).cells;clear XB
 go_wp2;refine wp_loop_rounds 5 ?_;rw[rounds_succ];clear XA;have Q:=H1.out.below B.out lr_;have K1:=imWithR_at w3 ⟨V1.xr,V1.nr,V1.cr,V1.xf,V1.nf,V1.cf,V1.xt,V1.nt,V1.ct,V1.xk,V1.nk,V1.ck⟩ ⟨a.rs,a.zs,a.ps,a.lo,a.al,a.ks,a.ka⟩ V2.xr V2.nr V2.cr b.rs ⟨Q.r,Q.f,Q.t,Q.k⟩ (H2.out.below B.out lr_).r;simp only at K1;rw[jr]at K1;clear Q
 go_wp2_with fail
 refine (K1).mono ?_;rintro e w4 ⟨y0,m0,d0',rfl,ho,hb⟩;clear K1;have M0:=hd_ B.out.size;have N0:=hd_ hb.size;have q6:=S6.out;clear cx60 cx61 cx62 cx63 cx64 cx65 cx66;replace R:=R.later hb;replace B:=hd_ (B.out.trans (hb.mono B.out.size));replace X6:=X6.later hb;have O0:=hd_ (ho);clear hb
 obtain⟨W4,hW⟩:∃W,W=(set7 (w4.alloc (.cells #[.slice y0 m0 d0',.slice V1.xf V1.nf V1.cf,.slice V1.xt V1.nt V1.ct,.int .i64 (a.lo),.int .i64 (a.al),.slice V1.xk V1.nk V1.ck,.int .i64 (a.ka)] 46)) w2.heap.size (.slice y0 m0 d0') (.slice V1.xf V1.nf V1.cf) (.slice V1.xt V1.nt V1.ct) (.int .i64 (a.lo)) (.int .i64 (a.al)) (.slice V1.xk V1.nk V1.ck) (.int .i64 (a.ka))):=⟨_,rfl⟩
 obtain⟨ax60,ax61,ax62,ax63,ax64,ax65,ax66⟩:=((X6.alloc (.cells #[.slice y0 m0 d0',.slice V1.xf V1.nf V1.cf,.slice V1.xt V1.nt V1.ct,.int .i64 (a.lo),.int .i64 (a.al),.slice V1.xk V1.nk V1.ck,.int .i64 (a.ka)] 46))).cells
 have frx6:=(X6.alloc (.cells #[.slice y0 m0 d0',.slice V1.xf V1.nf V1.cf,.slice V1.xt V1.nt V1.ct,.int .i64 (a.lo),.int .i64 (a.al),.slice V1.xk V1.nk V1.ck,.int .i64 (a.ka)] 46)).free;replace R:=R.alloc (.cells #[.slice y0 m0 d0',.slice V1.xf V1.nf V1.cf,.slice V1.xt V1.nt V1.ct,.int .i64 (a.lo),.int .i64 (a.al),.slice V1.xk V1.nk V1.ck,.int .i64 (a.ka)] 46)
 replace B:=hd_ ((B.out).alloc (Nat.le_trans B.out.size (by simp)) (.cells #[.slice y0 m0 d0',.slice V1.xf V1.nf V1.cf,.slice V1.xt V1.nt V1.ct,.int .i64 (a.lo),.int .i64 (a.al),.slice V1.xk V1.nk V1.ck,.int .i64 (a.ka)] 46))
 replace X6:=X6.alloc (.cells #[.slice y0 m0 d0',.slice V1.xf V1.nf V1.cf,.slice V1.xt V1.nt V1.ct,.int .i64 (a.lo),.int .i64 (a.al),.slice V1.xk V1.nk V1.ck,.int .i64 (a.ka)] 46);replace O0:=hd_ (O0.out.alloc (.cells #[.slice y0 m0 d0',.slice V1.xf V1.nf V1.cf,.slice V1.xt V1.nt V1.ct,.int .i64 (a.lo),.int .i64 (a.al),.slice V1.xk V1.nk V1.ck,.int .i64 (a.ka)] 46))
 replace R:=R.kept (set7_grown _ w2.heap.size (.slice y0 m0 d0') (.slice V1.xf V1.nf V1.cf) (.slice V1.xt V1.nt V1.ct) (.int .i64 (a.lo)) (.int .i64 (a.al)) (.slice V1.xk V1.nk V1.ck) (.int .i64 (a.ka))) (by simp;omega)
 replace B:=hd_ (below_set7 B.out L6.out (.slice y0 m0 d0') (.slice V1.xf V1.nf V1.cf) (.slice V1.xt V1.nt V1.ct) (.int .i64 (a.lo)) (.int .i64 (a.al)) (.slice V1.xk V1.nk V1.ck) (.int .i64 (a.ka)));replace O0:=hd_ (O0.out.box7 X6 (.slice y0 m0 d0') (.slice V1.xf V1.nf V1.cf) (.slice V1.xt V1.nt V1.ct) (.int .i64 (a.lo)) (.int .i64 (a.al)) (.slice V1.xk V1.nk V1.ck) (.int .i64 (a.ka)))
 replace X6:=X6.set (.slice y0 m0 d0') (.slice V1.xf V1.nf V1.cf) (.slice V1.xt V1.nt V1.ct) (.int .i64 (a.lo)) (.int .i64 (a.al)) (.slice V1.xk V1.nk V1.ck) (.int .i64 (a.ka));rw[<-hW]at R;rw[<-hW]at B;rw[<-hW]at X6;rw[<-hW]at O0;unfold set7 at hW
 go_wp2_with fail
 rw[<-hW];clear hW ax60 ax61 ax62 ax63 ax64 ax65 ax66 frx6;clear ho q6;rw[rounds_succ];obtain⟨cx60,cx61,cx62,cx63,cx64,cx65,cx66⟩:=(X6).cells;have Q:=H1.out.below B.out lr_;have K1:=imWithF_at W4 ⟨y0,m0,d0',V1.xf,V1.nf,V1.cf,V1.xt,V1.nt,V1.ct,V1.xk,V1.nk,V1.ck⟩ ⟨joinA a.rs b.rs,a.zs,a.ps,a.lo,a.al,a.ks,a.ka⟩ V2.xf V2.nf V2.cf b.zs ⟨O0.out.rd,Q.f,Q.t,Q.k⟩ (H2.out.below B.out lr_).f;simp only at K1
 rw[jf]at K1;clear Q
 go_wp2_with fail
 refine (K1).mono ?_;rintro e w5 ⟨y1,m1,d1',rfl,ho,hb⟩;clear K1;have M1:=hd_ B.out.size;have N1:=hd_ hb.size;have q6:=S6.out;have T1:=hd_ (show w4.heap.size<=W4.heap.size from Nat.le_trans (O0.out.top) lr_);clear cx60 cx61 cx62 cx63 cx64 cx65 cx66;replace R:=R.later hb;replace B:=hd_ (B.out.trans (hb.mono B.out.size));replace X6:=X6.later hb;replace O0:=hd_ (O0.out.below hb);have O1:=hd_ (ho)
 clear hb;obtain⟨W5,hW⟩:∃W,W=(set7 (w5.alloc (.cells #[.slice y0 m0 d0',.slice y1 m1 d1',.slice V1.xt V1.nt V1.ct,.int .i64 (a.lo),.int .i64 (a.al),.slice V1.xk V1.nk V1.ck,.int .i64 (a.ka)] 46)) w2.heap.size (.slice y0 m0 d0') (.slice y1 m1 d1') (.slice V1.xt V1.nt V1.ct) (.int .i64 (a.lo)) (.int .i64 (a.al)) (.slice V1.xk V1.nk V1.ck) (.int .i64 (a.ka))):=⟨_,rfl⟩
 obtain⟨ax60,ax61,ax62,ax63,ax64,ax65,ax66⟩:=((X6.alloc (.cells #[.slice y0 m0 d0',.slice y1 m1 d1',.slice V1.xt V1.nt V1.ct,.int .i64 (a.lo),.int .i64 (a.al),.slice V1.xk V1.nk V1.ck,.int .i64 (a.ka)] 46))).cells;have frx6:=(X6.alloc (.cells #[.slice y0 m0 d0',.slice y1 m1 d1',.slice V1.xt V1.nt V1.ct,.int .i64 (a.lo),.int .i64 (a.al),.slice V1.xk V1.nk V1.ck,.int .i64 (a.ka)] 46)).free
 replace R:=R.alloc (.cells #[.slice y0 m0 d0',.slice y1 m1 d1',.slice V1.xt V1.nt V1.ct,.int .i64 (a.lo),.int .i64 (a.al),.slice V1.xk V1.nk V1.ck,.int .i64 (a.ka)] 46);replace B:=hd_ ((B.out).alloc (Nat.le_trans B.out.size (by simp)) (.cells #[.slice y0 m0 d0',.slice y1 m1 d1',.slice V1.xt V1.nt V1.ct,.int .i64 (a.lo),.int .i64 (a.al),.slice V1.xk V1.nk V1.ck,.int .i64 (a.ka)] 46))
 replace X6:=X6.alloc (.cells #[.slice y0 m0 d0',.slice y1 m1 d1',.slice V1.xt V1.nt V1.ct,.int .i64 (a.lo),.int .i64 (a.al),.slice V1.xk V1.nk V1.ck,.int .i64 (a.ka)] 46);replace O0:=hd_ (O0.out.alloc (.cells #[.slice y0 m0 d0',.slice y1 m1 d1',.slice V1.xt V1.nt V1.ct,.int .i64 (a.lo),.int .i64 (a.al),.slice V1.xk V1.nk V1.ck,.int .i64 (a.ka)] 46))
 replace O1:=hd_ (O1.out.alloc (.cells #[.slice y0 m0 d0',.slice y1 m1 d1',.slice V1.xt V1.nt V1.ct,.int .i64 (a.lo),.int .i64 (a.al),.slice V1.xk V1.nk V1.ck,.int .i64 (a.ka)] 46));replace R:=R.kept (set7_grown _ w2.heap.size (.slice y0 m0 d0') (.slice y1 m1 d1') (.slice V1.xt V1.nt V1.ct) (.int .i64 (a.lo)) (.int .i64 (a.al)) (.slice V1.xk V1.nk V1.ck) (.int .i64 (a.ka))) (by simp;omega)
 replace B:=hd_ (below_set7 B.out L6.out (.slice y0 m0 d0') (.slice y1 m1 d1') (.slice V1.xt V1.nt V1.ct) (.int .i64 (a.lo)) (.int .i64 (a.al)) (.slice V1.xk V1.nk V1.ck) (.int .i64 (a.ka)));replace O0:=hd_ (O0.out.box7 X6 (.slice y0 m0 d0') (.slice y1 m1 d1') (.slice V1.xt V1.nt V1.ct) (.int .i64 (a.lo)) (.int .i64 (a.al)) (.slice V1.xk V1.nk V1.ck) (.int .i64 (a.ka)))
 replace O1:=hd_ (O1.out.box7 X6 (.slice y0 m0 d0') (.slice y1 m1 d1') (.slice V1.xt V1.nt V1.ct) (.int .i64 (a.lo)) (.int .i64 (a.al)) (.slice V1.xk V1.nk V1.ck) (.int .i64 (a.ka)));replace X6:=X6.set (.slice y0 m0 d0') (.slice y1 m1 d1') (.slice V1.xt V1.nt V1.ct) (.int .i64 (a.lo)) (.int .i64 (a.al)) (.slice V1.xk V1.nk V1.ck) (.int .i64 (a.ka));rw[<-hW]at R;rw[<-hW]at B;rw[<-hW]at X6
 rw[<-hW]at O0;rw[<-hW]at O1;unfold set7 at hW
 go_wp2_with fail
 rw[<-hW];clear hW ax60 ax61 ax62 ax63 ax64 ax65 ax66 frx6;clear ho q6;rw[rounds_succ];obtain⟨cx60,cx61,cx62,cx63,cx64,cx65,cx66⟩:=(X6).cells;have Q:=H1.out.below B.out lr_
 have K1:=imWithT_at W5 ⟨y0,m0,d0',y1,m1,d1',V1.xt,V1.nt,V1.ct,V1.xk,V1.nk,V1.ck⟩ ⟨joinA a.rs b.rs,joinF a.zs b.zs,a.ps,a.lo,a.al,a.ks,a.ka⟩ V2.xt V2.nt V2.ct b.ps b.lo b.al ⟨O0.out.rd,O1.out.rd,Q.t,Q.k⟩ (H2.out.below B.out lr_).t;simp only at K1;rw[jt]at K1;clear Q;generalize hgjT:T.joinT a.ps a.lo a.al b.ps b.lo b.al=jT at K1;have HGjT:=hd_ hgjT;clear hgjT
 go_wp2_with fail
 refine (K1).mono ?_;rintro e w6 ⟨y2,m2,d2',rfl,ho,hb⟩;clear K1;have M2:=hd_ B.out.size;have N2:=hd_ hb.size;have q6:=S6.out;clear cx60 cx61 cx62 cx63 cx64 cx65 cx66;replace R:=R.later hb;replace B:=hd_ (B.out.trans (hb.mono B.out.size));replace X6:=X6.later hb;replace O0:=hd_ (O0.out.below hb);replace O1:=hd_ (O1.out.below hb);have O2:=hd_ (ho);clear hb
 obtain⟨W6,hW⟩:∃W,W=(set7 (w6.alloc (.cells #[.slice y0 m0 d0',.slice y1 m1 d1',.slice y2 m2 d2',.int .i64 (jT.2.1),.int .i64 (jT.2.2),.slice V1.xk V1.nk V1.ck,.int .i64 (a.ka)] 46)) w2.heap.size (.slice y0 m0 d0') (.slice y1 m1 d1') (.slice y2 m2 d2') (.int .i64 (jT.2.1)) (.int .i64 (jT.2.2)) (.slice V1.xk V1.nk V1.ck) (.int .i64 (a.ka))):=⟨_,rfl⟩
 obtain⟨ax60,ax61,ax62,ax63,ax64,ax65,ax66⟩:=((X6.alloc (.cells #[.slice y0 m0 d0',.slice y1 m1 d1',.slice y2 m2 d2',.int .i64 (jT.2.1),.int .i64 (jT.2.2),.slice V1.xk V1.nk V1.ck,.int .i64 (a.ka)] 46))).cells;have frx6:=(X6.alloc (.cells #[.slice y0 m0 d0',.slice y1 m1 d1',.slice y2 m2 d2',.int .i64 (jT.2.1),.int .i64 (jT.2.2),.slice V1.xk V1.nk V1.ck,.int .i64 (a.ka)] 46)).free
 replace R:=R.alloc (.cells #[.slice y0 m0 d0',.slice y1 m1 d1',.slice y2 m2 d2',.int .i64 (jT.2.1),.int .i64 (jT.2.2),.slice V1.xk V1.nk V1.ck,.int .i64 (a.ka)] 46);replace B:=hd_ ((B.out).alloc (Nat.le_trans B.out.size (by simp)) (.cells #[.slice y0 m0 d0',.slice y1 m1 d1',.slice y2 m2 d2',.int .i64 (jT.2.1),.int .i64 (jT.2.2),.slice V1.xk V1.nk V1.ck,.int .i64 (a.ka)] 46))
 replace X6:=X6.alloc (.cells #[.slice y0 m0 d0',.slice y1 m1 d1',.slice y2 m2 d2',.int .i64 (jT.2.1),.int .i64 (jT.2.2),.slice V1.xk V1.nk V1.ck,.int .i64 (a.ka)] 46);replace O0:=hd_ (O0.out.alloc (.cells #[.slice y0 m0 d0',.slice y1 m1 d1',.slice y2 m2 d2',.int .i64 (jT.2.1),.int .i64 (jT.2.2),.slice V1.xk V1.nk V1.ck,.int .i64 (a.ka)] 46))
 replace O1:=hd_ (O1.out.alloc (.cells #[.slice y0 m0 d0',.slice y1 m1 d1',.slice y2 m2 d2',.int .i64 (jT.2.1),.int .i64 (jT.2.2),.slice V1.xk V1.nk V1.ck,.int .i64 (a.ka)] 46));replace O2:=hd_ (O2.out.alloc (.cells #[.slice y0 m0 d0',.slice y1 m1 d1',.slice y2 m2 d2',.int .i64 (jT.2.1),.int .i64 (jT.2.2),.slice V1.xk V1.nk V1.ck,.int .i64 (a.ka)] 46))
 replace R:=R.kept (set7_grown _ w2.heap.size (.slice y0 m0 d0') (.slice y1 m1 d1') (.slice y2 m2 d2') (.int .i64 (jT.2.1)) (.int .i64 (jT.2.2)) (.slice V1.xk V1.nk V1.ck) (.int .i64 (a.ka))) (by simp;omega);replace B:=hd_ (below_set7 B.out L6.out (.slice y0 m0 d0') (.slice y1 m1 d1') (.slice y2 m2 d2') (.int .i64 (jT.2.1)) (.int .i64 (jT.2.2)) (.slice V1.xk V1.nk V1.ck) (.int .i64 (a.ka)))
 replace O0:=hd_ (O0.out.box7 X6 (.slice y0 m0 d0') (.slice y1 m1 d1') (.slice y2 m2 d2') (.int .i64 (jT.2.1)) (.int .i64 (jT.2.2)) (.slice V1.xk V1.nk V1.ck) (.int .i64 (a.ka)));replace O1:=hd_ (O1.out.box7 X6 (.slice y0 m0 d0') (.slice y1 m1 d1') (.slice y2 m2 d2') (.int .i64 (jT.2.1)) (.int .i64 (jT.2.2)) (.slice V1.xk V1.nk V1.ck) (.int .i64 (a.ka)))
 replace O2:=hd_ (O2.out.box7 X6 (.slice y0 m0 d0') (.slice y1 m1 d1') (.slice y2 m2 d2') (.int .i64 (jT.2.1)) (.int .i64 (jT.2.2)) (.slice V1.xk V1.nk V1.ck) (.int .i64 (a.ka)));replace X6:=X6.set (.slice y0 m0 d0') (.slice y1 m1 d1') (.slice y2 m2 d2') (.int .i64 (jT.2.1)) (.int .i64 (jT.2.2)) (.slice V1.xk V1.nk V1.ck) (.int .i64 (a.ka));rw[<-hW]at R;rw[<-hW]at B;rw[<-hW]at X6;rw[<-hW]at O0
 rw[<-hW]at O1;rw[<-hW]at O2;unfold set7 at hW
 go_wp2_with fail
 rw[<-hW];clear hW ax60 ax61 ax62 ax63 ax64 ax65 ax66 frx6;clear ho q6;rw[rounds_succ];obtain⟨cx60,cx61,cx62,cx63,cx64,cx65,cx66⟩:=(X6).cells;have Q:=H1.out.below B.out lr_;have K1:=imWithK_at W6 ⟨y0,m0,d0',y1,m1,d1',y2,m2,d2',V1.xk,V1.nk,V1.ck⟩ ⟨joinA a.rs b.rs,joinF a.zs b.zs,jT.1,jT.2.1,jT.2.2,a.ks,a.ka⟩ V2.xk V2.nk V2.ck b.ks b.ka ⟨O0.out.rd,O1.out.rd,O2.out.rd,Q.k⟩ (H2.out.below B.out lr_).k
 simp only at K1;rw[jk]at K1;clear Q;generalize hgjK:K.joinK a.ks a.ka b.ks b.ka=jK at K1;have HGjK:=hd_ hgjK;clear hgjK
 go_wp2_with fail
 refine (K1).mono ?_;rintro e w7 ⟨y3,m3,d3',rfl,ho,hb⟩;clear K1;have M3:=hd_ B.out.size;have N3:=hd_ hb.size;have q6:=S6.out;clear cx60 cx61 cx62 cx63 cx64 cx65 cx66;replace R:=R.later hb;replace B:=hd_ (B.out.trans (hb.mono B.out.size));replace X6:=X6.later hb;replace O0:=hd_ (O0.out.below hb);replace O1:=hd_ (O1.out.below hb);replace O2:=hd_ (O2.out.below hb);have O3:=hd_ (ho);clear hb
 obtain⟨W7,hW⟩:∃W,W=(set7 (w7.alloc (.cells #[.slice y0 m0 d0',.slice y1 m1 d1',.slice y2 m2 d2',.int .i64 (jT.2.1),.int .i64 (jT.2.2),.slice y3 m3 d3',.int .i64 (jK.2)] 46)) w2.heap.size (.slice y0 m0 d0') (.slice y1 m1 d1') (.slice y2 m2 d2') (.int .i64 (jT.2.1)) (.int .i64 (jT.2.2)) (.slice y3 m3 d3') (.int .i64 (jK.2))):=⟨_,rfl⟩
 obtain⟨ax60,ax61,ax62,ax63,ax64,ax65,ax66⟩:=((X6.alloc (.cells #[.slice y0 m0 d0',.slice y1 m1 d1',.slice y2 m2 d2',.int .i64 (jT.2.1),.int .i64 (jT.2.2),.slice y3 m3 d3',.int .i64 (jK.2)] 46))).cells;have frx6:=(X6.alloc (.cells #[.slice y0 m0 d0',.slice y1 m1 d1',.slice y2 m2 d2',.int .i64 (jT.2.1),.int .i64 (jT.2.2),.slice y3 m3 d3',.int .i64 (jK.2)] 46)).free
 replace R:=R.alloc (.cells #[.slice y0 m0 d0',.slice y1 m1 d1',.slice y2 m2 d2',.int .i64 (jT.2.1),.int .i64 (jT.2.2),.slice y3 m3 d3',.int .i64 (jK.2)] 46);replace B:=hd_ ((B.out).alloc (Nat.le_trans B.out.size (by simp)) (.cells #[.slice y0 m0 d0',.slice y1 m1 d1',.slice y2 m2 d2',.int .i64 (jT.2.1),.int .i64 (jT.2.2),.slice y3 m3 d3',.int .i64 (jK.2)] 46))
 replace X6:=X6.alloc (.cells #[.slice y0 m0 d0',.slice y1 m1 d1',.slice y2 m2 d2',.int .i64 (jT.2.1),.int .i64 (jT.2.2),.slice y3 m3 d3',.int .i64 (jK.2)] 46);replace O0:=hd_ (O0.out.alloc (.cells #[.slice y0 m0 d0',.slice y1 m1 d1',.slice y2 m2 d2',.int .i64 (jT.2.1),.int .i64 (jT.2.2),.slice y3 m3 d3',.int .i64 (jK.2)] 46))
 replace O1:=hd_ (O1.out.alloc (.cells #[.slice y0 m0 d0',.slice y1 m1 d1',.slice y2 m2 d2',.int .i64 (jT.2.1),.int .i64 (jT.2.2),.slice y3 m3 d3',.int .i64 (jK.2)] 46));replace O2:=hd_ (O2.out.alloc (.cells #[.slice y0 m0 d0',.slice y1 m1 d1',.slice y2 m2 d2',.int .i64 (jT.2.1),.int .i64 (jT.2.2),.slice y3 m3 d3',.int .i64 (jK.2)] 46))
 replace O3:=hd_ (O3.out.alloc (.cells #[.slice y0 m0 d0',.slice y1 m1 d1',.slice y2 m2 d2',.int .i64 (jT.2.1),.int .i64 (jT.2.2),.slice y3 m3 d3',.int .i64 (jK.2)] 46));replace R:=R.kept (set7_grown _ w2.heap.size (.slice y0 m0 d0') (.slice y1 m1 d1') (.slice y2 m2 d2') (.int .i64 (jT.2.1)) (.int .i64 (jT.2.2)) (.slice y3 m3 d3') (.int .i64 (jK.2))) (by simp;omega)
 replace B:=hd_ (below_set7 B.out L6.out (.slice y0 m0 d0') (.slice y1 m1 d1') (.slice y2 m2 d2') (.int .i64 (jT.2.1)) (.int .i64 (jT.2.2)) (.slice y3 m3 d3') (.int .i64 (jK.2)));replace O0:=hd_ (O0.out.box7 X6 (.slice y0 m0 d0') (.slice y1 m1 d1') (.slice y2 m2 d2') (.int .i64 (jT.2.1)) (.int .i64 (jT.2.2)) (.slice y3 m3 d3') (.int .i64 (jK.2)))
 replace O1:=hd_ (O1.out.box7 X6 (.slice y0 m0 d0') (.slice y1 m1 d1') (.slice y2 m2 d2') (.int .i64 (jT.2.1)) (.int .i64 (jT.2.2)) (.slice y3 m3 d3') (.int .i64 (jK.2)));replace O2:=hd_ (O2.out.box7 X6 (.slice y0 m0 d0') (.slice y1 m1 d1') (.slice y2 m2 d2') (.int .i64 (jT.2.1)) (.int .i64 (jT.2.2)) (.slice y3 m3 d3') (.int .i64 (jK.2)))
 replace O3:=hd_ (O3.out.box7 X6 (.slice y0 m0 d0') (.slice y1 m1 d1') (.slice y2 m2 d2') (.int .i64 (jT.2.1)) (.int .i64 (jT.2.2)) (.slice y3 m3 d3') (.int .i64 (jK.2)));replace X6:=X6.set (.slice y0 m0 d0') (.slice y1 m1 d1') (.slice y2 m2 d2') (.int .i64 (jT.2.1)) (.int .i64 (jT.2.2)) (.slice y3 m3 d3') (.int .i64 (jK.2));rw[<-hW]at R;rw[<-hW]at B;rw[<-hW]at X6;rw[<-hW]at O0;rw[<-hW]at O1
 rw[<-hW]at O2;rw[<-hW]at O3;unfold set7 at hW
 go_wp2_with fail
 rw[<-hW];clear hW ax60 ax61 ax62 ax63 ax64 ax65 ax66 frx6;clear ho q6;rw[rounds_succ];obtain⟨cx60,cx61,cx62,cx63,cx64,cx65,cx66⟩:=(X6).cells;obtain⟨cr0,cr1,cr2,cr3,cr4,cr5,cr6⟩:=(R).cells;have frr:=R.free;have EJ:=hd_ (show joinS a b=⟨joinA a.rs b.rs,joinF a.zs b.zs,jT.1,jT.2.1,jT.2.2,jK.1,jK.2⟩ by rw[joinS_yes HOK.out,JA.out];unfold joinS0;rw[HGjT.out,HGjK.out])
 have fin:=R.set (.slice y0 m0 d0') (.slice y1 m1 d1') (.slice y2 m2 d2') (.int .i64 (jT.2.1)) (.int .i64 (jT.2.2)) (.slice y3 m3 d3') (.int .i64 (jK.2))
 have OF:=OwnS.box7 (OwnS.make (V:=⟨y0,m0,d0',y1,m1,d1',y2,m2,d2',y3,m3,d3'⟩) (s:=⟨joinA a.rs b.rs,joinF a.zs b.zs,jT.1,jT.2.1,jT.2.2,jK.1,jK.2⟩) O0.out O1.out O2.out O3.out M0.out (Nat.le_trans M0.out N0.out) T1.out M2.out M3.out) R (.slice y0 m0 d0') (.slice y1 m1 d1') (.slice y2 m2 d2') (.int .i64 (jT.2.1)) (.int .i64 (jT.2.2)) (.slice y3 m3 d3') (.int .i64 (jK.2))
 have BF:=below_set7 B.out (show w.heap.size<=w.heap.size+1+1 by omega) (.slice y0 m0 d0') (.slice y1 m1 d1') (.slice y2 m2 d2') (.int .i64 (jT.2.1)) (.int .i64 (jT.2.2)) (.slice y3 m3 d3') (.int .i64 (jK.2));have SF:=set7_size W7 (w.heap.size+1+1) (.slice y0 m0 d0') (.slice y1 m1 d1') (.slice y2 m2 d2') (.int .i64 (jT.2.1)) (.int .i64 (jT.2.2)) (.slice y3 m3 d3') (.int .i64 (jK.2))
 have HF:=hd_ (And.intro (OwnS.base OF lr_ (Nat.le_of_eq SF.symm) lr_) BF);have HY:=hd_ fin;clear fin OF BF SF;go_wp2;show bodyPost _ _ _ _ _ (set7 W7 (w.heap.size+1+1) (.slice y0 m0 d0') (.slice y1 m1 d1') (.slice y2 m2 d2') (.int .i64 (jT.2.1)) (.int .i64 (jT.2.2)) (.slice y3 m3 d3') (.int .i64 (jK.2)))
 obtain⟨d0,d1,d2,d3,d4,d5,d6⟩:=HY.out.cells;generalize set7 W7 (w.heap.size+1+1) (.slice y0 m0 d0') (.slice y1 m1 d1') (.slice y2 m2 d2') (.int .i64 (jT.2.1)) (.int .i64 (jT.2.2)) (.slice y3 m3 d3') (.int .i64 (jK.2))=WF at HF d0 d1 d2 d3 d4 d5 d6 ⊢
 refine bodyPost_ret (v:=.tuple #[.agg #[.slice y0 m0 d0',.slice y1 m1 d1',.slice y2 m2 d2',.int .i64 (jT.2.1),.int .i64 (jT.2.2),.slice y3 m3 d3',.int .i64 (jK.2)],.bool true]) (by simp[results,Tryz.results78,go_sem,d0,d1,d2,d3,d4,d5,d6]) rfl ?_;rw[EJ.out,HOK.out];exact⟨⟨y0,m0,d0',y1,m1,d1',y2,m2,d2',y3,m3,d3'⟩,rfl,HF.out⟩
theorem imSumJoin_at (w:World) (V1 V2:SV) (a b:Sm) (h1:RdS w V1 a) (h2:RdS w V2 b):
  Calls Tryz.prog 78 #[.agg #[.slice V1.xr V1.nr V1.cr,.slice V1.xf V1.nf V1.cf,.slice V1.xt V1.nt V1.ct,.int .i64 a.lo,.int .i64 a.al,.slice V1.xk V1.nk V1.ck,.int .i64 a.ka],.agg #[.slice V2.xr V2.nr V2.cr,.slice V2.xf V2.nf V2.cf,.slice V2.xt V2.nt V2.ct,.int .i64 b.lo,.int .i64 b.al,.slice V2.xk V2.nk V2.ck,.int .i64 b.ka]] w fun e w'=>∃U,e=.returned (.tuple #[.agg #[.slice U.xr U.nr U.cr,.slice U.xf U.nf U.cf,.slice U.xt U.nt U.ct,.int .i64 (joinS a b).lo,.int .i64 (joinS a b).al,.slice U.xk U.nk U.ck,.int .i64 (joinS a b).ka],.bool (joinOkS a b)])/\OwnS w' w.heap.size w'.heap.size U (joinS a b)/\Below w.heap.size w w':=by
 cases okA:okS a with
 |false=>exact imSumJoin_noA w V1 V2 a b h1 h2 okA
 |true=>
  cases okB:okS b with
  |false=>exact imSumJoin_noB w V1 V2 a b h1 h2 okA okB
  |true=>
   by_cases hs:a.al+b.al<=2000
   ·exact imSumJoin_yes w V1 V2 a b h1 h2 ((joinOkS_iff a b).2 ⟨(okS_iff _).1 okA,(okS_iff _).1 okB,hs⟩)
   ·exact imSumJoin_much w V1 V2 a b h1 h2 okA okB hs
end Go.Proofs.YtcblbdpdbggkbaaGreat
set_option linter.unusedVariables false
namespace Go.Proofs.YtcblbdpdbggkbaaGreat
open Go.RowKit Go.Sort
theorem imSumAdd_at (w:World) (V:SV) (s:Sm) (t:Int) (h1:RdS w V s):
  Calls Tryz.prog 104 #[.agg #[.slice V.xr V.nr V.cr,.slice V.xf V.nf V.cf,.slice V.xt V.nt V.ct,.int .i64 s.lo,.int .i64 s.al,.slice V.xk V.nk V.ck,.int .i64 s.ka],.int .i64 t] w fun e w'=>∃U,e=.returned (.tuple #[.agg #[.slice U.xr U.nr U.cr,.slice U.xf U.nf U.cf,.slice U.xt U.nt U.ct,.int .i64 (addS s t).lo,.int .i64 (addS s t).al,.slice U.xk U.nk U.ck,.int .i64 (addS s t).ka],.bool (addOkS s t)])/\OwnS w' w.heap.size w'.heap.size U (addS s t)/\Below w.heap.size w w':=by
 have hA:=((Below.refl w.heap.size w).alloc lr_ (.cells #[.slice V.xr V.nr V.cr,.slice V.xf V.nf V.cf,.slice V.xt V.nt V.ct,.int .i64 s.lo,.int .i64 s.al,.slice V.xk V.nk V.ck,.int .i64 s.ka] 46)).alloc (by simp) (.cells #[.slice none 0 0,.slice none 0 0,.slice none 0 0,.int .i64 0,.int .i64 0,.slice none 0 0,.int .i64 0] 46)
 have XA:=(Box7.new w 46 (.slice V.xr V.nr V.cr) (.slice V.xf V.nf V.cf) (.slice V.xt V.nt V.ct) (.int .i64 s.lo) (.int .i64 s.al) (.slice V.xk V.nk V.ck) (.int .i64 s.ka)).alloc (.cells #[.slice none 0 0,.slice none 0 0,.slice none 0 0,.int .i64 0,.int .i64 0,.slice none 0 0,.int .i64 0] 46)
 have R:=Box7.new (w.alloc (.cells #[.slice V.xr V.nr V.cr,.slice V.xf V.nf V.cf,.slice V.xt V.nt V.ct,.int .i64 s.lo,.int .i64 s.al,.slice V.xk V.nk V.ck,.int .i64 s.ka] 46)) 46 (.slice none 0 0) (.slice none 0 0) (.slice none 0 0) (.int .i64 0) (.int .i64 0) (.slice none 0 0) (.int .i64 0);rw[World.size_alloc]at R;obtain⟨axa0,axa1,axa2,axa3,axa4,axa5,axa6⟩:=(XA).cells
 obtain⟨W0,hW⟩:∃W,W=(w.alloc (.cells #[.slice V.xr V.nr V.cr,.slice V.xf V.nf V.cf,.slice V.xt V.nt V.ct,.int .i64 s.lo,.int .i64 s.al,.slice V.xk V.nk V.ck,.int .i64 s.ka] 46)).alloc (.cells #[.slice none 0 0,.slice none 0 0,.slice none 0 0,.int .i64 0,.int .i64 0,.slice none 0 0,.int .i64 0] 46):=⟨_,rfl⟩
 rw[<-hW]at hA XA R;have B:=hd_ hA;have H1:=hd_ h1;have SZ:=hd_ hA.size;clear hA h1
 have K1:Hid (Calls Tryz.prog 174 #[.int .i64 t] W0.drew fun e w'=>∃V,e=.returned (.agg #[.slice V.xr V.nr V.cr,.slice V.xf V.nf V.cf,.slice V.xt V.nt V.ct,.int .i64 (oneS t).lo,.int .i64 (oneS t).al,.slice V.xk V.nk V.ck,.int .i64 (oneS t).ka])/\OwnS w' W0.drew.heap.size w'.heap.size V (oneS t)/\Below W0.drew.heap.size W0.drew w'):=hd_ (imOne_at W0.drew t);generalize hso:oneS t=so at K1
 have J1:joinS s so=addS s t:=by rw[<-hso];exact joinS_one s t
 have J2:joinOkS s so=addOkS s t:=by rw[<-hso];exact join_oneOk s t
 clear hso
 have KJ:Hid (∀(W:World) (V2:SV),RdS W V s->RdS W V2 so->Calls Tryz.prog 78 #[.agg #[.slice V.xr V.nr V.cr,.slice V.xf V.nf V.cf,.slice V.xt V.nt V.ct,.int .i64 s.lo,.int .i64 s.al,.slice V.xk V.nk V.ck,.int .i64 s.ka],.agg #[.slice V2.xr V2.nr V2.cr,.slice V2.xf V2.nf V2.cf,.slice V2.xt V2.nt V2.ct,.int .i64 so.lo,.int .i64 so.al,.slice V2.xk V2.nk V2.ck,.int .i64 so.ka]] W fun e w'=>∃U,e=.returned (.tuple #[.agg #[.slice U.xr U.nr U.cr,.slice U.xf U.nf U.cf,.slice U.xt U.nt U.ct,.int .i64 (addS s t).lo,.int .i64 (addS s t).al,.slice U.xk U.nk U.ck,.int .i64 (addS s t).ka],.bool (addOkS s t)])/\OwnS w' W.heap.size w'.heap.size U (addS s t)/\Below W.heap.size W w'):=hd_ fun W V2 p q=>by
  have h:=imSumJoin_at W V V2 s so p q;rw[J1,J2]at h;exact h
 clear J1 J2;generalize addS s t=r at KJ ⊢;generalize addOkS s t=ok at KJ ⊢;go_enter Tryz.func104,Tryz.ntmps104
 go_wp2_with fail
 rw[<-hW];clear hW axa0 axa1 axa2 axa3 axa4 axa5 axa6;obtain⟨cxa0,cxa1,cxa2,cxa3,cxa4,cxa5,cxa6⟩:=(XA).cells;go_wp2
 go_region_with (first
    |(go_at_call 174;refine K1.out.mono ?_;rintro e w1 ⟨V2,rfl,ho,hb⟩;have XA1:=XA.drew.later hb;obtain⟨e0,e1,e2,e3,e4,e5,e6⟩:=XA1.cells;have HO:=hd_ ho;have HB:=hd_ hb;clear ho hb)
    |(go_at_call 78;refine (KJ.out w1 V2 ((H1.out.below B.out lr_).below (Below.trans (Below.drew (Below.refl _ W0)) HB.out) lr_) HO.out.rd).mono ?_;rintro e w2 ⟨U,rfl,hu,hb⟩;have R2:=(R.drew.later HB.out).later hb;obtain⟨r0,r1,r2,r3,r4,r5,r6⟩:=R2.cells;have fr:=R2.free;have HU:=hd_ hu;have HB2:=hd_ hb;clear hu hb))
 all_goals
  replace B:=hd_ (B.out.trans ((Below.trans (Below.drew (Below.refl _ W0)) (HB.out.trans (HB2.out.mono HB.out.size))).mono B.out.size));have fin:=R2.set (.slice U.xr U.nr U.cr) (.slice U.xf U.nf U.cf) (.slice U.xt U.nt U.ct) (.int .i64 r.lo) (.int .i64 r.al) (.slice U.xk U.nk U.ck) (.int .i64 r.ka)
  have OF:=OwnS.box7 (HU.out.base (B':=w.heap.size) (Nat.le_trans (Nat.le_trans (show w.heap.size<=W0.heap.size from SZ.out) HB.out.size) lr_) lr_ lr_) R2 (.slice U.xr U.nr U.cr) (.slice U.xf U.nf U.cf) (.slice U.xt U.nt U.ct) (.int .i64 r.lo) (.int .i64 r.al) (.slice U.xk U.nk U.ck) (.int .i64 r.ka)
  have BF:=below_set7 B.out (Nat.le_add_right w.heap.size 1) (.slice U.xr U.nr U.cr) (.slice U.xf U.nf U.cf) (.slice U.xt U.nt U.ct) (.int .i64 r.lo) (.int .i64 r.al) (.slice U.xk U.nk U.ck) (.int .i64 r.ka);have SF:=set7_size w2 (w.heap.size+1) (.slice U.xr U.nr U.cr) (.slice U.xf U.nf U.cf) (.slice U.xt U.nt U.ct) (.int .i64 r.lo) (.int .i64 r.al) (.slice U.xk U.nk U.ck) (.int .i64 r.ka)
  have HF:=hd_ (And.intro (OwnS.base OF lr_ (Nat.le_of_eq SF.symm) lr_) BF);have HY:=hd_ fin;clear fin OF BF SF;go_wp2;show bodyPost _ _ _ _ _ (set7 w2 (w.heap.size+1) (.slice U.xr U.nr U.cr) (.slice U.xf U.nf U.cf) (.slice U.xt U.nt U.ct) (.int .i64 r.lo) (.int .i64 r.al) (.slice U.xk U.nk U.ck) (.int .i64 r.ka))
  obtain⟨d0,d1,d2,d3,d4,d5,d6⟩:=HY.out.cells;generalize set7 w2 (w.heap.size+1) (.slice U.xr U.nr U.cr) (.slice U.xf U.nf U.cf) (.slice U.xt U.nt U.ct) (.int .i64 r.lo) (.int .i64 r.al) (.slice U.xk U.nk U.ck) (.int .i64 r.ka)=WF at HF d0 d1 d2 d3 d4 d5 d6 ⊢
  refine bodyPost_ret (v:=.tuple #[.agg #[.slice U.xr U.nr U.cr,.slice U.xf U.nf U.cf,.slice U.xt U.nt U.ct,.int .i64 r.lo,.int .i64 r.al,.slice U.xk U.nk U.ck,.int .i64 r.ka],.bool ok]) (by simp[results,Tryz.results104,go_sem,d0,d1,d2,d3,d4,d5,d6]) rfl ?_;exact⟨U,rfl,HF.out⟩
end Go.Proofs.YtcblbdpdbggkbaaGreat
set_option linter.unusedVariables false
set_option linter.unusedSectionVars false
set_option linter.unusedSimpArgs false
namespace Go.Proofs.YtcblbdpdbggkbaaGreat
open Go.RowKit Go.Sort Go.ChangeMaps
namespace N
theorem imMomentOf_at (w:World) (V:SV) (e:En):
  Calls Tryz.prog 201 #[entV V e] w fun r w'=>r=.returned (.agg #[.int .i64 e.node,.int .i64 e.born,.int .i64 e.num])/\Below w.heap.size w w':=by
 have h0:=(M.start w).alloc #[.int .i64 e.node,.int .i64 e.born,.int .i64 e.num,.slice V.xr V.nr V.cr,.slice V.xf V.nf V.cf,.slice V.xt V.nt V.ct,.int .i64 (e.s).lo,.int .i64 (e.s).al,.slice V.xk V.nk V.ck,.int .i64 (e.s).ka] 64;have h1:=h0.alloc #[.int .i64 e.node,.int .i64 e.born,.int .i64 e.num] 234;simp only[World.size_alloc]at h1;have H1:=hd_ h1;obtain⟨e0,e1,e2⟩:=h1.cells3
 have H0:=(h0.alloc #[.int .i64 0,.int .i64 0,.int .i64 0] 234).p1.cells10;obtain⟨d0,d1,d2,d3,d4,d5,d6,d7,d8,d9⟩:=H0;clear h0 h1;go_enter Tryz.func201,Tryz.ntmps201;go_wp2;exact bodyPost_ret (v:=.agg #[.int .i64 e.node,.int .i64 e.born,.int .i64 e.num]) (by simp[results,Tryz.results201,go_sem,e0,e1,e2]) rfl ⟨rfl,H1.out.below⟩
def sumP (n:Nt) (k:Int × Int × Int):Sm:=upS ((pastAt n k.1 k.2.1).take k.2.2.toNat)
theorem sumP_step {n:Nt} {a b:Int} {q:Nat} {l:List Int} (hl:pastAt n a b=l) (hq:q<l.length) {z:Int} (hz:z=(q:Int)+1):sumP n (a,b,z)=addS (sumP n (a,b,(q:Int))) (l.getD q 0):=by
 subst hz;unfold sumP;simp only[hl,Int.toNat_natCast];rw[show ((q:Int)+1).toNat=q+1 by omega];exact up_take hq
theorem imSumAt_at {n:Nt} {w0:World} {v1 v2 v3:Value} {x4:Option Addr} {c4:Nat} (hn:NetRd w0 v1 v2 v3 (.slice x4 5 c4) n) (hs:Shape n) {i j:Nat} (hi:i<5) (hj:j<(rowsAt n (i:Int)).length):
  ∀(q:Nat),q<=(pastAt n (i:Int) (j:Int)).length->∀{l:List Ch} {w:World} {m:Nat} {z:Int},z=(q:Int)->M w0.heap.size w0 w (memoC m (sumP n)::l)->
  Calls Tryz.prog 200 #[.agg #[.slice x4 5 c4,.map (some m)],.agg #[.int .i64 (i:Int),.int .i64 (j:Int),.int .i64 z]] w fun r w'=>∃V s,r=.returned (.agg #[.slice V.xr V.nr V.cr,.slice V.xf V.nf V.cf,.slice V.xt V.nt V.ct,.int .i64 s.lo,.int .i64 s.al,.slice V.xk V.nk V.ck,.int .i64 s.ka])/\s=sumP n ((i:Int),(j:Int),z)/\M w0.heap.size w0 w' (memoV m (sumP n) V s::l):=by
 obtain⟨f4,n4⟩:=hn.past;obtain⟨rs,hrs⟩:∃rs,n.past[i]? =some rs:=⟨_,List.getElem?_eq_getElem (by rw[hs.past];exact hi)⟩
 have eR:rowsAt n (i:Int)=rs:=by unfold rowsAt;rw[List.getD_eq_getElem?_getD,Int.toNat_natCast,hrs];rfl
 obtain⟨g4,xr,cr,fr,rfl,_,_,rr,rc,rm,y0⟩:=past_at n4 hrs;rw[eR]at hj;obtain⟨lp,hlp⟩:∃lp,rs[j]? =some lp:=⟨_,List.getElem?_eq_getElem hj⟩
 have EP:Hid (pastAt n (i:Int) (j:Int)=lp):=hd_ (by unfold pastAt;rw[eR,List.getD_eq_getElem?_getD,Int.toNat_natCast,hlp];rfl);obtain⟨g5,xl,cl,fl,rfl,_,_,rl,lc,lm,y1⟩:=row_at rr hlp;have IB:Hid (Ints w0 (.slice xl lp.length cl) lp):=hd_ (by
    obtain⟨v,ev,ho,_⟩:=intsR_to rl
    cases ev
    exact ho)
 have Y0:=hd_ y0;have Y1:=hd_ y1;have i0:(0:Int)<=(i:Int):=by omega
 have i5:(i:Int)<5:=by omega
 have j0:(0:Int)<=(j:Int):=by omega
 have j1:(j:Int)<(rs.length:Int):=by omega
 have IO:=hd_ (show In63 (i:Int)from⟨by omega,by omega⟩);unfold maxLen at rm lm;have JO:=hd_ (show In63 (j:Int)from⟨by omega,by omega⟩);rw[EP.out];have LM:=hd_ (Nat.le_trans lc lm);have RM:rs.length<=2 ^ 63 - 1:=by omega
 clear n4 hrs eR rr hlp rl lc lm rc rm y0 y1 hn hs hi hj;intro q
 induction q with
 |zero=>
  intro _ l w m z hz hm;subst hz;have h0:=((hm.alloc #[.slice (some ⟨g4,0,none⟩) 5 c4,.map (some m)] 120).alloc #[.int .i64 (i:Int),.int .i64 (j:Int),.int .i64 0] 234).alloc #[.slice none 0 0,.slice none 0 0,.slice none 0 0,.int .i64 0,.int .i64 0,.slice none 0 0,.int .i64 0] 46;simp only[World.size_alloc]at h0
  obtain⟨W,hW⟩:∃W,W=((w.alloc (.cells #[.slice (some ⟨g4,0,none⟩) 5 c4,.map (some m)] 120)).alloc (.cells #[.int .i64 (i:Int),.int .i64 (j:Int),.int .i64 0] 234)).alloc (.cells #[.slice none 0 0,.slice none 0 0,.slice none 0 0,.int .i64 0,.int .i64 0,.slice none 0 0,.int .i64 0] 46):=⟨_,rfl⟩
  obtain⟨p2,hp2⟩:∃p,p=w.heap.size:=⟨_,rfl⟩
  obtain⟨p3,hp3⟩:∃p,p=w.heap.size+1:=⟨_,rfl⟩
  obtain⟨p4,hp4⟩:∃p,p=w.heap.size+1+1:=⟨_,rfl⟩
  rw[<-hW, <-hp4, <-hp3, <-hp2]at h0;have H:=hd_ h0;obtain⟨b0,b1,b2⟩:=h0.p1.cells3;obtain⟨d0,d1,d2,d3,d4,d5,d6⟩:=h0.cells7;have ff:=h0.free;clear h0 hm;have KN:=hd_ (imSumNew_at W);obtain⟨sn,hsn⟩:∃s,s=newSm:=⟨_,rfl⟩
  rw[<-hsn]at KN;have SN:=hd_ hsn;clear hsn;go_enter Tryz.func200,Tryz.ntmps200
  go_wp2_with fail
  rw[<-hW];clear hW b0 b1 b2 d0 d1 d2 d3 d4 d5 d6 ff;refine KN.out.mono ?_;rintro r w1 ⟨V,rfl,ho,hb⟩;have H2:=hd_ (H.out.sum hb ho);clear H ho hb KN;rw[<-hp4];clear hp2 hp3 hp4
  go_wp2_with (refine wpList_mstore H2.out.p1 (vs:=[.slice V.xr V.nr V.cr,.slice V.xf V.nf V.cf,.slice V.xt V.nt V.ct,.int .i64 sn.lo,.int .i64 sn.al,.slice V.xk V.nk V.ck,.int .i64 sn.ka]) (ys:=#[.slice V.xr V.nr V.cr,.slice V.xf V.nf V.cf,.slice V.xt V.nt V.ct,.int .i64 sn.lo,.int .i64 sn.al,.slice V.xk V.nk V.ck,.int .i64 sn.ka]) rfl rfl rfl rfl sumI rfl (by simp) (by simp[putA]) ?_;intro w2 h3;have H4:=hd_ h3;clear h3 H2)
  obtain⟨e0,e1,e2,e3,e4,e5,e6⟩:=H4.out.cells7;exact bodyPost_ret (v:=.agg #[.slice V.xr V.nr V.cr,.slice V.xf V.nf V.cf,.slice V.xt V.nt V.ct,.int .i64 sn.lo,.int .i64 sn.al,.slice V.xk V.nk V.ck,.int .i64 sn.ka]) (by simp[results,Tryz.results200,go_sem,e0,e1,e2,e3,e4,e5,e6]) rfl ⟨V,sn,rfl,SN.out,memo_put H4.out.drop.p1.drop.p1.drop⟩
 |succ q ih=>
  intro hq l w m z hz hm;have bw:IntKind.i64.wrap (z - 1)=(q:Int):=by have:=LM.out;rw[hz,IntWalk.i64_in _ (by omega)];omega
  have gz:(z==0)=false:=by rw[hz];simp;omega
  have hz':z=(q:Int)+1:=by omega
  have ES:=hd_ (sumP_step EP.out (by omega) hz');obtain⟨b6,o6,rfl,c6⟩:=ints_el IB.out (show q<lp.length by omega);obtain⟨vq,hvq⟩:∃v,v=lp.getD q 0:=⟨_,rfl⟩
  rw[<-hvq]at c6 ES;have C6:=hd_ c6;clear c6;clear hvq;have q0:(0:Int)<=(q:Int):=by omega
  have q1:(q:Int)<(lp.length:Int):=by omega
  have MO:=hd_ (show MoOk ((i:Int),(j:Int),z)from⟨IO.out,JO.out,(show -9223372036854775808<=z/\z<9223372036854775808 by have:=LM.out;omega)⟩);have IH:=hd_ (fun (l':List Ch) (w':World) (h:M w0.heap.size w0 w' (memoC m (sumP n)::l'))=>ih (by omega) (l:=l') (w:=w') (m:=m) (z:=(q:Int)) rfl h)
  have h0:=((hm.alloc #[.slice (some ⟨g4,0,none⟩) 5 c4,.map (some m)] 120).alloc #[.int .i64 (i:Int),.int .i64 (j:Int),.int .i64 z] 234).alloc #[.slice none 0 0,.slice none 0 0,.slice none 0 0,.int .i64 0,.int .i64 0,.slice none 0 0,.int .i64 0] 46;simp only[World.size_alloc]at h0
  obtain⟨W,hW⟩:∃W,W=((w.alloc (.cells #[.slice (some ⟨g4,0,none⟩) 5 c4,.map (some m)] 120)).alloc (.cells #[.int .i64 (i:Int),.int .i64 (j:Int),.int .i64 z] 234)).alloc (.cells #[.slice none 0 0,.slice none 0 0,.slice none 0 0,.int .i64 0,.int .i64 0,.slice none 0 0,.int .i64 0] 46):=⟨_,rfl⟩
  obtain⟨p2,hp2⟩:∃p,p=w.heap.size:=⟨_,rfl⟩
  obtain⟨p3,hp3⟩:∃p,p=w.heap.size+1:=⟨_,rfl⟩
  obtain⟨p4,hp4⟩:∃p,p=w.heap.size+1+1:=⟨_,rfl⟩
  rw[<-hW, <-hp4, <-hp3, <-hp2]at h0;have H:=hd_ h0;obtain⟨b0,b1,b2⟩:=h0.p1.cells3;obtain⟨a0,a1⟩:=h0.p2.cells2;clear h0 hm hz hz' ih hq;go_enter Tryz.func200,Tryz.ntmps200;go_upto_region 3 with fail
  rw[<-hW, <-hp4, <-hp3, <-hp2];clear hW hp2 hp3 hp4;obtain⟨b,V0,s0,LL0,hb⟩:=memo_look H.out.p3 MO.out
  have LL:(Instr.lookup 118 (.map (some m)) (.agg #[.int .i64 (i:Int),.int .i64 (j:Int),.int .i64 z]) true).run Tryz.prog W=.ok (.tuple #[.agg #[.slice V0.xr V0.nr V0.cr,.slice V0.xf V0.nf V0.cf,.slice V0.xt V0.nt V0.ct,.int .i64 s0.lo,.int .i64 s0.al,.slice V0.xk V0.nk V0.ck,.int .i64 s0.ka],.bool b]) W:=LL0;have HB:=hd_ hb;clear hb LL0;cases b with
  |true=>
   obtain⟨e0,h1⟩:=HB.out rfl;have E0:=hd_ e0;have H5:=hd_ (h1.alloc #[.slice V0.xr V0.nr V0.cr,.slice V0.xf V0.nf V0.cf,.slice V0.xt V0.nt V0.ct,.int .i64 s0.lo,.int .i64 s0.al,.slice V0.xk V0.nk V0.ck,.int .i64 s0.ka] 46);clear h1 e0 HB H;obtain⟨p5,hp5⟩:∃p,p=W.heap.size:=⟨_,rfl⟩
   obtain⟨W5,hW5⟩:∃W',W'=W.alloc (.cells #[.slice V0.xr V0.nr V0.cr,.slice V0.xf V0.nf V0.cf,.slice V0.xt V0.nt V0.ct,.int .i64 s0.lo,.int .i64 s0.al,.slice V0.xk V0.nk V0.ck,.int .i64 s0.ka] 46):=⟨_,rfl⟩
   rw[<-hp5, <-hW5]at H5;obtain⟨x0,x1,x2,x3,x4,x5,x6⟩:=H5.out.cells7;go_upto_region 4 with fail
   rw[<-hW5, <-hp5];clear hp5 hW5 LL a0 a1 b0 b1 b2
   go_wp2_with (refine wpList_mstore H5.out.p2 (vs:=[.slice V0.xr V0.nr V0.cr,.slice V0.xf V0.nf V0.cf,.slice V0.xt V0.nt V0.ct,.int .i64 s0.lo,.int .i64 s0.al,.slice V0.xk V0.nk V0.ck,.int .i64 s0.ka]) (ys:=#[.slice V0.xr V0.nr V0.cr,.slice V0.xf V0.nf V0.cf,.slice V0.xt V0.nt V0.ct,.int .i64 s0.lo,.int .i64 s0.al,.slice V0.xk V0.nk V0.ck,.int .i64 s0.ka]) rfl rfl rfl rfl sumI rfl (by simp) (by simp[putA]) ?_;intro w2 h3;have H6:=hd_ h3;clear h3 H5)
   obtain⟨e0,e1,e2,e3,e4,e5,e6⟩:=H6.out.cells7;exact bodyPost_ret (v:=.agg #[.slice V0.xr V0.nr V0.cr,.slice V0.xf V0.nf V0.cf,.slice V0.xt V0.nt V0.ct,.int .i64 s0.lo,.int .i64 s0.al,.slice V0.xk V0.nk V0.ck,.int .i64 s0.ka]) (by simp[results,Tryz.results200,go_sem,e0,e1,e2,e3,e4,e5,e6]) rfl ⟨V0,s0,rfl,E0.out,H6.out.drop.drop.p2.drop.p1 |>.p1.p1.drop |> fun h=>h⟩
  |false=>
   clear HB;have h5:=H.out.alloc #[.slice V0.xr V0.nr V0.cr,.slice V0.xf V0.nf V0.cf,.slice V0.xt V0.nt V0.ct,.int .i64 s0.lo,.int .i64 s0.al,.slice V0.xk V0.nk V0.ck,.int .i64 s0.ka] 46;obtain⟨p5,hp5⟩:∃p,p=W.heap.size:=⟨_,rfl⟩
   obtain⟨W5,hW5⟩:∃W',W'=W.alloc (.cells #[.slice V0.xr V0.nr V0.cr,.slice V0.xf V0.nf V0.cf,.slice V0.xt V0.nt V0.ct,.int .i64 s0.lo,.int .i64 s0.al,.slice V0.xk V0.nk V0.ck,.int .i64 s0.ka] 46):=⟨_,rfl⟩
   rw[<-hW5, <-hp5]at h5;have H5:=hd_ h5;clear h5 H;go_upto_region 4 with fail
   rw[<-hW5, <-hp5];clear hp5 hW5 LL a0 a1 b0 b1 b2;obtain⟨b0,b1,b2⟩:=H5.out.p2.cells3;have h6:=H5.out.alloc #[.int .i64 (i:Int),.int .i64 (j:Int),.int .i64 (q:Int)] 234;obtain⟨p7,hp7⟩:∃p,p=W5.heap.size:=⟨_,rfl⟩
   obtain⟨W6,hW6⟩:∃W',W'=W5.alloc (.cells #[.int .i64 (i:Int),.int .i64 (j:Int),.int .i64 (q:Int)] 234):=⟨_,rfl⟩
   rw[<-hW6, <-hp7]at h6;have H6:=hd_ h6.drew;clear h6 H5;go_upto_region 6 with fail
   rw[<-hW6, <-hp7];clear hp7 hW6 b0 b1 b2
   have hcells:∀(W':World) (c1 c2:Ch) (l':List Ch) (vs:Array Value),M w0.heap.size w0 W' (c1::boxC p7 234 #[.int .i64 (i:Int),.int .i64 (j:Int),.int .i64 (q:Int)]::boxC p5 46 vs::c2::boxC p3 234 #[.int .i64 (i:Int),.int .i64 (j:Int),.int .i64 z]::boxC p2 120 #[.slice (some ⟨g4,0,none⟩) 5 c4,.map (some m)]::l')->Cells W' [(⟨p2,0,none⟩,.slice (some ⟨g4,0,none⟩) 5 c4),(⟨p2,1,none⟩,.map (some m)),(⟨p3,0,none⟩,.int .i64 (i:Int)),(⟨p3,1,none⟩,.int .i64 (j:Int)),(⟨p3,2,none⟩,.int .i64 z),(⟨p7,0,none⟩,.int .i64 (i:Int)),(⟨p7,1,none⟩,.int .i64 (j:Int)),(⟨p7,2,none⟩,.int .i64 (q:Int)),(⟨g4,i,none⟩,.slice (some ⟨g5,0,none⟩) rs.length cr),(⟨g5,j,none⟩,.slice (some ⟨b6,o6,none⟩) lp.length cl),(⟨b6,o6+q,none⟩,.int .i64 vq)]:=fun _ _ _ _ _ h=>by
    obtain⟨m0,m1,m2⟩:=h.p1.cells3;obtain⟨k0,k1,k2⟩:=h.p4.cells3;obtain⟨t0,t1⟩:=h.p5.cells2;exact⟨t0,t1,k0,k1,k2,m0,m1,m2,cell_later h.below Y0.out,cell_later h.below Y1.out,cell_later h.below C6.out,trivial⟩
   have HC:=hd_ hcells
   have KA:Hid (∀(W':World) (V1:SV) (s1:Sm),RdS W' V1 s1->Calls Tryz.prog 104 #[.agg #[.slice V1.xr V1.nr V1.cr,.slice V1.xf V1.nf V1.cf,.slice V1.xt V1.nt V1.ct,.int .i64 s1.lo,.int .i64 s1.al,.slice V1.xk V1.nk V1.ck,.int .i64 s1.ka],.int .i64 vq] W' fun e w'=>∃U ok,e=.returned (.tuple #[.agg #[.slice U.xr U.nr U.cr,.slice U.xf U.nf U.cf,.slice U.xt U.nt U.ct,.int .i64 (addS s1 vq).lo,.int .i64 (addS s1 vq).al,.slice U.xk U.nk U.ck,.int .i64 (addS s1 vq).ka],.bool ok])/\OwnS w' W'.heap.size w'.heap.size U (addS s1 vq)/\Below W'.heap.size W' w'):=hd_ fun W' V1 s1 h1=>(imSumAdd_at W' V1 s1 vq h1).mono fun e w' ⟨U,h1,h2,h3⟩=>⟨U,_,h1,h2,h3⟩
   clear hcells
   refine wp_region_plan 99 (.tk 0 2 (.tk 3 14 (.alt 2 (.alt 17 (.tk 18 3 (.alt 21 .done .nomore)) .nomore) .nomore))) (fun w'=>Cells w' [(⟨p2,0,none⟩,.slice (some ⟨g4,0,none⟩) 5 c4),(⟨p2,1,none⟩,.map (some m)),(⟨p3,0,none⟩,.int .i64 (i:Int)),(⟨p3,1,none⟩,.int .i64 (j:Int)),(⟨p3,2,none⟩,.int .i64 z),(⟨p7,0,none⟩,.int .i64 (i:Int)),(⟨p7,1,none⟩,.int .i64 (j:Int)),(⟨p7,2,none⟩,.int .i64 (q:Int)),(⟨g4,i,none⟩,.slice (some ⟨g5,0,none⟩) rs.length cr),(⟨g5,j,none⟩,.slice (some ⟨b6,o6,none⟩) lp.length cl),(⟨b6,o6+q,none⟩,.int .i64 vq)]) (by kernel_rfl) (by kernel_rfl) (fun _ _ _ _ _ h=>h) (HC.out _ _ _ _ _ H6.out.p5) ?_
   repeat ((first|(refine plan_take (by rfl) (by rfl) ?_;apply Exists.intro;refine⟨fun w' hw'=>?_,?_⟩;(· ((try simp only[Cells,Cells_app,b4L,b5L,b6L,b7L,b10L,N.entL,and_true]at hw');go_simp;(try with_reducible rfl))))|(refine plan_skip (by rfl) (by rfl) ?_));simp only[Act.put,List.getElem_toArray,List.getElem_cons_succ,pg3,pg4,pg5,pg6])
   refine plan_last (by rfl) (fun K' hK=>?_);go_simp;refine (IH.out _ _ H6.out.p5).mono ?_;rintro e' w1 ⟨V1,s1,rfl,es1,hm1⟩;have HM1:=hd_ hm1;have ES1:Hid (addS s1 vq=sumP n ((i:Int),(j:Int),z)):=hd_ (by rw[ES.out,es1]);clear es1 hm1 IH H6 ES;refine hK _ _ (.inr (HC.out _ _ _ _ _ HM1.out)) ?_;clear hK K'
   try simp only[Act.put,List.getElem_toArray,List.getElem_cons_succ,pg3,pg4,pg5,pg6]
   refine plan_last (by rfl) (fun K' hK=>?_);go_simp;refine (KA.out w1 V1 s1 (memo_rd HM1.out)).mono ?_;rintro e' w2 ⟨U,ok,rfl,ho,hb⟩;obtain⟨sk,hsk⟩:∃s,s=addS s1 vq:=⟨_,rfl⟩
   rw[<-hsk]at ES1 ho;rw[<-hsk];have HM2:=hd_ (memo_put ((memo_forget HM1.out).sum hb ho));clear hsk ho hb KA HM1;refine hK _ _ (.inr (HC.out _ _ _ _ _ HM2.out)) ?_;clear hK K'
   try simp only[Act.put,List.getElem_toArray,List.getElem_cons_succ,pg3,pg4,pg5,pg6]
   repeat ((first|(refine plan_take (by rfl) (by rfl) ?_;apply Exists.intro;refine⟨fun w' hw'=>?_,?_⟩;(· ((try simp only[Cells,Cells_app,b4L,b5L,b6L,b7L,b10L,N.entL,and_true]at hw');go_simp;(try with_reducible rfl))))|(refine plan_skip (by rfl) (by rfl) ?_));simp only[Act.put,List.getElem_toArray,List.getElem_cons_succ,pg3,pg4,pg5,pg6])
   refine plan_last (by rfl) (fun K' hK=>?_)
   refine step_mstore HM2.out.p2 (vs:=[.slice U.xr U.nr U.cr,.slice U.xf U.nf U.cf,.slice U.xt U.nt U.ct,.int .i64 sk.lo,.int .i64 sk.al,.slice U.xk U.nk U.ck,.int .i64 sk.ka]) (ys:=#[.slice U.xr U.nr U.cr,.slice U.xf U.nf U.cf,.slice U.xt U.nt U.ct,.int .i64 sk.lo,.int .i64 sk.al,.slice U.xk U.nk U.ck,.int .i64 sk.ka]) rfl rfl rfl rfl sumI rfl (by simp) (by simp[putA]) ?_;intro w3 h3
   have HM3:=hd_ h3.p2.p2;clear h3 HM2;refine hK _ _ (.inr (HC.out _ _ _ _ _ HM3.out)) ?_;clear hK K'
   try simp only[Act.put,List.getElem_toArray,List.getElem_cons_succ,pg3,pg4,pg5,pg6]
   refine plan_done ?_;obtain⟨x0,x1,x2,x3,x4,x5,x6⟩:=HM3.out.p2.cells7;obtain⟨b0,b1,b2⟩:=HM3.out.p4.cells3;obtain⟨a0,a1⟩:=HM3.out.p5.cells2
   go_wp2_with (first|(refine wpList_memo HM3.out MO.out ES1.out rfl rfl rfl rfl rfl rfl rfl ?_;intro w4 h4;have HM4:=hd_ h4;obtain⟨z0,z1,z2,z3,z4,z5,z6⟩:=h4.p2.cells7;clear h4 HM3)|(refine wpList_mstore HM4.out.p3 (vs:=[.slice U.xr U.nr U.cr,.slice U.xf U.nf U.cf,.slice U.xt U.nt U.ct,.int .i64 sk.lo,.int .i64 sk.al,.slice U.xk U.nk U.ck,.int .i64 sk.ka]) (ys:=#[.slice U.xr U.nr U.cr,.slice U.xf U.nf U.cf,.slice U.xt U.nt U.ct,.int .i64 sk.lo,.int .i64 sk.al,.slice U.xk U.nk U.ck,.int .i64 sk.ka]) rfl rfl rfl rfl sumI rfl (by simp) (by simp[putA]) ?_;intro w5 h5;have HM5:=hd_ h5;clear h5 HM4))
   obtain⟨e0,e1,e2,e3,e4,e5,e6⟩:=HM5.out.cells7;exact bodyPost_ret (v:=.agg #[.slice U.xr U.nr U.cr,.slice U.xf U.nf U.cf,.slice U.xt U.nt U.ct,.int .i64 sk.lo,.int .i64 sk.al,.slice U.xk U.nk U.ck,.int .i64 sk.ka]) (by simp[results,Tryz.results200,go_sem,e0,e1,e2,e3,e4,e5,e6]) rfl ⟨U,sk,rfl,ES1.out,HM5.out.drop.p1.drop.p1.drop.p1.drop.p1.drop⟩
end N
end Go.Proofs.YtcblbdpdbggkbaaGreat
set_option linter.unusedVariables false
set_option linter.unusedSectionVars false
set_option linter.unusedSimpArgs false
namespace Go.Proofs.YtcblbdpdbggkbaaGreat
open Go.RowKit Go.Sort
namespace N
theorem imBeaconOk_at (w:World) {x1:Option Addr} {c1:Nat} {v2 v3 v4:Value} {n:Nt} {f:List Nat} (h1:nodesR TY w [.slice x1 5 c1] n.nodes f) {beacon:Int} {b:Bool} (hb:b=in6 beacon 0 (nodeAt n 0).beacon):
  Calls Tryz.prog 154 #[.agg #[.slice x1 5 c1,v2,v3,v4],.int .i64 beacon] w fun r w'=>r=.returned (.bool b)/\Below w.heap.size w w':=by
 have h5:n.nodes.length=5:=(slcR_row h1).1.symm;obtain⟨r0,hr0⟩:∃nd,n.nodes[0]? =some nd:=⟨_,List.getElem?_eq_getElem (by rw[h5];decide)⟩
 have e0:nodeAt n 0=r0:=by unfold nodeAt;rw[List.getD_eq_getElem?_getD,show (0:Int).toNat=0 from rfl,hr0];rfl
 rw[e0]at hb;have H0:=(M.start w).alloc #[.slice x1 5 c1,v2,v3,v4] 30;have HB:=hd_ H0.below;obtain⟨a0,a1,a2,a3⟩:=H0.cells4;obtain⟨g1,xk,ck,fk,rfl,_,_,_,_,_,z0,z1,z2,z3,z4⟩:=node_at h1 hr0;replace z2:=cell_later H0.below z2;simp only[Nat.zero_mul,Nat.zero_add]at z2;obtain⟨q1,hq1⟩:∃b,b=decide (0<=beacon):=⟨_,rfl⟩
 obtain⟨q2,hq2⟩:∃b,b=decide (beacon<=r0.beacon):=⟨_,rfl⟩
 have E:Hid (b=(q1&&q2)):=hd_ (by
    rw[hb,hq1,hq2]
    unfold in6
    by_cases x:0<=beacon<;>by_cases y:beacon<=r0.beacon<;>simp[x,y])
 have g1':=hq1.symm;have g2':=hq2.symm;clear hb hq1 hq2 H0 e0 hr0 h5 h1 z0 z1 z3 z4;go_enter Tryz.func154,Tryz.ntmps154;rcases q1 with _|_
 all_goals
  go_wp2;go_ret;exact⟨by rw[E.out];rfl,HB.out⟩
theorem areTwo_is {a b:Int} {t:Bool} (h:t=two a b) (w:World):Calls Tryz.prog 70 #[.int .i64 a,.int .i64 b] w fun e w'=>e=.returned (.bool t)/\w=w':=by
 rw[h];exact areTwo_at w a b
def hearsB (n:Nt) (i:Int):Bool:=in6 (nodeAt n i).beacon 0 (nodeAt n 0).beacon&&(if i=0 then ((nodeAt n i).level==0)&&(((nodeAt n i).up== -1)&&decide ((nodeAt n i).beacon<=1000))else if (nodeAt n i).level=5 then (nodeAt n i).up== -1 else decide (1<=(nodeAt n i).level)&&(decide ((nodeAt n i).level<5)&&two i (nodeAt n i).up))
theorem imHearsOk_at (w:World) {x1:Option Addr} {c1:Nat} {v2 v3 v4:Value} {n:Nt} {f:List Nat} (h1:nodesR TY w [.slice x1 5 c1] n.nodes f) {i:Nat} (i5:i<5):
  Calls Tryz.prog 81 #[.agg #[.slice x1 5 c1,v2,v3,v4],.int .i64 (i:Int)] w fun r w'=>r=.returned (.bool (hearsB n i))/\Below w.heap.size w w':=by
 have h5:n.nodes.length=5:=(slcR_row h1).1.symm;obtain⟨nd,hnd⟩:∃nd,n.nodes[i]? =some nd:=⟨_,List.getElem?_eq_getElem (by rw[h5];exact i5)⟩
 have eN:nodeAt n (i:Int)=nd:=by unfold nodeAt;rw[List.getD_eq_getElem?_getD,Int.toNat_natCast,hnd];rfl
 have HB0:Hid (hearsB n (i:Int)=(in6 nd.beacon 0 (nodeAt n 0).beacon&&(if (i:Int)=0 then (nd.level==0)&&((nd.up== -1)&&decide (nd.beacon<=1000))else if nd.level=5 then nd.up== -1 else decide (1<=nd.level)&&(decide (nd.level<5)&&two i nd.up)))):=hd_ (by unfold hearsB;rw[eN]);have H0:=((M.start w).alloc #[.slice x1 5 c1,v2,v3,v4] 30)
 obtain⟨w1,hw1⟩:∃W,W=w.alloc (.cells #[.slice x1 5 c1,v2,v3,v4] 30):=⟨_,rfl⟩
 obtain⟨p1,hp1⟩:∃p,p=w.heap.size:=⟨_,rfl⟩
 have HP:=hd_ hp1;rw[<-hw1, <-hp1]at H0;have hWB:Below w.heap.size w w1:=by have:=H0.below;rwa[hp1]at this
 obtain⟨g1,xk,ck,fk,rfl,_,_,_,_,_,b0,b1,b2,b3,b4⟩:=node_at h1 hnd;replace b0:=cell_later hWB b0;replace b1:=cell_later hWB b1;replace b2:=cell_later hWB b2;replace b3:=cell_later hWB b3;replace b4:=cell_later hWB b4;obtain⟨a0,a1,a2,a3⟩:=H0.cells4;have H1:=H0.alloc #[.int .i64 nd.born,.slice xk nd.known.length ck,.int .i64 nd.beacon,.int .i64 nd.level,.int .i64 nd.up] 55
 obtain⟨p2,hp2⟩:∃p,p=w1.heap.size:=⟨_,rfl⟩
 rw[<-hp2]at H1;obtain⟨w2,hw2⟩:∃W,W=w1.alloc (.cells #[.int .i64 nd.born,.slice xk nd.known.length ck,.int .i64 nd.beacon,.int .i64 nd.level,.int .i64 nd.up] 55):=⟨_,rfl⟩
 rw[<-hw2]at H1;have H:=hd_ H1;have hWB2:Below w.heap.size w w2:=by have:=H1.below;rwa[hp1]at this
 obtain⟨c0,c1',c2,c3⟩:=H1.p1.cells4;obtain⟨d0,d1,d2,d3,d4⟩:=H1.cells5;obtain⟨t1,ht1⟩:∃b,b=in6 nd.beacon 0 (nodeAt n 0).beacon:=⟨_,rfl⟩
 have KB:=hd_ (imBeaconOk_at w2 (v2:=v2) (v3:=v3) (v4:=v4) ((slcR_frame nodeR_frame _ _).below h1 hWB2 lr_) ht1);rw[<-ht1]at HB0;have i0:(0:Int)<=(i:Int):=by omega
 have i5':(i:Int)<5:=by omega
 have HSZ:=hd_ (show w1.heap.size=w.heap.size+1 by rw[hw1];simp);clear ht1 H0 H1 hWB hWB2 h1 h5 hnd eN c0 c1' c2 c3 d0 d1 d2 d3 d4 a0 a1 a2 a3;rw[hw1]at b0 b1 b2 b3 b4;go_enter Tryz.func81,Tryz.ntmps81
 go_wp2_with fail
 rw[<-hw1, <-HSZ.out, <-hp1, <-hp2, <-hw2];clear hw1 hp1 hp2 hw2 b0 b1 b2 b3 b4;refine KB.out.mono ?_;rintro e w3 ⟨rfl,hb⟩;have H3:=hd_ (H.out.later hb);clear hb KB H;obtain⟨d0,d1,d2,d3,d4⟩:=H3.out.cells5;rcases t1 with _|_
 case false=>
  go_wp2;go_ret;exact⟨by rw[HB0.out];rfl,by rw[<-HP.out];exact H3.out.below⟩
 by_cases hi:i=0
 ·subst hi
  obtain⟨l0,hl0⟩:∃b,b=(nd.level==0):=⟨_,rfl⟩
  obtain⟨u0,hu0⟩:∃b,b=(nd.up== -1):=⟨_,rfl⟩
  obtain⟨b0,hb0⟩:∃b,b=decide (nd.beacon<=1000):=⟨_,rfl⟩
  have NB2:Hid (hearsB n ((0:Nat):Int)=(l0&&(u0&&b0))):=hd_ (by rw[HB0.out,if_pos (by rfl),hl0,hu0,hb0];rfl);have ga:=hl0.symm;have gb:=hu0.symm;have gc:=hb0.symm;clear hl0 hu0 hb0 HB0;refine steps2 (a:=l0) (b:=u0) ?_ ?_ ?_
  all_goals
   first
    |(intro e1 e2;subst e1 e2)
    |(intro e1;subst e1)
   go_wp2;go_ret;exact⟨by rw[NB2.out];rfl,by rw[<-HP.out];exact H3.out.below⟩
 have hi':((i:Int)==0)=false:=by simpa using hi
 by_cases hl:nd.level=5
 ·have gl:(nd.level==5)=true:=by simpa using hl
  have NB2:Hid (hearsB n (i:Int)=(nd.up== -1)):=hd_ (by rw[HB0.out,if_neg (by simpa using hi),if_pos hl];rfl);clear hl;go_wp2;go_ret;exact⟨by rw[NB2.out];rfl,by rw[<-HP.out];exact H3.out.below⟩
 have gl:(nd.level==5)=false:=by simpa using hl
 obtain⟨q1,hq1⟩:∃b,b=decide (1<=nd.level):=⟨_,rfl⟩
 obtain⟨q2,hq2⟩:∃b,b=decide (nd.level<5):=⟨_,rfl⟩
 obtain⟨q3,hq3⟩:∃b,b=two (i:Int) nd.up:=⟨_,rfl⟩
 have NB2:Hid (hearsB n (i:Int)=(q1&&(q2&&q3))):=hd_ (by rw[HB0.out,if_neg (by simpa using hi),if_neg hl,hq1,hq2,hq3];rfl);have ga:=hq1.symm;have gb:=hq2.symm;have K3:=hd_ (areTwo_is hq3);clear hq1 hq2 hq3 hl hi HB0;refine steps2 (a:=q1) (b:=q2) ?_ ?_ ?last
 case last=>
  intro e1 e2;subst e1 e2
  go_wp2_with fail
  refine (K3.out _).mono ?_;rintro e' w' ⟨rfl,hw'⟩;rw[<-hw'];clear hw' w' K3;go_wp2;go_ret;exact⟨by rw[NB2.out];simp,by rw[<-HP.out];exact H3.out.below⟩
 all_goals
  first
   |(intro e1 e2;subst e1 e2)
   |(intro e1;subst e1)
  go_wp2;go_ret;exact⟨by rw[NB2.out];rfl,by rw[<-HP.out];exact H3.out.below⟩
theorem isThing_is {a:Int} {b:Bool} (h:b=in6 a 0 63) (w:World):Calls Tryz.prog 106 #[.int .i64 a] w fun e w'=>e=.returned (.bool b)/\w=w':=by
 cases b with
 |true=>exact isThing_yes a w (in6_iff.1 h.symm).1 (by have:=(in6_iff.1 h.symm).2;omega)
 |false=>exact isThing_no a w (by have:=of_decide_eq_false h.symm;omega)
end N
end Go.Proofs.YtcblbdpdbggkbaaGreat
set_option linter.unusedVariables false
set_option linter.unusedSectionVars false
set_option linter.unusedSimpArgs false
namespace Go.Proofs.YtcblbdpdbggkbaaGreat
open Go.RowKit Go.Sort
namespace N
def pastI (rs:List (List Int)) (born:Int):Bool:=in6 born 1 20&&(decide ((rs.length:Int)=born+1)&&(decide ((rs.getD 0 []).length=0)&&rs.all rowB))
theorem imPastOk_at (w:World) {xr:Option Addr} {cr:Nat} {rs:List (List Int)} {f:List Nat} (h:rowsR w [.slice xr rs.length cr] rs f) (born:Int):
  Calls Tryz.prog 80 #[.slice xr rs.length cr,.int .i64 born] w fun r w'=>r=.returned (.bool (pastI rs born))/\w'=w:=by
 have hm:rs.length<=maxLen:=by obtain⟨_,_,_,q1,q2⟩:=slcR_value h;omega
 unfold maxLen at hm;have H:=hd_ h;clear h;obtain⟨q1,hq1⟩:∃b,b=decide (born<1):=⟨_,rfl⟩
 obtain⟨q2,hq2⟩:∃b,b=decide (20<born):=⟨_,rfl⟩
 have g1:=hq1.symm;have g2:=hq2.symm;have P0:Hid (in6 born 1 20=(!q1&& !q2)):=hd_ (by
    rw[hq1,hq2]
    unfold in6
    by_cases x:born<1<;>by_cases y:20<born<;>simp[x,y]<;>omega)
 go_enter Tryz.func80,Tryz.ntmps80;rcases q1 with _|_
 case true=>
  have F:Hid (pastI rs born=false):=hd_ (by unfold pastI;rw[P0.out];rfl);clear hq1 hq2;go_wp2;go_ret;exact⟨by rw[F.out];rfl,rfl⟩
 rcases q2 with _|_
 case true=>
  have F:Hid (pastI rs born=false):=hd_ (by unfold pastI;rw[P0.out];rfl);clear hq1 hq2;go_wp2;go_ret;exact⟨by rw[F.out];rfl,rfl⟩
 have o1:=of_decide_eq_false hq1.symm;have o2:=of_decide_eq_false hq2.symm;have P1:Hid (pastI rs born=(decide ((rs.length:Int)=born+1)&&(decide ((rs.getD 0 []).length=0)&&rs.all rowB))):=hd_ (by unfold pastI;rw[P0.out];rfl);have bw:IntKind.i64.wrap (born+1)=born+1:=IntWalk.i64_in _ (by omega);clear hq1 hq2
 by_cases hA:(rs.length:Int)=born+1
 case neg=>
  have F:Hid (pastI rs born=false):=hd_ (by rw[P1.out,decide_eq_false hA];rfl);have gA:((rs.length:Int) != born+1)=true:=by simpa using hA
  clear hA;go_wp2;go_ret;exact⟨by rw[F.out];rfl,rfl⟩
 have gA:((rs.length:Int) != born+1)=false:=by simpa using hA
 have r0:0<rs.length:=by omega
 have r0':(0:Int)<(rs.length:Int):=by omega
 have HA:=hd_ hA;clear hA;obtain⟨l0,hl0⟩:∃l,rs[0]? =some l:=⟨_,List.getElem?_eq_getElem r0⟩
 obtain⟨g5,xl,cl,fl,rfl,_,_,_,_,_,b2⟩:=row_at H.out hl0;have EL0:Hid (rs.getD 0 []=l0):=hd_ (by rw[List.getD_eq_getElem?_getD,hl0];rfl);clear hl0
 by_cases hB:l0.length=0
 case neg=>
  have F:Hid (pastI rs born=false):=hd_ (by rw[P1.out,EL0.out,decide_eq_false hB,Bool.false_and,Bool.and_false]);have gN:0<l0.length:=by omega
  have gB:decide ((0:Int)<(l0.length:Int))=true:=by simpa using gN
  clear hB;go_wp2;go_ret;exact⟨by rw[F.out];rfl,rfl⟩
 have gN:¬ 0<l0.length:=by omega
 have gB:decide ((0:Int)<(l0.length:Int))=false:=by simpa using gN
 have FB:Hid (pastI rs born=rs.all rowB):=hd_ (by rw[P1.out,EL0.out,decide_eq_true HA.out,decide_eq_true hB];rfl);clear hB;go_wp2;clear b2 gA gB gN bw g1 g2 o1 o2 r0 r0';go_loopw [31] (fun z wr=>∃j:Nat,j<=rs.length/\z=.int .i64 j/\(∀(a:Nat) (x:List Int),a<j->rs[a]? =some x->rowB x=true)/\wr=w) (fun z _=>rs.length - (intOf z).toNat)
 case atStart=>exact⟨0,Nat.zero_le _,rfl,fun a x h=>absurd h (Nat.not_lt_zero _),rfl⟩
 case round=>
  obtain⟨j,hj,rfl,hno,hwr⟩:=hrel;subst wr;have NO:=hd_ hno;clear hno
  by_cases hlt:j<rs.length
  ·obtain⟨lb,hlb⟩:∃l,rs[j]? =some l:=⟨_,List.getElem?_eq_getElem hlt⟩
   obtain⟨g6,xb,cb,fb,eg,_,_,rb,rbc,rbm,b3⟩:=row_at H.out hlb;cases eg;have IB:Hid (Ints w (.slice xb lb.length cb) lb):=hd_ (by
        obtain⟨v,ev,ho,_⟩:=intsR_to rb
        cases ev
        exact ho)
   have HLB:=hd_ hlb;unfold maxLen at rbm;have j0:(0:Int)<=(j:Int):=by omega
   have j1:(j:Int)<(rs.length:Int):=by omega
   clear rb hlb
   by_cases hg:100<lb.length
   ·have F:Hid (pastI rs born=false):=hd_ (by rw[FB.out];exact all_bad HLB.out (row_long hg))
    have gg:decide ((100:Int)<(lb.length:Int))=true:=decide_eq_true (by omega);clear hg;go_wp2;go_ret;exact⟨by rw[F.out];rfl,by first|rfl|trivial⟩
   have gg:decide ((100:Int)<(lb.length:Int))=false:=decide_eq_false (by omega);have HG:=hd_ hg;clear hg;go_wp2;clear gg b3;go_loopw [40] (fun z wr=>∃q:Nat,q<=lb.length/\z=.int .i64 q/\(∀a:Nat,a<q->in6 (lb.getD a 0) 0 63=true)/\wr=w) (fun z _=>lb.length - (intOf z).toNat)
   case atStart=>exact⟨0,Nat.zero_le _,rfl,fun a h=>absurd h (Nat.not_lt_zero _),rfl⟩
   case round=>
    obtain⟨q,hq,rfl,hin,hwr⟩:=hrel;subst wr;have IN:=hd_ hin;clear hin
    by_cases hql:q<lb.length
    ·obtain⟨b6,o6,rfl,c6⟩:=ints_el IB.out hql
     have HV:=hd_ (fun (h:in6 (lb.getD q 0) 0 63=false)=>row_bad hql h);have IN2:Hid (in6 (lb.getD q 0) 0 63=true->∀a:Nat,a<q+1->in6 (lb.getD a 0) 0 63=true):=hd_ fun h a ha=>by
      by_cases e:a<q
      ·exact IN.out a e
      ·obtain rfl:a=q:=by omega
       exact h
     obtain⟨v,hv⟩:∃v,v=lb.getD q 0:=⟨_,rfl⟩
     rw[<-hv]at c6 HV IN2;clear hv;obtain⟨t,ht⟩:∃t,t=in6 v 0 63:=⟨_,rfl⟩
     rw[<-ht]at HV IN2;have KI:=hd_ (isThing_is ht);have q0:(0:Int)<=(q:Int):=by omega
     have q1:(q:Int)<(lb.length:Int):=by omega
     clear ht
     go_wp2_with fail
     refine (KI.out _).mono ?_;rintro r w' ⟨rfl,hw'⟩;rw[<-hw'];clear hw' w' KI;cases t with
     |false=>
      have F:Hid (pastI rs born=false):=hd_ (by rw[FB.out];exact all_bad HLB.out (HV.out rfl));clear HV IN2;go_wp2;go_ret;exact⟨by rw[F.out];rfl,by first|rfl|trivial⟩
     |true=>
      have IN3:=hd_ (IN2.out rfl);clear HV IN2;go_wp2;go_roundw
      case rel=>exact⟨q+1,by omega,by go_num,IN3.out,by first|rfl|trivial⟩
      case measure=>simp[intOf];omega
    ·obtain rfl:q=lb.length:=by omega
     have RO:=hd_ (row_ok IN.out HG.out);have NO2:Hid (∀(a:Nat) (x:List Int),a<j+1->rs[a]? =some x->rowB x=true):=hd_ fun a x ha hx=>by
      by_cases e:a<j
      ·exact NO.out a x e hx
      ·obtain rfl:a=j:=by omega
       rw[HLB.out]at hx;cases hx;exact RO.out
     go_wp2;go_roundw
     case rel=>exact⟨j+1,by omega,by go_num,NO2.out,by first|rfl|trivial⟩
     case measure=>simp[intOf];omega
  ·have F:Hid (pastI rs born=true):=hd_ (by rw[FB.out];exact all_idx.2 fun a x hx=>NO.out a x (by have:=(List.getElem?_eq_some_iff.1 hx).1;omega) hx)
   obtain rfl:j=rs.length:=by omega
   go_wp2;go_ret;exact⟨by rw[F.out];rfl,by first|rfl|trivial⟩
end N
end Go.Proofs.YtcblbdpdbggkbaaGreat
set_option linter.unusedVariables false
set_option linter.unusedSectionVars false
set_option linter.unusedSimpArgs false
namespace Go.Proofs.YtcblbdpdbggkbaaGreat
open Go.RowKit Go.Sort Go.ChangeMaps
namespace N
theorem past_row {n:Nt} {i b:Int} (h:(rowsAt n i).all rowB=true):rowB (pastAt n i b)=true:=by
 unfold pastAt;rw[List.getD_eq_getElem?_getD];cases q:(rowsAt n i)[b.toNat]? with
 |none=>rfl
 |some l=>exact List.all_eq_true.1 h l (List.mem_of_getElem? q)
theorem row_fine {l:List Int} (h:rowB l=true) (k:Nat):okS (upS (l.take k))=true:=by
 unfold rowB at h;simp only[Bool.and_eq_true,List.all_eq_true,decide_eq_true_eq]at h;refine up_fine (fun t ht=>in6_iff.1 (h.1 t (List.mem_of_mem_take ht))) ?_;rw[List.length_take];omega
theorem sameS_comm (a b:Sm):sameS a b=sameS b a:=by
 rw[Bool.eq_iff_iff,sameS_iff,sameS_iff];exact⟨Eq.symm,Eq.symm⟩
def Fine (n:Nt):Prop:=∀i:Nat,i<5->(rowsAt n (i:Int)).all rowB=true
theorem entry_is {n:Nt} (hf:Fine n) (e:En):entryB n e=(wasB n e&&sameS e.s (sumP n (e.node,e.born,e.num))):=by
 unfold entryB wasB sumP
 by_cases h:in6 e.node 0 4=true
 ·have hr:rowB (pastAt n e.node e.born)=true:=past_row (by
      obtain⟨a,b⟩:=in6_iff.1 h
      have:=hf e.node.toNat (by omega)
      rwa[show ((e.node.toNat:Nat):Int)=e.node by omega]at this)
  rw[h,row_fine hr,sameS_comm e.s,Bool.true_and,Bool.true_and,Bool.true_and,Bool.and_assoc]
 ·rw[Bool.eq_false_iff.2 h];rfl
theorem was_parts {n:Nt} (hs:Shape n) {e:En} (h:wasB n e=true):∃i j q:Nat,i<5/\j<(rowsAt n (i:Int)).length/\q<=(pastAt n (i:Int) (j:Int)).length/\e.node=i/\e.born=j/\e.num=q:=by
 unfold wasB at h;simp only[Bool.and_eq_true,in6_iff]at h;obtain⟨⟨a0,a1⟩,⟨b0,b1⟩,c0,c1⟩:=h;have en:((e.node.toNat:Nat):Int)=e.node:=by omega
 have eb:((e.born.toNat:Nat):Int)=e.born:=by omega
 have eq:((e.num.toNat:Nat):Int)=e.num:=by omega
 refine⟨e.node.toNat,e.born.toNat,e.num.toNat,by omega,?_,?_,en.symm,eb.symm,eq.symm⟩
 ·have:=hs.rows e.node.toNat (by omega)
  rw[en]at this ⊢;omega
 ·rw[en,eb];omega
theorem imSumAt_e {n:Nt} {w0:World} {v1 v2 v3:Value} {x4:Option Addr} {c4:Nat} (hn:NetRd w0 v1 v2 v3 (.slice x4 5 c4) n) (hs:Shape n) {e:En} (he:wasB n e=true) {m:Nat} (w:World) (l:List Ch) (h:M w0.heap.size w0 w (memoC m (sumP n)::l)):
  Calls Tryz.prog 200 #[.agg #[.slice x4 5 c4,.map (some m)],.agg #[.int .i64 e.node,.int .i64 e.born,.int .i64 e.num]] w fun r w'=>∃V s,r=.returned (.agg #[.slice V.xr V.nr V.cr,.slice V.xf V.nf V.cf,.slice V.xt V.nt V.ct,.int .i64 s.lo,.int .i64 s.al,.slice V.xk V.nk V.ck,.int .i64 s.ka])/\s=sumP n (e.node,e.born,e.num)/\M w0.heap.size w0 w' (memoV m (sumP n) V s::l):=by
 obtain⟨i,j,q,h1,h2,h3,e1,e2,e3⟩:=was_parts hs he;rw[e1,e2,e3];exact imSumAt_at hn hs h1 h2 q h3 rfl h
theorem imEntriesOk_at {n:Nt} {w0:World} {x1 x4:Option Addr} {c1 c4:Nat} {v2 v3:Value} (hn:NetRd w0 (.slice x1 5 c1) v2 v3 (.slice x4 5 c4) n) (hs:Shape n) (hf:Fine n) (w:World) {m:Nat} {l:List Ch} (hm:M w0.heap.size w0 w (memoC m (sumP n)::l)) {xk:Option Addr} {ck:Nat} {es:List En} {f:List Nat} (h:knownR TY w0 [.slice xk es.length ck] es f):
  Calls Tryz.prog 156 #[.agg #[.slice x1 5 c1,v2,v3,.slice x4 5 c4],.slice xk es.length ck,.agg #[.slice x4 5 c4,.map (some m)]] w fun r w'=>r=.returned (.bool (knownB n es))/\M w0.heap.size w0 w' (memoC m (sumP n)::l):=by
 obtain⟨_,_,e1,q1,q2⟩:=slcR_value h;have hlen:es.length<=maxLen:=Nat.le_trans q1 q2;unfold maxLen at hlen;clear e1 q1 q2;have H1:=hd_ h;have HN:=hd_ hn;have HS:=hd_ hs;have HF:=hd_ hf;have h2:=(hm.alloc #[.slice x1 5 c1,v2,v3,.slice x4 5 c4] 30).alloc #[.slice x4 5 c4,.map (some m)] 120;simp only[World.size_alloc]at h2;obtain⟨p3,hp3⟩:∃p,p=w.heap.size:=⟨_,rfl⟩
 obtain⟨p5,hp5⟩:∃p,p=w.heap.size+1:=⟨_,rfl⟩
 obtain⟨W2,hW2⟩:∃W',W'=(w.alloc (.cells #[.slice x1 5 c1,v2,v3,.slice x4 5 c4] 30)).alloc (.cells #[.slice x4 5 c4,.map (some m)] 120):=⟨_,rfl⟩
 rw[<-hW2, <-hp5, <-hp3]at h2;have H:=hd_ h2;clear h hn hs hf hm h2;go_enter Tryz.func156,Tryz.ntmps156;go_wp2;rw[<-hW2, <-hp5, <-hp3];clear hW2 hp3 hp5
 go_loopw [7,12] (fun y z wr=>∃(j:Nat) (t:Int),j<=es.length/\z=.int .i64 (j:Int)/\y=.int .i64 t/\(j=0->t= -1)/\(0<j->∃d,es[j - 1]? =some d/\t=d.node)/\(∀(a:Nat) (x:En),a<j->es[a]? =some x->entryB n x=true/\(0<a->∀d:En,es[a - 1]? =some d->d.node<x.node))/\M w0.heap.size w0 wr (boxC p5 120 #[.slice x4 5 c4,.map (some m)]::boxC p3 30 #[.slice x1 5 c1,v2,v3,.slice x4 5 c4]::memoC m (sumP n)::l)) (fun _ z _=>es.length - (intOf z).toNat)
 case atStart=>exact⟨0, -1,Nat.zero_le _,rfl,rfl,fun _=>rfl,fun q=>absurd q (Nat.lt_irrefl _),fun a x h=>absurd h (Nat.not_lt_zero _),H.out⟩
 case round=>
  clear H;obtain⟨j,t,hj,rfl,rfl,t0,t1,hno,hm⟩:=hrel;have NO:=hd_ hno;have H:=hd_ hm;have T0:=hd_ t0;have T1:=hd_ t1;clear hno hm t0 t1
  by_cases hlt:j<es.length
  ·obtain⟨x,hx⟩:∃x,es[j]? =some x:=⟨_,List.getElem?_eq_getElem hlt⟩
   obtain⟨g,V,fe,rfl,_,_,sr,ca0,ca1,ca2,cas⟩:=known_at H1.out hx;have RV:=hd_ (rds_of sr);have hWB:=H.out.below;replace ca0:=cell_later hWB ca0;replace ca1:=cell_later hWB ca1;replace ca2:=cell_later hWB ca2;have ca3:=cell_later hWB (cas 0 _ rfl);have ca4:=cell_later hWB (cas 1 _ rfl);have ca5:=cell_later hWB (cas 2 _ rfl);have ca6:=cell_later hWB (cas 3 _ rfl)
   have ca7:=cell_later hWB (cas 4 _ rfl);have ca8:=cell_later hWB (cas 5 _ rfl);have ca9:=cell_later hWB (cas 6 _ rfl);have HX:=hd_ hx;clear cas hWB sr hx;have k0:(0:Int)<=(j:Int):=by omega
   have k1:(j:Int)<(es.length:Int):=by omega
   have h2:=H.out.alloc #[.int .i64 x.node,.int .i64 x.born,.int .i64 x.num,.slice V.xr V.nr V.cr,.slice V.xf V.nf V.cf,.slice V.xt V.nt V.ct,.int .i64 (x.s).lo,.int .i64 (x.s).al,.slice V.xk V.nk V.ck,.int .i64 (x.s).ka] 64;obtain⟨p9,hp9⟩:∃p,p=wr.heap.size:=⟨_,rfl⟩
   obtain⟨W,hW⟩:∃W',W'=wr.alloc (.cells #[.int .i64 x.node,.int .i64 x.born,.int .i64 x.num,.slice V.xr V.nr V.cr,.slice V.xf V.nf V.cf,.slice V.xt V.nt V.ct,.int .i64 (x.s).lo,.int .i64 (x.s).al,.slice V.xk V.nk V.ck,.int .i64 (x.s).ka] 64):=⟨_,rfl⟩
   rw[<-hW, <-hp9]at h2;have H2:=hd_ h2.drew;clear h2 H;go_upto_region 5 with fail
   rw[<-hW, <-hp9];clear hW hp9 ca0 ca1 ca2 ca3 ca4 ca5 ca6 ca7 ca8 ca9
   have hcells:∀(W':World) (c1':Ch) (l':List Ch),M w0.heap.size w0 W' (c1'::boxC p9 64 #[.int .i64 x.node,.int .i64 x.born,.int .i64 x.num,.slice V.xr V.nr V.cr,.slice V.xf V.nf V.cf,.slice V.xt V.nt V.ct,.int .i64 (x.s).lo,.int .i64 (x.s).al,.slice V.xk V.nk V.ck,.int .i64 (x.s).ka]::boxC p5 120 #[.slice x4 5 c4,.map (some m)]::boxC p3 30 #[.slice x1 5 c1,v2,v3,.slice x4 5 c4]::l')->Cells W' (b4L p3 (.slice x1 5 c1) v2 v3 (.slice x4 5 c4)++([(⟨p5,0,none⟩,.slice x4 5 c4),(⟨p5,1,none⟩,.map (some m))]++b10L p9 x.node x.born x.num V x.s)):=fun _ _ _ h=>by
    obtain⟨d0,d1,d2,d3,d4,d5,d6,d7,d8,d9⟩:=h.p1.cells10;obtain⟨t0,t1⟩:=h.p2.cells2;obtain⟨a0,a1,a2,a3⟩:=h.p3.cells4;exact⟨a0,a1,a2,a3,t0,t1,d0,d1,d2,d3,d4,d5,d6,d7,d8,d9,trivial⟩
   have HC:=hd_ hcells;clear hcells;have C0:=hd_ (HC.out _ _ _ H2.out.p3);have KW:=hd_ (imWas_at W.drew V x (HN.out.below H2.out.below lr_) HS.out);have EI:=hd_ (entry_is HF.out x)
   by_cases hle:x.node<=t
   ·have F:Hid (knownB n es=false):=hd_ (by
          by_cases j0:j=0
          · have tt:=T0.out j0
            refine known_bad HX.out (.inl ?_)
            unfold entryB in6
            rw[decide_eq_false (by omega)];rfl
          · obtain⟨d,hd,td⟩:=T1.out (by omega)
            exact known_bad HX.out (.inr ⟨by omega,d,hd,by omega⟩))
    have gl:decide (x.node<=t)=true:=decide_eq_true hle;clear hle KW EI
    refine wp_region_plan 99 (.tk 0 7 (.alt 7 (.tk 8 7 (.alt 15 (.alt 16 (.alt 17 (.tk 18 2 .done) .nomore) .nomore) .nomore)) .nomore)) (fun w'=>Cells w' (b4L p3 (.slice x1 5 c1) v2 v3 (.slice x4 5 c4)++([(⟨p5,0,none⟩,.slice x4 5 c4),(⟨p5,1,none⟩,.map (some m))]++b10L p9 x.node x.born x.num V x.s))) (by kernel_rfl) (by kernel_rfl) (fun _ _ _ _ _ h=>h) C0.out ?_
    repeat ((first|(refine plan_take (by rfl) (by rfl) ?_;apply Exists.intro;refine⟨fun w' hw'=>?_,?_⟩;(· ((try simp only[Cells,Cells_app,b4L,b5L,b6L,b7L,b10L,N.entL,and_true]at hw');go_simp;(try with_reducible rfl))))|(refine plan_skip (by rfl) (by rfl) ?_));simp only[Act.put,List.getElem_toArray,List.getElem_cons_succ,pg3,pg4,pg5,pg6])
    refine plan_last (by rfl) (fun K' hK=>?_);go_simp;refine hK _ _ (.inr C0.out) ?_;clear hK K'
    try simp only[Act.put,List.getElem_toArray,List.getElem_cons_succ,pg3,pg4,pg5,pg6]
    repeat ((first|(refine plan_take (by rfl) (by rfl) ?_;apply Exists.intro;refine⟨fun w' hw'=>?_,?_⟩;(· ((try simp only[Cells,Cells_app,b4L,b5L,b6L,b7L,b10L,N.entL,and_true]at hw');go_simp;(try with_reducible rfl))))|(refine plan_skip (by rfl) (by rfl) ?_));simp only[Act.put,List.getElem_toArray,List.getElem_cons_succ,pg3,pg4,pg5,pg6])
    refine plan_last (by rfl) (fun K' hK=>?_);go_simp;refine hK _ _ (.inr C0.out) ?_;clear hK K'
    try simp only[Act.put,List.getElem_toArray,List.getElem_cons_succ,pg3,pg4,pg5,pg6]
    refine plan_last (by rfl) (fun K' hK=>?_);go_simp;refine hK _ _ (.inr C0.out) ?_;clear hK K'
    try simp only[Act.put,List.getElem_toArray,List.getElem_cons_succ,pg3,pg4,pg5,pg6]
    refine plan_last (by rfl) (fun K' hK=>?_);go_simp;refine hK _ _ (.inr C0.out) ?_;clear hK K'
    try simp only[Act.put,List.getElem_toArray,List.getElem_cons_succ,pg3,pg4,pg5,pg6]
    repeat ((first|(refine plan_take (by rfl) (by rfl) ?_;apply Exists.intro;refine⟨fun w' hw'=>?_,?_⟩;(· ((try simp only[Cells,Cells_app,b4L,b5L,b6L,b7L,b10L,N.entL,and_true]at hw');go_simp;(try with_reducible rfl))))|(refine plan_skip (by rfl) (by rfl) ?_));simp only[Act.put,List.getElem_toArray,List.getElem_cons_succ,pg3,pg4,pg5,pg6])
    refine plan_done ?_;go_wp2;go_ret;exact⟨by rw[F.out];rfl,H2.out.drop.drop.drop⟩
   have gl:decide (x.node<=t)=false:=decide_eq_false hle;have HLE:=hd_ hle;clear hle;obtain⟨q1,hq1⟩:∃q,q=wasB n x:=⟨_,rfl⟩
   rw[<-hq1]at EI KW;cases q1 with
   |false=>
    have F:Hid (knownB n es=false):=hd_ (known_bad HX.out (.inl (by rw[EI.out];rfl)));clear hq1 EI
    refine wp_region_plan 99 (.tk 0 7 (.alt 7 (.tk 8 7 (.alt 15 (.alt 16 (.alt 17 (.tk 18 2 .done) .nomore) .nomore) .nomore)) .nomore)) (fun w'=>Cells w' (b4L p3 (.slice x1 5 c1) v2 v3 (.slice x4 5 c4)++([(⟨p5,0,none⟩,.slice x4 5 c4),(⟨p5,1,none⟩,.map (some m))]++b10L p9 x.node x.born x.num V x.s))) (by kernel_rfl) (by kernel_rfl) (fun _ _ _ _ _ h=>h) C0.out ?_
    repeat ((first|(refine plan_take (by rfl) (by rfl) ?_;apply Exists.intro;refine⟨fun w' hw'=>?_,?_⟩;(· ((try simp only[Cells,Cells_app,b4L,b5L,b6L,b7L,b10L,N.entL,and_true]at hw');go_simp;(try with_reducible rfl))))|(refine plan_skip (by rfl) (by rfl) ?_));simp only[Act.put,List.getElem_toArray,List.getElem_cons_succ,pg3,pg4,pg5,pg6])
    refine plan_last (by rfl) (fun K' hK=>?_);go_simp;refine KW.out.mono ?_;rintro e' w1 ⟨rfl,hb⟩;have C1:=hd_ (C0.out.below hb);have H3:=hd_ (H2.out.later hb);clear hb KW H2 C0;refine hK _ _ (.inr C1.out) ?_;clear hK K'
    try simp only[Act.put,List.getElem_toArray,List.getElem_cons_succ,pg3,pg4,pg5,pg6]
    repeat ((first|(refine plan_take (by rfl) (by rfl) ?_;apply Exists.intro;refine⟨fun w' hw'=>?_,?_⟩;(· ((try simp only[Cells,Cells_app,b4L,b5L,b6L,b7L,b10L,N.entL,and_true]at hw');go_simp;(try with_reducible rfl))))|(refine plan_skip (by rfl) (by rfl) ?_));simp only[Act.put,List.getElem_toArray,List.getElem_cons_succ,pg3,pg4,pg5,pg6])
    refine plan_last (by rfl) (fun K' hK=>?_);go_simp;refine hK _ _ (.inr C1.out) ?_;clear hK K'
    try simp only[Act.put,List.getElem_toArray,List.getElem_cons_succ,pg3,pg4,pg5,pg6]
    refine plan_last (by rfl) (fun K' hK=>?_);go_simp;refine hK _ _ (.inr C1.out) ?_;clear hK K'
    try simp only[Act.put,List.getElem_toArray,List.getElem_cons_succ,pg3,pg4,pg5,pg6]
    refine plan_last (by rfl) (fun K' hK=>?_);go_simp;refine hK _ _ (.inr C1.out) ?_;clear hK K'
    try simp only[Act.put,List.getElem_toArray,List.getElem_cons_succ,pg3,pg4,pg5,pg6]
    repeat ((first|(refine plan_take (by rfl) (by rfl) ?_;apply Exists.intro;refine⟨fun w' hw'=>?_,?_⟩;(· ((try simp only[Cells,Cells_app,b4L,b5L,b6L,b7L,b10L,N.entL,and_true]at hw');go_simp;(try with_reducible rfl))))|(refine plan_skip (by rfl) (by rfl) ?_));simp only[Act.put,List.getElem_toArray,List.getElem_cons_succ,pg3,pg4,pg5,pg6])
    refine plan_done ?_;go_wp2;go_ret;exact⟨by rw[F.out];rfl,H3.out.drop.drop.drop⟩
   |true=>
    have KS:=hd_ (fun (w':World) (l':List Ch) (h:M w0.heap.size w0 w' (memoC m (sumP n)::l'))=>imSumAt_e HN.out HS.out hq1.symm w' l' h);obtain⟨q2,hq2⟩:∃q,q=sameS x.s (sumP n (x.node,x.born,x.num)):=⟨_,rfl⟩
    rw[<-hq2]at EI;have Q2:=hd_ hq2;clear hq1 hq2;cases q2 with
    |false=>
     have F:Hid (knownB n es=false):=hd_ (known_bad HX.out (.inl (by rw[EI.out];rfl)));clear EI
     refine wp_region_plan 99 (.tk 0 7 (.alt 7 (.tk 8 7 (.alt 15 (.alt 16 (.alt 17 (.tk 18 2 .done) .nomore) .nomore) .nomore)) .nomore)) (fun w'=>Cells w' (b4L p3 (.slice x1 5 c1) v2 v3 (.slice x4 5 c4)++([(⟨p5,0,none⟩,.slice x4 5 c4),(⟨p5,1,none⟩,.map (some m))]++b10L p9 x.node x.born x.num V x.s))) (by kernel_rfl) (by kernel_rfl) (fun _ _ _ _ _ h=>h) C0.out ?_
     repeat ((first|(refine plan_take (by rfl) (by rfl) ?_;apply Exists.intro;refine⟨fun w' hw'=>?_,?_⟩;(· ((try simp only[Cells,Cells_app,b4L,b5L,b6L,b7L,b10L,N.entL,and_true]at hw');go_simp;(try with_reducible rfl))))|(refine plan_skip (by rfl) (by rfl) ?_));simp only[Act.put,List.getElem_toArray,List.getElem_cons_succ,pg3,pg4,pg5,pg6])
     refine plan_last (by rfl) (fun K' hK=>?_);go_simp;refine KW.out.mono ?_;rintro e' w1 ⟨rfl,hb⟩;have C1:=hd_ (C0.out.below hb);have H3:=hd_ (H2.out.later hb);clear hb KW H2 C0;refine hK _ _ (.inr C1.out) ?_;clear hK K'
     try simp only[Act.put,List.getElem_toArray,List.getElem_cons_succ,pg3,pg4,pg5,pg6]
     repeat ((first|(refine plan_take (by rfl) (by rfl) ?_;apply Exists.intro;refine⟨fun w' hw'=>?_,?_⟩;(· ((try simp only[Cells,Cells_app,b4L,b5L,b6L,b7L,b10L,N.entL,and_true]at hw');go_simp;(try with_reducible rfl))))|(refine plan_skip (by rfl) (by rfl) ?_));simp only[Act.put,List.getElem_toArray,List.getElem_cons_succ,pg3,pg4,pg5,pg6])
     refine plan_last (by rfl) (fun K' hK=>?_);go_simp;refine (imMomentOf_at w1 V x).mono ?_;rintro e' w2 ⟨rfl,hb⟩;have C2:=hd_ (C1.out.below hb);have H4:=hd_ (H3.out.later hb);clear hb H3 C1;refine hK _ _ (.inr C2.out) ?_;clear hK K'
     try simp only[Act.put,List.getElem_toArray,List.getElem_cons_succ,pg3,pg4,pg5,pg6]
     refine plan_last (by rfl) (fun K' hK=>?_);go_simp;refine (KS.out _ _ H4.out.p3).mono ?_;rintro e' w3 ⟨V3,s3,rfl,es3,hm3⟩;have H5:=hd_ hm3;have E3:=hd_ es3;clear hm3 es3 KS C2 H4;refine hK _ _ (.inr (HC.out _ _ _ H5.out)) ?_;clear hK K'
     try simp only[Act.put,List.getElem_toArray,List.getElem_cons_succ,pg3,pg4,pg5,pg6]
     refine plan_last (by rfl) (fun K' hK=>?_);go_simp;refine (imSameSum_at w3 (RV.out.below H5.out.below lr_) (memo_rd H5.out)).mono ?_;rintro e' w4 ⟨rfl,hb⟩;rw[E3.out];rw[<-Q2.out];have H6:=hd_ (memo_forget (H5.out.later hb)).p3.p3.p3;have C6:=hd_ (Cells.below (HC.out _ _ _ H5.out) hb);clear hb H5;refine hK _ _ (.inr C6.out) ?_;clear hK K'
     try simp only[Act.put,List.getElem_toArray,List.getElem_cons_succ,pg3,pg4,pg5,pg6]
     repeat ((first|(refine plan_take (by rfl) (by rfl) ?_;apply Exists.intro;refine⟨fun w' hw'=>?_,?_⟩;(· ((try simp only[Cells,Cells_app,b4L,b5L,b6L,b7L,b10L,N.entL,and_true]at hw');go_simp;(try with_reducible rfl))))|(refine plan_skip (by rfl) (by rfl) ?_));simp only[Act.put,List.getElem_toArray,List.getElem_cons_succ,pg3,pg4,pg5,pg6])
     refine plan_done ?_;go_wp2;go_ret;exact⟨by rw[F.out];rfl,H6.out.drop.drop.drop⟩
    |true=>
     have NO2:Hid (∀(a:Nat) (y:En),a<j+1->es[a]? =some y->entryB n y=true/\(0<a->∀d:En,es[a - 1]? =some d->d.node<y.node)):=hd_ fun a y ha hy=>by
      by_cases e:a<j
      ·exact NO.out a y e hy
      ·obtain rfl:a=j:=by omega
       rw[HX.out]at hy;cases hy;refine⟨by rw[EI.out];rfl,fun a0 d hd=>?_⟩;obtain⟨d',hd',td⟩:=T1.out a0;rw[hd]at hd';cases hd';have:=HLE.out;omega
     have TX:Hid (0<j+1->∃d,es[j+1 - 1]? =some d/\x.node=d.node):=hd_ fun _=>⟨x,by rw[Nat.add_sub_cancel];exact HX.out,rfl⟩
     clear EI;refine wp_region_plan 99 (.tk 0 7 (.alt 7 (.tk 8 7 (.alt 15 (.alt 16 (.alt 17 (.tk 18 2 .done) .nomore) .nomore) .nomore)) .nomore)) (fun w'=>Cells w' (b4L p3 (.slice x1 5 c1) v2 v3 (.slice x4 5 c4)++([(⟨p5,0,none⟩,.slice x4 5 c4),(⟨p5,1,none⟩,.map (some m))]++b10L p9 x.node x.born x.num V x.s))) (by kernel_rfl) (by kernel_rfl) (fun _ _ _ _ _ h=>h) C0.out ?_
     repeat ((first|(refine plan_take (by rfl) (by rfl) ?_;apply Exists.intro;refine⟨fun w' hw'=>?_,?_⟩;(· ((try simp only[Cells,Cells_app,b4L,b5L,b6L,b7L,b10L,N.entL,and_true]at hw');go_simp;(try with_reducible rfl))))|(refine plan_skip (by rfl) (by rfl) ?_));simp only[Act.put,List.getElem_toArray,List.getElem_cons_succ,pg3,pg4,pg5,pg6])
     refine plan_last (by rfl) (fun K' hK=>?_);go_simp;refine KW.out.mono ?_;rintro e' w1 ⟨rfl,hb⟩;have C1:=hd_ (C0.out.below hb);have H3:=hd_ (H2.out.later hb);clear hb KW H2 C0;refine hK _ _ (.inr C1.out) ?_;clear hK K'
     try simp only[Act.put,List.getElem_toArray,List.getElem_cons_succ,pg3,pg4,pg5,pg6]
     repeat ((first|(refine plan_take (by rfl) (by rfl) ?_;apply Exists.intro;refine⟨fun w' hw'=>?_,?_⟩;(· ((try simp only[Cells,Cells_app,b4L,b5L,b6L,b7L,b10L,N.entL,and_true]at hw');go_simp;(try with_reducible rfl))))|(refine plan_skip (by rfl) (by rfl) ?_));simp only[Act.put,List.getElem_toArray,List.getElem_cons_succ,pg3,pg4,pg5,pg6])
     refine plan_last (by rfl) (fun K' hK=>?_);go_simp;refine (imMomentOf_at w1 V x).mono ?_;rintro e' w2 ⟨rfl,hb⟩;have C2:=hd_ (C1.out.below hb);have H4:=hd_ (H3.out.later hb);clear hb H3 C1;refine hK _ _ (.inr C2.out) ?_;clear hK K'
     try simp only[Act.put,List.getElem_toArray,List.getElem_cons_succ,pg3,pg4,pg5,pg6]
     refine plan_last (by rfl) (fun K' hK=>?_);go_simp;refine (KS.out _ _ H4.out.p3).mono ?_;rintro e' w3 ⟨V3,s3,rfl,es3,hm3⟩;have H5:=hd_ hm3;have E3:=hd_ es3;clear hm3 es3 KS C2 H4;refine hK _ _ (.inr (HC.out _ _ _ H5.out)) ?_;clear hK K'
     try simp only[Act.put,List.getElem_toArray,List.getElem_cons_succ,pg3,pg4,pg5,pg6]
     refine plan_last (by rfl) (fun K' hK=>?_);go_simp;refine (imSameSum_at w3 (RV.out.below H5.out.below lr_) (memo_rd H5.out)).mono ?_;rintro e' w4 ⟨rfl,hb⟩;rw[E3.out];rw[<-Q2.out];have H6:=hd_ (memo_forget (H5.out.later hb)).p3.p3.p3;have C6:=hd_ (Cells.below (HC.out _ _ _ H5.out) hb);clear hb H5;refine hK _ _ (.inr C6.out) ?_;clear hK K'
     try simp only[Act.put,List.getElem_toArray,List.getElem_cons_succ,pg3,pg4,pg5,pg6]
     repeat ((first|(refine plan_take (by rfl) (by rfl) ?_;apply Exists.intro;refine⟨fun w' hw'=>?_,?_⟩;(· ((try simp only[Cells,Cells_app,b4L,b5L,b6L,b7L,b10L,N.entL,and_true]at hw');go_simp;(try with_reducible rfl))))|(refine plan_skip (by rfl) (by rfl) ?_));simp only[Act.put,List.getElem_toArray,List.getElem_cons_succ,pg3,pg4,pg5,pg6])
     refine plan_done ?_;obtain⟨d0,d1,d2,d3,d4,d5,d6,d7,d8,d9⟩:=H6.out.cells10;go_wp2;go_roundw
     case rel=>exact⟨j+1,x.node,by omega,by go_num,rfl,fun q=>absurd q (by omega),TX.out,NO2.out,H6.out.drop⟩
     case measure=>simp[intOf];omega
  ·obtain rfl:j=es.length:=by omega
   have F:Hid (knownB n es=true):=hd_ (known_idx.2 fun a x hx=>NO.out a x (List.getElem?_eq_some_iff.1 hx).1 hx);go_wp2;go_ret;exact⟨by rw[F.out];rfl,H.out.drop.drop⟩
end N
end Go.Proofs.YtcblbdpdbggkbaaGreat
set_option linter.unusedVariables false
set_option linter.unusedSectionVars false
set_option linter.unusedSimpArgs false
namespace Go.Proofs.YtcblbdpdbggkbaaGreat
open Go.RowKit Go.Sort Go.ChangeMaps
namespace N
theorem imKnownOk_at {n:Nt} {w0:World} {x1 x4:Option Addr} {c1 c4:Nat} {v2 v3:Value} (hn:NetRd w0 (.slice x1 5 c1) v2 v3 (.slice x4 5 c4) n) (hs:Shape n) (hf:Fine n) (hb:∀i:Nat,i<5->1<=(nodeAt n (i:Int)).born) (w:World) {m:Nat} {l:List Ch} (hm:M w0.heap.size w0 w (memoC m (sumP n)::l)) {i:Nat} (i5:i<5):
  Calls Tryz.prog 82 #[.agg #[.slice x1 5 c1,v2,v3,.slice x4 5 c4],.int .i64 (i:Int),.agg #[.slice x4 5 c4,.map (some m)]] w fun r w'=>r=.returned (.bool (knownB n (nodeAt n (i:Int)).known&&ownB n (i:Int)))/\M w0.heap.size w0 w' (memoC m (sumP n)::l):=by
 obtain⟨f1,n1⟩:=hn.nodes;obtain⟨f4,n4⟩:=hn.past;obtain⟨nd,hnd⟩:∃nd,n.nodes[i]? =some nd:=⟨_,List.getElem?_eq_getElem (by rw[hs.nodes];exact i5)⟩
 obtain⟨rs,hrs⟩:∃rs,n.past[i]? =some rs:=⟨_,List.getElem?_eq_getElem (by rw[hs.past];exact i5)⟩
 have eN:nodeAt n (i:Int)=nd:=by unfold nodeAt;rw[List.getD_eq_getElem?_getD,Int.toNat_natCast,hnd];rfl
 have eR:rowsAt n (i:Int)=rs:=by unfold rowsAt;rw[List.getD_eq_getElem?_getD,Int.toNat_natCast,hrs];rfl
 have eL:=hs.rows i i5;have eB:=hb i i5;rw[eN]at eL eB;rw[eR]at eL;obtain⟨g1,xk,ck,fk,rfl,_,_,rk,_,_,b0,b1,b2,b3,b4⟩:=node_at n1 hnd;obtain⟨g4,xr,cr,fr,rfl,_,_,rr,_,_,y0⟩:=past_at n4 hrs;obtain⟨born,known,beacon,level,up⟩:=nd;simp only at eL eB b0 b1 b2 b3 b4 rk;obtain⟨j,rfl⟩:∃j:Nat,born=j:=⟨born.toNat,by omega⟩
 have jr:j<rs.length:=by omega
 obtain⟨lp,hlp⟩:∃lp,rs[j]? =some lp:=⟨_,List.getElem?_eq_getElem jr⟩
 have EP:Hid (pastAt n (i:Int) (j:Int)=lp):=hd_ (by unfold pastAt;rw[eR,List.getD_eq_getElem?_getD,Int.toNat_natCast,hlp];rfl);obtain⟨g5,xl,cl,fl,rfl,_,_,_,lc,lm,y1⟩:=row_at rr hlp;have OB:Hid (ownB n (i:Int)=match findE known (i:Int)with|some e=>decide (e.born=(j:Int))&&decide (e.num=(lp.length:Int))|none=>false):=hd_ (by unfold ownB;rw[eN];simp only[EP.out];cases findE known (i:Int)<;>rfl)
 rw[eN];have BJ:=hd_ eB;have Y0:=hd_ y0;have Y1:=hd_ y1;have RK:=hd_ rk;have HN:=hd_ hn;have HS:=hd_ hs;have HF:=hd_ hf;have i0:(0:Int)<=(i:Int):=by omega
 have i5':(i:Int)<5:=by omega
 have j0:(0:Int)<=(j:Int):=by omega
 have j1:(j:Int)<(rs.length:Int):=by omega
 have h1:=(hm.alloc #[.slice (some ⟨g1,0,none⟩) 5 c1,v2,v3,.slice (some ⟨g4,0,none⟩) 5 c4] 30).alloc #[.slice (some ⟨g4,0,none⟩) 5 c4,.map (some m)] 120;simp only[World.size_alloc]at h1;obtain⟨p3,hp3⟩:∃p,p=w.heap.size:=⟨_,rfl⟩
 obtain⟨p5,hp5⟩:∃p,p=w.heap.size+1:=⟨_,rfl⟩
 obtain⟨W1,hW1⟩:∃W',W'=(w.alloc (.cells #[.slice (some ⟨g1,0,none⟩) 5 c1,v2,v3,.slice (some ⟨g4,0,none⟩) 5 c4] 30)).alloc (.cells #[.slice (some ⟨g4,0,none⟩) 5 c4,.map (some m)] 120):=⟨_,rfl⟩
 rw[<-hW1, <-hp5, <-hp3]at h1;have H1:=hd_ h1;replace b0:=cell_later h1.below b0;replace b1:=cell_later h1.below b1;replace b2:=cell_later h1.below b2;replace b3:=cell_later h1.below b3;replace b4:=cell_later h1.below b4;obtain⟨a0,a1,a2,a3⟩:=h1.p1.cells4;have h2:=h1.alloc #[.int .i64 (j:Int),.slice xk known.length ck,.int .i64 beacon,.int .i64 level,.int .i64 up] 55
 obtain⟨p7,hp7⟩:∃p,p=W1.heap.size:=⟨_,rfl⟩
 obtain⟨W2,hW2⟩:∃W',W'=W1.alloc (.cells #[.int .i64 (j:Int),.slice xk known.length ck,.int .i64 beacon,.int .i64 level,.int .i64 up] 55):=⟨_,rfl⟩
 rw[<-hW2, <-hp7]at h2;have H2:=hd_ h2;have KO:=hd_ (imEntryOf_at W2 ((slcR_frame entryR_frame _ _).below RK.out h2.below lr_) (i:Int));clear h1 h2 hn hs hf hb hm n1 n4 hnd hrs eN eR eL eB rk rr hlp lc lm y0 y1 jr H1;go_enter Tryz.func82,Tryz.ntmps82;go_upto_region 1 with fail
 rw[<-hW1, <-hp5, <-hp3];clear hW1 hp5 hp3;go_upto_region 2 with fail
 rw[<-hW2, <-hp7];clear hW2 hp7 a0 a1 a2 a3 b0 b1 b2 b3 b4;obtain⟨d0,d1,d2,d3,d4⟩:=H2.out.cells5
 go_wp2_with fail
 refine KO.out.mono ?_;rintro r w3 ⟨⟨u,rfl,hu⟩,hb⟩;have H3:=hd_ (H2.out.later hb);clear hb KO H2 d0 d1 d2 d3 d4
 obtain⟨ua,ub,uc,V,s,q1,q2,rfl,hq1,hq2,ho⟩:∃(ua ub uc:Int) (V:SV) (s:Sm) (q1 q2:Bool),u=.agg #[.int .i64 ua,.int .i64 ub,.int .i64 uc,.slice V.xr V.nr V.cr,.slice V.xf V.nf V.cf,.slice V.xt V.nt V.ct,.int .i64 s.lo,.int .i64 s.al,.slice V.xk V.nk V.ck,.int .i64 s.ka]/\(ub==(j:Int))=q1/\(uc==(lp.length:Int))=q2/\ownB n (i:Int)=(q1&&q2):=by
  rcases hu with ⟨e,V,h1,h2,h3⟩|⟨h1,h3⟩
  ·refine⟨e.node,e.born,e.num,V,e.s,_,_,h3,rfl,rfl,?_⟩
   rw[OB.out,h1]
   rfl
  ·refine⟨0,0,0,SV.none,noSm,false,_,h3,?_,rfl,?_⟩
   ·have:=BJ.out
    simp;omega
   ·rw[OB.out,h1]
    rfl
 have HO:=hd_ ho;clear hu ho OB;have h4:=H3.out.alloc #[.int .i64 ua,.int .i64 ub,.int .i64 uc,.slice V.xr V.nr V.cr,.slice V.xf V.nf V.cf,.slice V.xt V.nt V.ct,.int .i64 s.lo,.int .i64 s.al,.slice V.xk V.nk V.ck,.int .i64 s.ka] 64;obtain⟨p8,hp8⟩:∃p,p=w3.heap.size:=⟨_,rfl⟩
 obtain⟨W4,hW4⟩:∃W',W'=w3.alloc (.cells #[.int .i64 ua,.int .i64 ub,.int .i64 uc,.slice V.xr V.nr V.cr,.slice V.xf V.nf V.cf,.slice V.xt V.nt V.ct,.int .i64 s.lo,.int .i64 s.al,.slice V.xk V.nk V.ck,.int .i64 s.ka] 64):=⟨_,rfl⟩
 rw[<-hW4, <-hp8]at h4;have H4:=hd_ h4.drew;clear h4 H3;go_upto_region 3 with fail
 rw[<-hW4, <-hp8];clear hW4 hp8
 have hcells:∀(W':World) (c1':Ch) (l':List Ch),M w0.heap.size w0 W' (c1'::boxC p8 64 #[.int .i64 ua,.int .i64 ub,.int .i64 uc,.slice V.xr V.nr V.cr,.slice V.xf V.nf V.cf,.slice V.xt V.nt V.ct,.int .i64 s.lo,.int .i64 s.al,.slice V.xk V.nk V.ck,.int .i64 s.ka]::boxC p7 55 #[.int .i64 (j:Int),.slice xk known.length ck,.int .i64 beacon,.int .i64 level,.int .i64 up]::boxC p5 120 #[.slice (some ⟨g4,0,none⟩) 5 c4,.map (some m)]::boxC p3 30 #[.slice (some ⟨g1,0,none⟩) 5 c1,v2,v3,.slice (some ⟨g4,0,none⟩) 5 c4]::l')->Cells W' (b4L p3 (.slice (some ⟨g1,0,none⟩) 5 c1) v2 v3 (.slice (some ⟨g4,0,none⟩) 5 c4)++([(⟨p5,0,none⟩,.slice (some ⟨g4,0,none⟩) 5 c4),(⟨p5,1,none⟩,.map (some m))]++(b5L p7 (.int .i64 (j:Int)) (.slice xk known.length ck) (.int .i64 beacon) (.int .i64 level) (.int .i64 up)++(b10L p8 ua ub uc V s++[(⟨g4,i,none⟩,.slice (some ⟨g5,0,none⟩) rs.length cr),(⟨g5,j,none⟩,.slice xl lp.length cl)])))):=fun _ _ _ h=>by
  obtain⟨d0,d1,d2,d3,d4,d5,d6,d7,d8,d9⟩:=h.p1.cells10;obtain⟨e0,e1,e2,e3,e4⟩:=h.p2.cells5;obtain⟨t0,t1⟩:=h.p3.cells2;obtain⟨a0,a1,a2,a3⟩:=h.p4.cells4;exact⟨a0,a1,a2,a3,t0,t1,e0,e1,e2,e3,e4,d0,d1,d2,d3,d4,d5,d6,d7,d8,d9,cell_later h.below Y0.out,cell_later h.below Y1.out,trivial⟩
 have HC:=hd_ hcells;clear hcells;obtain⟨q0,hq0⟩:∃q,q=knownB n known:=⟨_,rfl⟩
 have KE:=hd_ (imEntriesOk_at HN.out HS.out HF.out W4.drew H4.out.p4 RK.out);rw[<-hq0]at KE;have RES:Hid ((knownB n known&&ownB n (i:Int))=(q0&&(q1&&q2))):=hd_ (by rw[<-hq0,HO.out]);clear hq0 HO;have C0:=hd_ (HC.out _ _ _ H4.out.p4);refine steps3 (a:=q0) (b:=q1) (c:=q2) ?_ ?_ ?_ ?_
 all_goals
  first
   |(intro e0 e1 e2;subst e0 e1 e2)
   |(intro e0 e1;subst e0 e1)
   |(intro e0;subst e0)
  refine wp_region_plan 99 (.tk 0 4 (.alt 4 (.tk 5 22 (.alt 27 .done .nomore)) .nomore)) (fun w'=>Cells w' (b4L p3 (.slice (some ⟨g1,0,none⟩) 5 c1) v2 v3 (.slice (some ⟨g4,0,none⟩) 5 c4)++([(⟨p5,0,none⟩,.slice (some ⟨g4,0,none⟩) 5 c4),(⟨p5,1,none⟩,.map (some m))]++(b5L p7 (.int .i64 (j:Int)) (.slice xk known.length ck) (.int .i64 beacon) (.int .i64 level) (.int .i64 up)++(b10L p8 ua ub uc V s++[(⟨g4,i,none⟩,.slice (some ⟨g5,0,none⟩) rs.length cr),(⟨g5,j,none⟩,.slice xl lp.length cl)]))))) (by kernel_rfl) (by kernel_rfl) (fun _ _ _ _ _ h=>h) C0.out ?_
  repeat ((first|(refine plan_take (by rfl) (by rfl) ?_;apply Exists.intro;refine⟨fun w' hw'=>?_,?_⟩;(· ((try simp only[Cells,Cells_app,b4L,b5L,b6L,b7L,b10L,N.entL,and_true]at hw');go_simp;(try with_reducible rfl))))|(refine plan_skip (by rfl) (by rfl) ?_));simp only[Act.put,List.getElem_toArray,List.getElem_cons_succ,pg3,pg4,pg5,pg6])
  refine plan_last (by rfl) (fun K' hK=>?_);go_simp;refine KE.out.mono ?_;rintro e' w5 ⟨rfl,hm5⟩;have H5:=hd_ hm5;clear hm5;refine hK _ _ (.inr (HC.out _ _ _ H5.out)) ?_;clear hK K'
  try simp only[Act.put,List.getElem_toArray,List.getElem_cons_succ,pg3,pg4,pg5,pg6]
  repeat ((first|(refine plan_take (by rfl) (by rfl) ?_;apply Exists.intro;refine⟨fun w' hw'=>?_,?_⟩;(· ((try simp only[Cells,Cells_app,b4L,b5L,b6L,b7L,b10L,N.entL,and_true]at hw');go_simp;(try with_reducible rfl))))|(refine plan_skip (by rfl) (by rfl) ?_));simp only[Act.put,List.getElem_toArray,List.getElem_cons_succ,pg3,pg4,pg5,pg6])
  refine plan_last (by rfl) (fun K' hK=>?_);go_simp;refine hK _ _ (.inr (HC.out _ _ _ H5.out)) ?_;clear hK K';refine plan_done ?_;go_wp2;go_ret;exact⟨by rw[RES.out];first|rfl|simp,H5.out.p1.drop.p1.drop.p1.drop.p1.drop⟩
end N
end Go.Proofs.YtcblbdpdbggkbaaGreat
set_option linter.unusedVariables false
set_option linter.unusedSectionVars false
set_option linter.unusedSimpArgs false
namespace Go.Proofs.YtcblbdpdbggkbaaGreat
open Go.RowKit Go.Sort Go.ChangeMaps
namespace N
theorem two_ends (x:Wd):endsB x=two x.src x.dst:=by
 unfold endsB two;rw[Bool.and_assoc]
theorem imWordOk_at {n:Nt} {w0:World} {x1 x4:Option Addr} {c1 c4:Nat} {v2 v3:Value} (hn:NetRd w0 (.slice x1 5 c1) v2 v3 (.slice x4 5 c4) n) (hs:Shape n) (hf:Fine n) (w:World) {m:Nat} {l:List Ch} (hm:M w0.heap.size w0 w (memoC m (sumP n)::l)) (x:Wd) {xk:Option Addr} {ck:Nat} {f:List Nat} (h:knownR TY w0 [.slice xk x.known.length ck] x.known f):
  Calls Tryz.prog 83 #[.agg #[.slice x1 5 c1,v2,v3,.slice x4 5 c4],.agg #[.int .i64 x.kind,.int .i64 x.src,.int .i64 x.dst,.int .i64 x.beacon,.int .i64 x.level,.slice xk x.known.length ck],.agg #[.slice x4 5 c4,.map (some m)]] w fun r w'=>r=.returned (.bool (wordB n x))/\M w0.heap.size w0 w' (memoC m (sumP n)::l):=by
 obtain⟨f1,n1⟩:=hn.nodes;have h1:=((hm.alloc #[.slice x1 5 c1,v2,v3,.slice x4 5 c4] 30).alloc #[.int .i64 x.kind,.int .i64 x.src,.int .i64 x.dst,.int .i64 x.beacon,.int .i64 x.level,.slice xk x.known.length ck] 123).alloc #[.slice x4 5 c4,.map (some m)] 120;simp only[World.size_alloc]at h1;obtain⟨p3,hp3⟩:∃p,p=w.heap.size:=⟨_,rfl⟩
 obtain⟨p4,hp4⟩:∃p,p=w.heap.size+1:=⟨_,rfl⟩
 obtain⟨p5,hp5⟩:∃p,p=w.heap.size+1+1:=⟨_,rfl⟩
 obtain⟨W1,hW1⟩:∃W',W'=((w.alloc (.cells #[.slice x1 5 c1,v2,v3,.slice x4 5 c4] 30)).alloc (.cells #[.int .i64 x.kind,.int .i64 x.src,.int .i64 x.dst,.int .i64 x.beacon,.int .i64 x.level,.slice xk x.known.length ck] 123)).alloc (.cells #[.slice x4 5 c4,.map (some m)] 120):=⟨_,rfl⟩
 rw[<-hW1, <-hp5, <-hp4, <-hp3]at h1;have H1:=hd_ h1;obtain⟨a0,a1,a2,a3⟩:=h1.p2.cells4;obtain⟨d0,d1,d2,d3,d4,d5⟩:=h1.p1.cells6;obtain⟨t0,t1⟩:=h1.cells2
 have HF:Hid (∀b,b=two x.src x.dst->wordB n x=(b&&(if x.kind=1 then (in6 x.beacon 0 (nodeAt n 0).beacon&&(in6 x.level 0 4&&decide (x.known.length=0)))else if x.kind=2 then (decide (x.beacon=0)&&(decide (x.level=0)&&knownB n x.known))else false))):=hd_ fun b hb=>by
  unfold wordB;rw[two_ends,hb]
  by_cases k1:x.kind=1
  ·simp[k1]
  ·by_cases k2:x.kind=2<;>simp[k1,k2]
 obtain⟨b,hb⟩:∃b,b=two x.src x.dst:=⟨_,rfl⟩
 have WF:=hd_ (HF.out b hb);have KT:=hd_ (areTwo_at W1 x.src x.dst);rw[<-hb]at KT;have HS:=hd_ hs;have HFi:=hd_ hf;have HN:=hd_ hn;have HR:=hd_ h;have N1:=hd_ n1;obtain⟨kind,src,dst,beacon,level,known⟩:=x;simp only at *;clear h1 hm HF hb hs hf hn h n1;go_enter Tryz.func83,Tryz.ntmps83;go_upto_region 1 with fail
 rw[<-hW1, <-hp5, <-hp4, <-hp3];clear hW1 hp5 hp4 hp3
 go_wp2_with fail
 refine KT.out.mono ?_;rintro r w2 ⟨rfl,hw2⟩;rw[<-hw2];clear hw2 w2 KT;rcases b with _|_
 case false=>
  have F:Hid (wordB n ⟨kind,src,dst,beacon,level,known⟩=false):=hd_ (by rw[WF.out];rfl);go_wp2;go_ret;exact⟨by rw[F.out];rfl,H1.out.drop.drop.drop⟩
 by_cases k1:kind=1
 ·subst k1
  obtain⟨b1,hb1⟩:∃b,b=in6 beacon 0 (nodeAt n 0).beacon:=⟨_,rfl⟩
  have KB:=hd_ (imBeaconOk_at W1 (v2:=v2) (v3:=v3) (v4:=.slice x4 5 c4) ((slcR_frame nodeR_frame _ _).below N1.out H1.out.below lr_) hb1);obtain⟨b2,hb2⟩:∃b,b=decide (0<=level):=⟨_,rfl⟩
  obtain⟨b3,hb3⟩:∃b,b=decide (level<5):=⟨_,rfl⟩
  obtain⟨b4,hb4⟩:∃b,b=((known.length:Int)==0):=⟨_,rfl⟩
  have RES:Hid (wordB n ⟨1,src,dst,beacon,level,known⟩=(b1&&(b2&&(b3&&b4)))):=hd_ (by
      rw[WF.out,if_pos rfl, <-hb1,hb2,hb3,hb4]
      unfold in6
      by_cases x:0<=level<;>by_cases y:level<5<;>by_cases z:known.length=0<;>simp[x,y,z]<;>omega)
  have g2:=hb2.symm;have g3:=hb3.symm;have g4:=hb4.symm;clear hb1 hb2 hb3 hb4 WF
  go_wp2_with fail
  refine KB.out.mono ?_;rintro r w2 ⟨rfl,hb⟩;have H2:=hd_ (H1.out.later hb);clear hb KB H1 a0 a1 a2 a3 d0 d1 d2 d3 d4 d5 t0 t1;obtain⟨d0,d1,d2,d3,d4,d5⟩:=H2.out.p1.cells6;refine steps4 (a:=b1) (b:=b2) (c:=b3) (d:=b4) ?_ ?_ ?_ ?_ ?_
  all_goals
   first
    |(intro e0 e1 e2 e3;subst e0 e1 e2 e3)
    |(intro e0 e1 e2;subst e0 e1 e2)
    |(intro e0 e1;subst e0 e1)
    |(intro e0;subst e0)
   go_wp2;go_ret;exact⟨by rw[RES.out];first|rfl|simp,H2.out.drop.drop.drop⟩
 have gk1:(kind==1)=false:=by simpa using k1
 by_cases k2:kind=2
 ·subst k2
  obtain⟨b1,hb1⟩:∃b,b=(beacon==0):=⟨_,rfl⟩
  obtain⟨b2,hb2⟩:∃b,b=(level==0):=⟨_,rfl⟩
  obtain⟨b3,hb3⟩:∃b,b=knownB n known:=⟨_,rfl⟩
  have KE:=hd_ (imEntriesOk_at HN.out HS.out HFi.out W1 H1.out.p3 HR.out);rw[<-hb3]at KE;have RES:Hid (wordB n ⟨2,src,dst,beacon,level,known⟩=(b1&&(b2&&b3))):=hd_ (by
      rw[WF.out,if_neg k1,if_pos rfl,hb1,hb2,hb3];rfl)
  have g1:=hb1.symm;have g2:=hb2.symm;clear hb1 hb2 hb3 WF;rcases b1 with _|_
  case false=>
   go_wp2;go_ret;exact⟨by rw[RES.out];rfl,H1.out.drop.drop.drop⟩
  rcases b2 with _|_
  case false=>
   go_wp2;go_ret;exact⟨by rw[RES.out];rfl,H1.out.drop.drop.drop⟩
  go_wp2_with fail
  refine KE.out.mono ?_;rintro r w2 ⟨rfl,hm2⟩;have H2:=hd_ hm2;clear hm2 KE;go_wp2;go_ret;exact⟨by rw[RES.out];rfl,H2.out.p1.drop.p1.drop.p1.drop⟩
 have gk2:(kind==2)=false:=by simpa using k2
 have F:Hid (wordB n ⟨kind,src,dst,beacon,level,known⟩=false):=hd_ (by rw[WF.out,if_neg k1,if_neg k2];rfl);clear k1 k2;go_wp2;go_ret;exact⟨by rw[F.out];rfl,H1.out.drop.drop.drop⟩
end N
end Go.Proofs.YtcblbdpdbggkbaaGreat
set_option linter.unusedVariables false
set_option linter.unusedSectionVars false
set_option linter.unusedSimpArgs false
namespace Go.Proofs.YtcblbdpdbggkbaaGreat
open Go.RowKit Go.Sort
namespace N
def plB (ls:List Bool) (k:Nat):Bool:= !(ls.getD k false) || (!(decide ((k:Int) / 5=(k:Int) % 5))&&lkP ls 25 ((k:Int) % 5) ((k:Int) / 5))
def linksI (ls:List Bool):Bool:=decide (ls.length=25)&&(List.range 25).all (plB ls)
theorem linksI_bad {ls:List Bool} {k:Nat} (hk:k<25) (h:plB ls k=false):linksI ls=false:=by
 unfold linksI;rw[all_bad (i:=k) (a:=k) (p:=plB ls) (by rw[List.getElem?_range hk]) h,Bool.and_false]
theorem linksI_ok {ls:List Bool} (hl:ls.length=25) (h:∀k,k<25->plB ls k=true):linksI ls=true:=by
 unfold linksI;rw[decide_eq_true hl,List.all_eq_true.2 (fun k hk=>h k (List.mem_range.1 hk))];rfl
theorem linksI_short {ls:List Bool} (hl:ls.length≠25):linksI ls=false:=by
 unfold linksI;rw[decide_eq_false hl];rfl
theorem imLinksOk_at (w:World) {x:Option Addr} {c:Nat} {ls:List Bool} {f:List Nat} (h:linksR TY w [.slice x ls.length c] ls f):
  Calls Tryz.prog 79 #[.slice x ls.length c] w fun r w'=>r=.returned (.bool (linksI ls))/\Below w.heap.size w w':=by
 obtain⟨n,hn⟩:∃n,n=ls.length:=⟨_,rfl⟩
 rw[<-hn]at h ⊢
 by_cases h5:n=25
 case neg=>
  have F:Hid (linksI ls=false):=hd_ (linksI_short (by omega));have g:((n:Int) != 25)=true:=by simpa using (show (n:Int)≠25 by omega)
  clear h hn h5;go_enter Tryz.func79,Tryz.ntmps79;go_wp2;go_ret;exact⟨by rw[F.out];rfl,Below.refl _ _⟩
 subst h5;have H1:=hd_ h;have HL:=hd_ hn.symm;clear h hn;have KL:=hd_ (imLinksOf_at w H1.out);have g:(((25:Nat):Int) != 25)=false:=by decide
 go_enter Tryz.func79,Tryz.ntmps79
 go_wp2_with fail
 refine KL.out.mono ?_;rintro r w1 ⟨m,g0,rfl,hm,hg⟩;have H:=hd_ hm;have HG:=hd_ hg;have HB:=hd_ hm.below;clear hm hg KL g;go_wp2;go_loopw [14] (fun z wr=>∃k:Nat,k<=25/\z=.int .i64 (k:Int)/\M w.heap.size w wr [mapC EndOk endV m g0]/\(∀j,j<k->plB ls j=true)) (fun z _=>25 - (intOf z).toNat)
 case atStart=>exact⟨0,Nat.zero_le _,rfl,H.out,fun j hj=>absurd hj (Nat.not_lt_zero _)⟩
 case round=>
  clear H HB;obtain⟨k,hk,rfl,hm,hno⟩:=hrel;have H:=hd_ hm;have NO:=hd_ hno;clear hm hno
  by_cases hlt:k<25
  ·obtain⟨u,hu⟩:∃u,ls[k]? =some u:=⟨_,List.getElem?_eq_getElem (by rw[HL.out];exact hlt)⟩
   obtain⟨g1,rfl,_,c0⟩:=link_at H1.out hu;have HU:Hid (plB ls k=(!u || (!(decide ((k:Int) / 5=(k:Int) % 5))&&lkP ls 25 ((k:Int) % 5) ((k:Int) / 5)))):=hd_ (by unfold plB;rw[List.getD_eq_getElem?_getD,hu];rfl);replace c0:=cell_later H.out.below c0;have KE:=hd_ (fun W=>endsAt_at W k hlt)
   have EO:=hd_ (show EndOk ((k:Int) % 5,(k:Int) / 5)from⟨⟨by simp;omega,by simp;omega⟩,⟨by simp;omega,by simp;omega⟩⟩);have HK:=hd_ hlt;have k0:(0:Int)<=(k:Int):=by omega
   have k1:(k:Int)<25:=by omega
   clear hu
   go_wp2_with fail
   refine (KE.out _).mono ?_;rintro e w4 ⟨rfl,hb⟩;have H2:=hd_ ((H.out.later hb).alloc #[.int .i64 ((k:Int) / 5),.int .i64 ((k:Int) % 5)] 130);clear hb H KE c0;have NX:Hid (plB ls k=true->∀j,j<k+1->plB ls j=true):=hd_ fun h j hj=>by
    by_cases e:j<k
    ·exact NO.out j e
    ·obtain rfl:j=k:=by omega
     exact h
   obtain⟨t,ht⟩:∃t,t=lkP ls 25 ((k:Int) % 5) ((k:Int) / 5):=⟨_,rfl⟩
   have LL:=look_link H2.out.p1 HG.out ((k:Int) % 5) ((k:Int) / 5) EO.out;rw[<-ht]at HU LL;clear ht;cases u with
   |false=>
    have NY:=hd_ (NX.out (by rw[HU.out];rfl));clear NX HU LL;go_wp2;go_roundw
    case rel=>exact⟨k+1,by omega,by go_num,H2.out.drop,NY.out⟩
    case measure=>simp[intOf];omega
   |true=>
    by_cases hq:(k:Int) / 5=(k:Int) % 5
    ·have F:Hid (linksI ls=false):=hd_ (linksI_bad HK.out (by rw[HU.out,decide_eq_true hq];rfl))
     have gq:((k:Int) / 5==(k:Int) % 5)=true:=by simpa using hq
     clear hq NX HU LL;go_wp2;go_ret;exact⟨by rw[F.out];rfl,H2.out.below⟩
    ·have gq:((k:Int) / 5==(k:Int) % 5)=false:=by simpa using hq
     have HQ:=hd_ hq;clear hq;cases t with
     |false=>
      have F:Hid (linksI ls=false):=hd_ (linksI_bad HK.out (by rw[HU.out];simp));clear NX HU;go_wp2;go_ret;exact⟨by rw[F.out];rfl,H2.out.below⟩
     |true=>
      have NY:=hd_ (NX.out (by rw[HU.out,decide_eq_false HQ.out];rfl));clear NX HU;go_wp2;go_roundw
      case rel=>exact⟨k+1,by omega,by go_num,H2.out.drop,NY.out⟩
      case measure=>simp[intOf];omega
  ·obtain rfl:k=25:=by omega
   have F:Hid (linksI ls=true):=hd_ (linksI_ok HL.out NO.out);go_wp2;go_ret;exact⟨by rw[F.out];rfl,H.out.below⟩
end N
end Go.Proofs.YtcblbdpdbggkbaaGreat
set_option linter.unusedVariables false
set_option linter.unusedSectionVars false
set_option linter.unusedSimpArgs false
namespace Go.Proofs.YtcblbdpdbggkbaaGreat
open Go.RowKit Go.Sort
namespace N
theorem whole_k {n:Nt} {k:Nat}:n.links.getD k false=whole n ((k:Int) / 5) ((k:Int) % 5):=by
 unfold whole
 congr 1
 omega
theorem lk_whole {n:Nt} {a b:Int} (ha:isNode a) (hb:isNode b):lkP n.links 25 a b=whole n a b:=by
 unfold lkP whole;unfold isNode at ha hb;rw[decide_eq_true (by omega),Bool.true_and]
theorem plB_eq {n:Nt} {k:Nat} (hk:k<25):plB n.links k=(!(whole n ((k:Int) / 5) ((k:Int) % 5)) || (!(decide ((k:Int) / 5=(k:Int) % 5))&&whole n ((k:Int) % 5) ((k:Int) / 5))):=by
 unfold plB;rw[whole_k,lk_whole (by unfold isNode;omega) (by unfold isNode;omega)]
theorem links_ok {n:Nt} (h:NetOk n):linksI n.links=true:=by
 refine linksI_ok h.links fun k hk=>?_
 have h1:isNode ((k:Int) / 5):=by unfold isNode;omega
 have h2:isNode ((k:Int) % 5):=by unfold isNode;omega
 rw[plB_eq hk]
 by_cases e:(k:Int) / 5=(k:Int) % 5
 ·rw[e,h.self _ h2];rfl
 ·rw[h.either _ _ h1 h2,decide_eq_false e]
  cases whole n ((k:Int) % 5) ((k:Int) / 5)<;>rfl
theorem links_pl {n:Nt} (h:linksI n.links=true):n.links.length=25/\∀k,k<25->plB n.links k=true:=by
 unfold linksI at h;simp only[Bool.and_eq_true,decide_eq_true_eq,List.all_eq_true,List.mem_range]at h;exact h
theorem links_self {n:Nt} (h:linksI n.links=true) {i:Int} (hi:isNode i):whole n i i=false:=by
 unfold isNode at hi;have:=(links_pl h).2 (i * 5+i).toNat (by omega);rw[plB_eq (by omega)]at this;rw[show (((i * 5+i).toNat:Nat):Int) / 5=i by omega,show (((i * 5+i).toNat:Nat):Int) % 5=i by omega]at this;cases q:whole n i i with
 |false=>rfl
 |true=>rw[q]at this;simp at this
theorem links_half {n:Nt} (h:linksI n.links=true) {i j:Int} (hi:isNode i) (hj:isNode j) (q:whole n i j=true):whole n j i=true:=by
 unfold isNode at hi hj;have:=(links_pl h).2 (i * 5+j).toNat (by omega);rw[plB_eq (by omega)]at this;rw[show (((i * 5+j).toNat:Nat):Int) / 5=i by omega,show (((i * 5+j).toNat:Nat):Int) % 5=j by omega,q]at this;simp only[Bool.not_true,Bool.false_or,Bool.and_eq_true]at this;exact this.2
theorem links_either {n:Nt} (h:linksI n.links=true) {i j:Int} (hi:isNode i) (hj:isNode j):whole n i j=whole n j i:=by
 cases q:whole n i j with
 |true=>exact (links_half h hi hj q).symm
 |false=>
  cases r:whole n j i with
  |false=>rfl
  |true=>rw[links_half h hj hi r]at q;cases q
theorem past_is {n:Nt} {i:Int}:pastI (rowsAt n i) (nodeAt n i).born=(in6 (nodeAt n i).born 1 20&&pastB n i):=by
 unfold pastI pastB pastAt
 rfl
theorem hears_root {n:Nt}:hearsB n 0=(wayB n 0&&decide ((nodeAt n 0).beacon<=1000)):=by
 unfold hearsB wayB in6;rw[if_pos rfl,if_pos rfl]
 by_cases a:0<=(nodeAt n 0).beacon<;>by_cases b:(nodeAt n 0).level=0<;>by_cases c:(nodeAt n 0).up= -1<;>simp[a,b,c]
theorem hears_other {n:Nt} {i:Int} (hi:isNode i) (h0:i≠0):hearsB n i=wayB n i:=by
 unfold hearsB wayB two;unfold isNode at hi;rw[if_neg h0,if_neg h0];rw[Bool.eq_iff_iff]
 by_cases h:(nodeAt n i).level=5
 ·rw[if_pos h,h]
  simp only[Bool.and_eq_true,in6_iff,decide_eq_true_eq,beq_iff_eq]
  constructor
  ·rintro⟨a,b⟩
   exact⟨a,by omega,by simp[b],by omega,by omega⟩
  ·rintro⟨a,_,b,_⟩
   exact⟨a,by simpa using b⟩
 ·rw[if_neg h]
  simp only[Bool.and_eq_true,in6_iff,decide_eq_true_eq]
  constructor
  ·rintro⟨a,b,c,⟨d,e⟩,f⟩
   exact⟨a,by omega,⟨fun q=>by omega,fun q=>absurd q h⟩,by omega,by omega⟩
  ·rintro⟨a,b,c,d,e⟩
   have:(nodeAt n i).up≠ -1:=fun q=>h (c.1 q)
   exact⟨a,by omega,by omega,⟨by omega,by omega⟩,by omega⟩
structure OkI (n:Nt):Prop where
 nodes:n.nodes.length=5
 past:n.past.length=5
 links:linksI n.links=true
 words:n.words.length<=24
 pasts:∀i:Nat,i<5->pastI (rowsAt n (i:Int)) (nodeAt n (i:Int)).born=true
 hears:∀i:Nat,i<5->hearsB n (i:Int)=true
 known:∀i:Nat,i<5->(knownB n (nodeAt n (i:Int)).known&&ownB n (i:Int))=true
 word:∀(i:Nat) (x:Wd),n.words[i]? =some x->wordB n x=true
theorem okI_of {n:Nt} (c:okNB n=true):OkI n:=by
 have h:=okNB_iff.1 c;have nd:∀i:Nat,i<5->isNode (i:Int):=fun i hi=>by unfold isNode;omega
 refine⟨h.nodes,h.past,links_ok h,h.words,fun i hi=>?_,fun i hi=>?_,fun i hi=>?_,fun i x hx=>wordB_iff.2 (h.word x (List.mem_of_getElem? hx))⟩
 ·rw[past_is,in6_iff.2 (h.born _ (nd i hi)),pastB_iff.2 (h.pasts _ (nd i hi))];rfl
 ·by_cases e:i=0
  ·subst e
   rw[show ((0:Nat):Int)=0 from rfl,hears_root,wayB_iff.2 (h.way 0 (nd 0 hi)),decide_eq_true h.beacon];rfl
  ·rw[hears_other (nd i hi) (by omega),wayB_iff.2 (h.way _ (nd i hi))]
 ·rw[knownB_iff.2 (h.known _ (nd i hi)),ownB_iff.2 (h.own _ (nd i hi))];rfl
theorem okI_to {n:Nt} (h:OkI n):okNB n=true:=by
 refine okNB_iff.2 ?_;have nd:∀i:Int,isNode i->∃k:Nat,k<5/\i=k:=fun i hi=>by unfold isNode at hi;exact⟨i.toNat,by omega,by omega⟩
 have hp:∀i,isNode i->in6 (nodeAt n i).born 1 20=true/\pastB n i=true:=fun i hi=>by
  obtain⟨k,hk,rfl⟩:=nd i hi;have:=h.pasts k hk;rw[past_is,Bool.and_eq_true]at this;exact this
 have h0:=h.hears 0 (by omega);rw[show ((0:Nat):Int)=0 from rfl,hears_root,Bool.and_eq_true,decide_eq_true_eq]at h0;refine⟨h.nodes,h.past,(links_pl h.links).1,h.words,fun i hi=>in6_iff.1 (hp i hi).1,fun i hi=>pastB_iff.1 (hp i hi).2,fun i hi=>links_self h.links hi,fun i j hi hj=>links_either h.links hi hj,fun i hi=>?_,fun i hi=>?_,fun i hi=>?_,fun x hx=>?_,h0.2⟩
 ·obtain⟨k,hk,rfl⟩:=nd i hi
  have:=h.known k hk;rw[Bool.and_eq_true]at this;exact ownB_iff.1 this.2
 ·obtain⟨k,hk,rfl⟩:=nd i hi
  have:=h.known k hk;rw[Bool.and_eq_true]at this;exact knownB_iff.1 this.1
 ·by_cases e:i=0
  ·rw[e];exact wayB_iff.1 h0.1
  ·obtain⟨k,hk,rfl⟩:=nd i hi
   have:=h.hears k hk;rw[hears_other hi e]at this;exact wayB_iff.1 this
 ·obtain⟨i,hi⟩:=List.getElem?_of_mem hx
  exact wordB_iff.1 (h.word i x hi)
theorem okI_no {n:Nt} (h:OkI n->False):okNB n=false:=by
 rw[Bool.eq_false_iff];exact fun c=>h (okI_of c)
end N
end Go.Proofs.YtcblbdpdbggkbaaGreat
set_option linter.unusedVariables false
set_option linter.unusedSectionVars false
set_option linter.unusedSimpArgs false
namespace Go.Proofs.YtcblbdpdbggkbaaGreat
open Go.RowKit Go.Sort Go.ChangeMaps
namespace N
theorem pastI_parts {rs:List (List Int)} {born:Int} (h:pastI rs born=true):1<=born/\(rs.length:Int)=born+1/\rs.all rowB=true:=by
 unfold pastI at h;simp only[Bool.and_eq_true,in6_iff,decide_eq_true_eq]at h;exact⟨h.1.1,h.2.1,h.2.2.2⟩
theorem imNetOk_at (w:World) {x1 x2 x3 x4:Option Addr} {k1 c1 k2 c2 k3 c3 k4 c4:Nat} {n:Nt} (hn:NetRd w (.slice x1 k1 c1) (.slice x2 k2 c2) (.slice x3 k3 c3) (.slice x4 k4 c4) n):
  Calls Tryz.prog 22 #[.agg #[.slice x1 k1 c1,.slice x2 k2 c2,.slice x3 k3 c3,.slice x4 k4 c4]] w fun r w'=>r=.returned (.bool (okNB n))/\Below w.heap.size w w':=by
 obtain⟨f1,n1⟩:=hn.nodes;obtain⟨f2,n2⟩:=hn.links;obtain⟨f3,n3⟩:=hn.words;obtain⟨f4,n4⟩:=hn.past;have e1:=hd_ (show k1=n.nodes.length from (slcR_row n1).1);have e2:=hd_ (show k2=n.links.length from (slcR_row n2).1);have e3:=hd_ (show k3=n.words.length from (slcR_row n3).1);have e4:=hd_ (show k4=n.past.length from (slcR_row n4).1)
 have h0:=(M.start w).alloc #[.slice x1 k1 c1,.slice x2 k2 c2,.slice x3 k3 c3,.slice x4 k4 c4] 30;obtain⟨w1,hw1⟩:∃W,W=w.alloc (.cells #[.slice x1 k1 c1,.slice x2 k2 c2,.slice x3 k3 c3,.slice x4 k4 c4] 30):=⟨_,rfl⟩
 obtain⟨p1,hp1⟩:∃p,p=w.heap.size:=⟨_,rfl⟩
 rw[<-hw1]at h0;have H:=hd_ (show M w.heap.size w w1 [boxC p1 30 #[.slice x1 k1 c1,.slice x2 k2 c2,.slice x3 k3 c3,.slice x4 k4 c4]] by rw[hp1];exact h0);have HN:=hd_ hn;have N1:=hd_ n1;have N2:=hd_ n2;have N3:=hd_ n3;have N4:=hd_ n4;clear h0 hn n1 n2 n3 n4;go_enter Tryz.func22,Tryz.ntmps22;go_upto_region 1 with fail
 rw[<-hw1, <-hp1];clear hw1 hp1;obtain⟨a0,a1,a2,a3⟩:=H.out.cells4
 by_cases l1:k1=5
 case neg=>
  have F:=hd_ (okI_no (n:=n) fun h=>l1 (e1.out.trans h.nodes));have g:((k1:Int) != 5)=true:=by simpa using (show (k1:Int)≠5 by omega)
  clear l1;go_wp2;go_ret;exact⟨by rw[F.out];rfl,H.out.below⟩
 subst l1;have g1:(((5:Nat):Int) != 5)=false:=by decide
 by_cases l4:k4=5
 case neg=>
  have F:=hd_ (okI_no (n:=n) fun h=>l4 (e4.out.trans h.past));have g:((k4:Int) != 5)=true:=by simpa using (show (k4:Int)≠5 by omega)
  clear l4;go_wp2;go_ret;exact⟨by rw[F.out];rfl,H.out.below⟩
 subst l4;obtain⟨q2,hq2⟩:∃q,q=linksI n.links:=⟨_,rfl⟩
 have KL:=hd_ (imLinksOk_at w1 (x:=x2) (c:=c2) (ls:=n.links) (f:=f2) (by rw[<-e2.out];exact (slcR_frame (flatR_frame _) _ _).below N2.out H.out.below lr_));rw[<-hq2, <-e2.out]at KL;have Q2:=hd_ hq2;clear hq2
 go_wp2_with fail
 refine KL.out.mono ?_;rintro r w2 ⟨rfl,hb⟩;have H2:=hd_ (H.out.later hb);clear hb KL H a0 a1 a2 a3;obtain⟨a0,a1,a2,a3⟩:=H2.out.cells4;rcases q2 with _|_
 case false=>
  have F:=hd_ (okI_no (n:=n) fun h=>absurd h.links (by rw[<-Q2.out];simp));go_wp2;go_ret;exact⟨by rw[F.out];rfl,H2.out.below⟩
 by_cases l3:24<k3
 ·have F:=hd_ (okI_no (n:=n) fun h=>absurd h.words (by rw[<-e3.out];omega))
  have g:decide ((24:Int)<(k3:Int))=true:=decide_eq_true (by omega);clear l3;go_wp2;go_ret;exact⟨by rw[F.out];rfl,H2.out.below⟩
 have g3:decide ((24:Int)<(k3:Int))=false:=decide_eq_false (by omega);have L3:=hd_ l3;clear l3;go_wp2;clear g1 g3 a0 a1 a2 a3;go_loopw [34] (fun z wr=>∃j:Nat,j<=5/\z=.int .i64 (j:Int)/\(∀a:Nat,a<j->pastI (rowsAt n (a:Int)) (nodeAt n (a:Int)).born=true/\hearsB n (a:Int)=true)/\M w.heap.size w wr [boxC p1 30 #[.slice x1 5 c1,.slice x2 k2 c2,.slice x3 k3 c3,.slice x4 5 c4]]) (fun z _=>5 - (intOf z).toNat)
 case atStart=>exact⟨0,Nat.zero_le _,rfl,fun a h=>absurd h (Nat.not_lt_zero _),H2.out⟩
 case round=>
  clear H2;obtain⟨j,hj,rfl,hno,hm⟩:=hrel;have NO:=hd_ hno;have H:=hd_ hm;clear hno hm;obtain⟨a0,a1,a2,a3⟩:=H.out.cells4
  by_cases hlt:j<5
  ·obtain⟨nd,hnd⟩:∃nd,n.nodes[j]? =some nd:=⟨_,List.getElem?_eq_getElem (by rw[<-e1.out];exact hlt)⟩
   obtain⟨rs,hrs⟩:∃rs,n.past[j]? =some rs:=⟨_,List.getElem?_eq_getElem (by rw[<-e4.out];exact hlt)⟩
   have eN:nodeAt n (j:Int)=nd:=by unfold nodeAt;rw[List.getD_eq_getElem?_getD,Int.toNat_natCast,hnd];rfl
   have eR:rowsAt n (j:Int)=rs:=by unfold rowsAt;rw[List.getD_eq_getElem?_getD,Int.toNat_natCast,hrs];rfl
   obtain⟨g1,xk,ck,fk,rfl,_,_,_,_,_,b0,_⟩:=node_at N1.out hnd;obtain⟨g4,xr,cr,fr,rfl,_,_,rr,_,_,y0⟩:=past_at N4.out hrs;replace b0:=cell_later H.out.below b0;replace y0:=cell_later H.out.below y0;have KP:=hd_ (imPastOk_at wr (rowsR_frame.below rr H.out.below lr_) nd.born)
   have KH:=hd_ (imHearsOk_at wr (v2:=.slice x2 k2 c2) (v3:=.slice x3 k3 c3) (v4:=.slice (some ⟨g4,0,none⟩) 5 c4) ((slcR_frame nodeR_frame _ _).below N1.out H.out.below lr_) hlt);obtain⟨q1,hq1⟩:∃q,q=pastI rs nd.born:=⟨_,rfl⟩
   obtain⟨q2,hq2⟩:∃q,q=hearsB n (j:Int):=⟨_,rfl⟩
   rw[<-hq1]at KP;rw[<-hq2]at KH;have Q1:Hid (pastI (rowsAt n (j:Int)) (nodeAt n (j:Int)).born=q1):=hd_ (by rw[eN,eR,hq1]);have Q2:=hd_ hq2;have HJ:=hd_ hlt;have k0:(0:Int)<=(j:Int):=by omega
   have k5:(j:Int)<5:=by omega
   clear hq1 hq2 eN eR hnd hrs rr
   go_wp2_with fail
   refine KP.out.mono ?_;rintro r w3 ⟨rfl,hw3⟩;rw[hw3];clear hw3 w3 KP;cases q1 with
   |false=>
    have F:=hd_ (okI_no (n:=n) fun h=>absurd (h.pasts j HJ.out) (by rw[Q1.out];simp));go_wp2;go_ret;exact⟨by rw[F.out];rfl,H.out.below⟩
   |true=>
    go_wp2_with fail
    refine KH.out.mono ?_;rintro r w3 ⟨rfl,hb⟩;have H3:=hd_ (H.out.later hb);clear hb KH H;cases q2 with
    |false=>
     have F:=hd_ (okI_no (n:=n) fun h=>absurd (h.hears j HJ.out) (by rw[<-Q2.out];simp));go_wp2;go_ret;exact⟨by rw[F.out];rfl,H3.out.below⟩
    |true=>
     have NO2:Hid (∀a:Nat,a<j+1->pastI (rowsAt n (a:Int)) (nodeAt n (a:Int)).born=true/\hearsB n (a:Int)=true):=hd_ fun a ha=>by
      by_cases e:a<j
      ·exact NO.out a e
      ·obtain rfl:a=j:=by omega
       exact⟨Q1.out,Q2.out.symm⟩
     go_wp2;go_roundw
     case rel=>exact⟨j+1,by omega,by go_num,NO2.out,H3.out⟩
     case measure=>simp[intOf];omega
  ·obtain rfl:j=5:=by omega
   have hs:Shape n:=⟨e1.out.symm,e4.out.symm,fun i hi=>(pastI_parts (NO.out i hi).1).2.1⟩
   have hf:Fine n:=fun i hi=>(pastI_parts (NO.out i hi).1).2.2
   have hb:∀i:Nat,i<5->1<=(nodeAt n (i:Int)).born:=fun i hi=>(pastI_parts (NO.out i hi).1).1
   have h5:=memo_new H.out (sumP n);obtain⟨m,hm⟩:∃m,m=wr.heap.size:=⟨_,rfl⟩
   obtain⟨W4,hW4⟩:∃W',W'=wr.alloc (.map #[] 0):=⟨_,rfl⟩
   rw[<-hW4, <-hm]at h5;have h6:=h5.alloc #[.slice x4 5 c4,.map (some m)] 120;obtain⟨p5,hp5⟩:∃p,p=W4.heap.size:=⟨_,rfl⟩
   obtain⟨W5,hW5⟩:∃W',W'=W4.alloc (.cells #[.slice x4 5 c4,.map (some m)] 120):=⟨_,rfl⟩
   rw[<-hW5, <-hp5]at h6;have H6:=hd_ h6.p1;have KK:=hd_ (fun (W:World) (l:List Ch) (h:M w.heap.size w W (memoC m (sumP n)::l)) (i:Nat) (hi:i<5)=>imKnownOk_at HN.out hs hf hb W h hi);have KWD:=hd_ (fun (W:World) (l:List Ch) (h:M w.heap.size w W (memoC m (sumP n)::l))=>imWordOk_at HN.out hs hf W h);have hmm:=@run_makeMap Tryz.prog;have hsz:W4.heap.size=wr.heap.size+1:=by rw[hW4];simp
   have p5e:p5=m+1:=by rw[hp5,hsz,hm]
   clear h5 h6 hs hf hb;simp only[Int.cast_ofNat_Int];go_upto_region 10 with fail
   rw[<-hW4, <-hm, <-hW5, <-p5e];clear hW4 hm hW5 hsz hp5 hmm H a0 a1 a2 a3 p5e;obtain⟨t0,t1⟩:=H6.out.p1.cells2;obtain⟨a0,a1,a2,a3⟩:=H6.out.p2.cells4;go_wp2;clear t0 t1 a0 a1 a2 a3
   go_loopw [62] (fun z wr=>∃j:Nat,j<=5/\z=.int .i64 (j:Int)/\(∀a:Nat,a<j->(knownB n (nodeAt n (a:Int)).known&&ownB n (a:Int))=true)/\M w.heap.size w wr (memoC m (sumP n)::boxC p5 120 #[.slice x4 5 c4,.map (some m)]::[boxC p1 30 #[.slice x1 5 c1,.slice x2 k2 c2,.slice x3 k3 c3,.slice x4 5 c4]])) (fun z _=>5 - (intOf z).toNat)
   case atStart=>exact⟨0,Nat.zero_le _,rfl,fun a h=>absurd h (Nat.not_lt_zero _),H6.out⟩
   case round=>
    clear H6;obtain⟨j,hj,rfl,hno,hm⟩:=hrel;have NO3:=hd_ hno;have H:=hd_ hm;clear hno hm;obtain⟨t0,t1⟩:=H.out.p1.cells2;obtain⟨a0,a1,a2,a3⟩:=H.out.p2.cells4
    by_cases hlt:j<5
    ·obtain⟨q1,hq1⟩:∃q,q=(knownB n (nodeAt n (j:Int)).known&&ownB n (j:Int)):=⟨_,rfl⟩
     have KP:=hd_ (KK.out _ _ H.out j hlt);rw[<-hq1]at KP;have Q1:=hd_ hq1;have HJ:=hd_ hlt;have k0:(0:Int)<=(j:Int):=by omega
     have k5:(j:Int)<5:=by omega
     clear hq1
     go_wp2_with fail
     refine KP.out.mono ?_;rintro r w3 ⟨rfl,hm3⟩;have H3:=hd_ hm3;clear hm3 H KP t0 t1 a0 a1 a2 a3;cases q1 with
     |false=>
      have F:=hd_ (okI_no (n:=n) fun h=>absurd (h.known j HJ.out) (by rw[<-Q1.out];simp));go_wp2;go_ret;exact⟨by rw[F.out];rfl,H3.out.below⟩
     |true=>
      have NO2:Hid (∀a:Nat,a<j+1->(knownB n (nodeAt n (a:Int)).known&&ownB n (a:Int))=true):=hd_ fun a ha=>by
       by_cases e:a<j
       ·exact NO3.out a e
       ·obtain rfl:a=j:=by omega
        exact Q1.out.symm
      go_wp2;go_roundw
      case rel=>exact⟨j+1,by omega,by go_num,NO2.out,H3.out⟩
      case measure=>simp[intOf];omega
    ·obtain rfl:j=5:=by omega
     simp only[Int.cast_ofNat_Int];go_wp2;clear t0 t1 a0 a1 a2 a3 KK;have M3:=L3.out;go_loopw [74] (fun z wr=>∃j:Nat,j<=k3/\z=.int .i64 (j:Int)/\(∀(a:Nat) (x:Wd),a<j->n.words[a]? =some x->wordB n x=true)/\M w.heap.size w wr (memoC m (sumP n)::boxC p5 120 #[.slice x4 5 c4,.map (some m)]::[boxC p1 30 #[.slice x1 5 c1,.slice x2 k2 c2,.slice x3 k3 c3,.slice x4 5 c4]])) (fun z _=>k3 - (intOf z).toNat)
     case atStart=>exact⟨0,Nat.zero_le _,rfl,fun a x h=>absurd h (Nat.not_lt_zero _),H.out⟩
     case round=>
      clear H;obtain⟨j,hj,rfl,hno,hm⟩:=hrel;have NO4:=hd_ hno;have H:=hd_ hm;clear hno hm;obtain⟨a0,a1,a2,a3⟩:=H.out.p2.cells4
      by_cases hlt:j<k3
      ·obtain⟨x,hx⟩:∃x,n.words[j]? =some x:=⟨_,List.getElem?_eq_getElem (by rw[<-e3.out];exact hlt)⟩
       obtain⟨g6,xk,ck,fk,rfl,_,_,rk,_,_,b0,b1,b2,b3,b4,b5⟩:=wordR_at N3.out hx;replace b0:=cell_later H.out.below b0;replace b1:=cell_later H.out.below b1;replace b2:=cell_later H.out.below b2;replace b3:=cell_later H.out.below b3;replace b4:=cell_later H.out.below b4;replace b5:=cell_later H.out.below b5
       have h2:=H.out.alloc #[.int .i64 x.kind,.int .i64 x.src,.int .i64 x.dst,.int .i64 x.beacon,.int .i64 x.level,.slice xk x.known.length ck] 123;obtain⟨p8,hp8⟩:∃p,p=wr.heap.size:=⟨_,rfl⟩
       obtain⟨W2,hW2⟩:∃W',W'=wr.alloc (.cells #[.int .i64 x.kind,.int .i64 x.src,.int .i64 x.dst,.int .i64 x.beacon,.int .i64 x.level,.slice xk x.known.length ck] 123):=⟨_,rfl⟩
       rw[<-hW2, <-hp8]at h2;have H2:=hd_ h2.p1;obtain⟨q1,hq1⟩:∃q,q=wordB n x:=⟨_,rfl⟩
       have KP:=hd_ (KWD.out W2 _ H2.out x rk);rw[<-hq1]at KP;have Q1:=hd_ hq1;have HX:=hd_ hx;have k0:(0:Int)<=(j:Int):=by omega
       have k5:(j:Int)<(k3:Int):=by omega
       clear hq1 hx h2 rk H;go_upto_region 19 with fail
       rw[<-hW2, <-hp8];clear hW2 hp8 a0 a1 a2 a3 b0 b1 b2 b3 b4 b5;obtain⟨d0,d1,d2,d3,d4,d5⟩:=H2.out.p1.cells6;obtain⟨t0,t1⟩:=H2.out.p2.cells2;obtain⟨a0,a1,a2,a3⟩:=H2.out.p3.cells4
       go_wp2_with fail
       refine KP.out.mono ?_;rintro r w3 ⟨rfl,hm3⟩;have H3:=hd_ hm3;clear hm3 H2 KP d0 d1 d2 d3 d4 d5 t0 t1 a0 a1 a2 a3;cases q1 with
       |false=>
        have F:=hd_ (okI_no (n:=n) fun h=>absurd (h.word j x HX.out) (by rw[<-Q1.out];simp));go_wp2;go_ret;exact⟨by rw[F.out];rfl,H3.out.below⟩
       |true=>
        have NO2:Hid (∀(a:Nat) (y:Wd),a<j+1->n.words[a]? =some y->wordB n y=true):=hd_ fun a y ha hy=>by
         by_cases e:a<j
         ·exact NO4.out a y e hy
         ·obtain rfl:a=j:=by omega
          rw[HX.out]at hy;cases hy;exact Q1.out.symm
        go_wp2;go_roundw
        case rel=>exact⟨j+1,by omega,by go_num,NO2.out,H3.out.p1.drop⟩
        case measure=>simp[intOf];omega
      ·obtain rfl:j=k3:=by omega
       have F:Hid (okNB n=true):=hd_ (okI_to ⟨e1.out.symm,e4.out.symm,Q2.out.symm,by rw[<-e3.out];omega,fun i hi=>(NO.out i hi).1,fun i hi=>(NO.out i hi).2,NO3.out,fun i x hx=>NO4.out i x (by have:=(List.getElem?_eq_some_iff.1 hx).1;rw[<-e3.out]at this;exact this) hx⟩);go_wp2;go_ret;exact⟨by rw[F.out];rfl,H.out.below⟩
end N
end Go.Proofs.YtcblbdpdbggkbaaGreat
set_option linter.unusedVariables false
set_option linter.unusedSectionVars false
set_option linter.unusedSimpArgs false
namespace Go.Proofs.YtcblbdpdbggkbaaGreat
open Go.RowKit Go.Sort Go.Deep
namespace N
def netK (v1 v2 v3 v4:Value) (n:Nt):Ch:=(netR_frame (T:=TY)).ch [v1,v2,v3,v4] n
section
variable {B:Nat} {w w0 w':World} {l:List Ch} {v1 v2 v3 v4:Value} {n:Nt}
theorem _root_.Go.Proofs.YtcblbdpdbggkbaaGreat.M.gotNet (h:M B w0 w l) (hU:M w.heap.size w w' [nodesC v1 n.nodes,linksC v2 n.links,wordsC v3 n.words,pastC v4 n.past]):M B w0 w' (netK v1 v2 v3 v4 n::l):=by
 obtain⟨fp,s⟩:=hU.net;exact h.got netR_frame hU.below s
theorem _root_.Go.Proofs.YtcblbdpdbggkbaaGreat.M.netR' (h:M B w0 w (netK v1 v2 v3 v4 n::l)):∃f,netR TY w [v1,v2,v3,v4] n f:=let ⟨f,hf,_⟩:=h.first;⟨f,hf⟩
theorem _root_.Go.Proofs.YtcblbdpdbggkbaaGreat.M.netIs (h:M B w0 w (netK v1 v2 v3 v4 n::l)):NetRd w v1 v2 v3 v4 n:=by
 obtain⟨f,hf⟩:=h.netR';obtain⟨_,_,_,_,f1,f2,f3,f4,e,_,h1,h2,h3,h4⟩:=netR_iff.1 hf;cases e;exact⟨⟨f1,h1⟩,⟨f2,h2⟩,⟨f3,h3⟩,f4,h4⟩
end
theorem LenA.n {n:Nt} (h:LenA n):LenN n:=⟨fun x hx=>(h.node x hx).sums,fun x hx=>(h.word x hx).sums⟩
end N
end Go.Proofs.YtcblbdpdbggkbaaGreat
set_option linter.unusedVariables false
set_option linter.unusedSectionVars false
set_option linter.unusedSimpArgs false
namespace Go.Proofs.YtcblbdpdbggkbaaGreat.N
open Go.RowKit Go.Sort
def cntL {α:Type} (c:α->Int) (l:List α):Int:=(l.map c).sum
def mkL {α:Type} (f:α->Int->α) (c:α->Int):List α->Int->List α
 | [],_=>[]
 |x::xs,k=>f x k::mkL f c xs (k+c x)
section
variable {α:Type} {f:α->Int->α} {c:α->Int}
theorem cntL_nil:cntL c []=0:=rfl
theorem cntL_cons (x:α) (xs:List α):cntL c (x::xs)=c x+cntL c xs:=by unfold cntL;rw[List.map_cons,List.sum_cons]
theorem cntL_app (a b:List α):cntL c (a++b)=cntL c a+cntL c b:=by unfold cntL;rw[List.map_append,List.sum_append]
theorem cntL_nn (h:∀x,0<=c x):∀l:List α,0<=cntL c l
 | []=>Int.le_refl _
 |x::xs=>by have:=cntL_nn h xs;have:=h x;rw[cntL_cons];omega
theorem cntL_at {l:List α} {i:Nat} {x:α} (h:l[i]? =some x):cntL c (l.take (i+1))=cntL c (l.take i)+c x:=by
 rw[List.take_add_one,h,cntL_app];show _+cntL c [x]=_
 rw[cntL_cons,cntL_nil,Int.add_zero]
theorem cntL_take (h:∀x,0<=c x) (l:List α) (i:Nat):cntL c (l.take i)<=cntL c l:=by
 have e:cntL c l=cntL c (l.take i)+cntL c (l.drop i):=by rw[<-cntL_app,List.take_append_drop]
 have:=cntL_nn h (l.drop i);omega
theorem mkL_len:∀(l:List α) (k:Int),(mkL f c l k).length=l.length
 | [],_=>rfl
 |x::xs,k=>by show (mkL f c xs _).length+1=xs.length+1;rw[mkL_len xs]
theorem mkL_app:∀(a b:List α) (k:Int),mkL f c (a++b) k=mkL f c a k++mkL f c b (k+cntL c a)
 | [],b,k=>by rw[cntL_nil,Int.add_zero];rfl
 |x::xs,b,k=>by
  show f x k::mkL f c (xs++b) (k+c x)=f x k::(mkL f c xs (k+c x)++_)
  rw[mkL_app xs b,cntL_cons,Int.add_assoc]
theorem mkL_step {l:List α} {i:Nat} {x:α} (h:l[i]? =some x) (k:Int):(mkL f c (l.take i) k++l.drop i).set i (f x (k+cntL c (l.take i)))=mkL f c (l.take (i+1)) k++l.drop (i+1)/\(mkL f c (l.take i) k++l.drop i)[i]? =some x:=by
 obtain⟨hi,rfl⟩:=List.getElem?_eq_some_iff.1 h;have ln:(mkL f c (l.take i) k).length=i:=by rw[mkL_len,List.length_take];omega
 have d:l.drop i=l[i]::l.drop (i+1):=List.drop_eq_getElem_cons hi
 constructor
 ·rw[d,List.set_append_right _ _ (by omega),ln,Nat.sub_self,List.set_cons_zero,List.take_add_one,h,mkL_app]
  show _=(_++[f l[i] _])++_
  rw[List.append_assoc];rfl
 ·rw[List.getElem?_append_right (by omega),ln,Nat.sub_self,d];rfl
end
def cntI (l:List Int):Int:=l.length
def mkI (l:List Int) (k:Int):List Int:=(List.range l.length).map fun (i:Nat)=>k+(i:Int)
def mkP2 (l:List (Int × Int)) (k:Int):List (Int × Int):=(List.range l.length).map fun (i:Nat)=>(k+2 * (i:Int),k+2 * (i:Int)+1)
def mkB (l:List Bool) (k:Int):List Bool:=(List.range l.length).map fun (i:Nat)=>decide ((k+(i:Int)).tmod 3=0)
def cntR (rs:List (List Int)):Int:=cntL cntI rs
def mkR (rs:List (List Int)) (k:Int):List (List Int):=mkL mkI cntI rs k
def cntS (s:Sm):Int:=cntR s.rs+s.zs.length+2 * s.ps.length+2+2 * s.ks.length+1
def mkS (s:Sm) (k:Int):Sm:=
 let k1:=k+cntR s.rs
 let k2:=k1+s.zs.length
 let k3:=k2+2 * s.ps.length
 let k4:=k3+2
 let k5:=k4+2 * s.ks.length
 ⟨mkR s.rs k,mkI s.zs k1,mkP2 s.ps k2,k3,k3+1,mkP2 s.ks k4,k5⟩
def cntE (e:En):Int:=3+cntS e.s
def mkE (e:En) (k:Int):En:=⟨k,k+1,k+2,mkS e.s (k+3)⟩
def cntK (es:List En):Int:=cntL cntE es
def mkK (es:List En) (k:Int):List En:=mkL mkE cntE es k
def cntN (x:Nd):Int:=1+cntK x.known+3
def mkN (x:Nd) (k:Int):Nd:=⟨k,mkK x.known (k+1),k+1+cntK x.known,k+1+cntK x.known+1,k+1+cntK x.known+2⟩
def cntW (x:Wd):Int:=5+cntK x.known
def mkW (x:Wd) (k:Int):Wd:=⟨k,k+1,k+2,k+3,k+4,mkK x.known (k+5)⟩
def cntP (ps:List (List (List Int))):Int:=cntL cntR ps
def mkPast (ps:List (List (List Int))) (k:Int):List (List (List Int)):=mkL mkR cntR ps k
def cntNt (n:Nt):Int:=cntL cntN n.nodes+n.links.length+cntL cntW n.words+cntP n.past
def mkNt (n:Nt) (k:Int):Nt:=
 let k1:=k+cntL cntN n.nodes
 let k2:=k1+n.links.length
 let k3:=k2+cntL cntW n.words
 ⟨mkL mkN cntN n.nodes k,mkB n.links k1,mkL mkW cntW n.words k2,mkPast n.past k3⟩
theorem cntI_nn (l:List Int):0<=cntI l:=Int.natCast_nonneg _
theorem cntR_nn (rs:List (List Int)):0<=cntR rs:=cntL_nn cntI_nn rs
theorem cntS_nn (s:Sm):0<=cntS s:=by have:=cntR_nn s.rs;unfold cntS;omega
theorem cntE_nn (e:En):0<=cntE e:=by have:=cntS_nn e.s;unfold cntE;omega
theorem cntK_nn (es:List En):0<=cntK es:=cntL_nn cntE_nn es
theorem cntN_nn (x:Nd):0<=cntN x:=by have:=cntK_nn x.known;unfold cntN;omega
theorem cntW_nn (x:Wd):0<=cntW x:=by have:=cntK_nn x.known;unfold cntW;omega
theorem cntP_nn (ps:List (List (List Int))):0<=cntP ps:=cntL_nn cntR_nn ps
end Go.Proofs.YtcblbdpdbggkbaaGreat.N
namespace Go.Proofs.YtcblbdpdbggkbaaGreat
open Go.RowKit Go.Sort
namespace N
variable {B:Nat} {w0 w:World} {l:List Ch} {v:Value} {k:Int}
theorem kept_row {w w':World} {v:Value} (h:w.grownBy w' v.ownBlock):KeptB (fun b=>b ∈ v.ownBlock.toList) w w':=by
 cases e:v.ownBlock with
 |none=>rw[e]at h;exact⟨h.1,h.2,h.3,h.4,fun b hb _=>h.5 b hb (by simp)⟩
 |some g=>rw[e]at h;exact KeptB.of_grown h (by simp)
def pairsC (v:Value) (ps:List (Int × Int)):Ch:=pairsR_frame.ch [v] ps
def knotsC (v:Value) (ps:List (Int × Int)):Ch:=knotsR_frame.ch [v] ps
theorem markI_none (w:World) (x:Option Addr) (c:Nat) (k:Int):Calls Tryz.prog 53 #[.slice x 0 c,.int .i64 k] w fun r w'=>r=.returned (.int .i64 k)/\w=w':=by
 go_enter Tryz.func53,Tryz.ntmps53;go_wp2;refine wp_loop_rounds 1 ?_;rw[rounds_succ];go_wp2;go_ret;exact⟨rfl,rfl⟩
theorem markI_M2 {zs:List Int} (h:M B w0 w (intsC v zs::l)) (hk:0<=k) (hc:k+cntI zs<=200000000):
  Calls Tryz.prog 53 #[v,.int .i64 k] w fun r w'=>r=.returned (.int .i64 (k+cntI zs))/\M B w0 w' (intsC v (mkI zs k)::l):=by
 have hn:(zs.length:Int)<=200000000:=by unfold cntI at hc;omega
 obtain⟨f,hf,_⟩:=h.first;obtain⟨v',e,_,o⟩:=intsR_to hf;cases e
 by_cases hz:zs=[]
 ·obtain⟨x,c,rfl,_⟩:=flR_value hf
  subst hz;refine (markI_none w x c k).mono ?_;rintro r w' ⟨rfl,rfl⟩;exact⟨by rw[show cntI []=0 from rfl,Int.add_zero],h⟩
 obtain⟨o,_⟩:=o hz;have hk2:k<=200000000:=by have:=cntI_nn zs;omega
 refine (markIntS_own w 0 v zs k o (by omega) hk (by omega)).mono ?_;rintro r w' ⟨rfl,o',hg⟩;refine⟨rfl,h.turn fun f hf nd lo=>?_⟩;obtain⟨_,e,_,q⟩:=intsR_to hf;cases e;obtain⟨_,rfl⟩:=q hz;exact⟨kept_row hg,_,intsR_of o',nd,fun b hb=>.inl hb⟩
theorem markI_M {zs:List Int} (h:M B w0 w (intsC v zs::l)) (hk:0<=k) (hc:k+cntI zs<=100000000):
  Calls Tryz.prog 53 #[v,.int .i64 k] w fun r w'=>r=.returned (.int .i64 (k+cntI zs))/\M B w0 w' (intsC v (mkI zs k)::l):=markI_M2 h hk (by omega)
theorem markP_none (w:World) (x:Option Addr) (c:Nat) (k:Int):Calls Tryz.prog 130 #[.slice x 0 c,.int .i64 k] w fun r w'=>r=.returned (.int .i64 k)/\w=w':=by
 go_enter Tryz.func130,Tryz.ntmps130;go_wp2;refine wp_loop_rounds 1 ?_;rw[rounds_succ];go_wp2;go_ret;exact⟨rfl,rfl⟩
theorem markP_M {ps:List (Int × Int)} (h:M B w0 w (pairsC v ps::l)) (hk:0<=k) (hc:k+2 * (ps.length:Int)<=100000000):
  Calls Tryz.prog 130 #[v,.int .i64 k] w fun r w'=>r=.returned (.int .i64 (k+2 * (ps.length:Int)))/\M B w0 w' (pairsC v (mkP2 ps k)::l):=by
 obtain⟨f,hf,_⟩:=h.first;obtain⟨v',e,_,o⟩:=pairsR_to hf;cases e
 by_cases hz:ps=[]
 ·obtain⟨x,c,rfl,_⟩:=flR_value hf
  subst hz;refine (markP_none w x c k).mono ?_;rintro r w' ⟨rfl,rfl⟩;exact⟨by simp,h⟩
 obtain⟨o,_⟩:=o hz;refine (T.markPairS_own w 0 v ps k o (by omega) hk (by omega)).mono ?_;rintro r w' ⟨rfl,o',hg⟩;refine⟨rfl,h.turn fun f hf nd lo=>?_⟩;obtain⟨_,e,_,q⟩:=pairsR_to hf;cases e;obtain⟨_,rfl⟩:=q hz;exact⟨kept_row hg,_,pairsR_of o',nd,fun b hb=>.inl hb⟩
theorem markKn_none (w:World) (x:Option Addr) (c:Nat) (k:Int):Calls Tryz.prog 131 #[.slice x 0 c,.int .i64 k] w fun r w'=>r=.returned (.int .i64 k)/\w=w':=by
 go_enter Tryz.func131,Tryz.ntmps131;go_wp2;refine wp_loop_rounds 1 ?_;rw[rounds_succ];go_wp2;go_ret;exact⟨rfl,rfl⟩
theorem markKn_M {ps:List (Int × Int)} (h:M B w0 w (knotsC v ps::l)) (hk:0<=k) (hc:k+2 * (ps.length:Int)<=100000000):
  Calls Tryz.prog 131 #[v,.int .i64 k] w fun r w'=>r=.returned (.int .i64 (k+2 * (ps.length:Int)))/\M B w0 w' (knotsC v (mkP2 ps k)::l):=by
 obtain⟨f,hf,_⟩:=h.first;obtain⟨v',e,_,o⟩:=knotsR_to hf;cases e
 by_cases hz:ps=[]
 ·obtain⟨x,c,rfl,_⟩:=flR_value hf
  subst hz;refine (markKn_none w x c k).mono ?_;rintro r w' ⟨rfl,rfl⟩;exact⟨by simp,h⟩
 obtain⟨o,_⟩:=o hz;refine (K.markKnotS_own w 0 v ps k o (by omega) hk (by omega)).mono ?_;rintro r w' ⟨rfl,o',hg⟩;refine⟨rfl,h.turn fun f hf nd lo=>?_⟩;obtain⟨_,e,_,q⟩:=knotsR_to hf;cases e;obtain⟨_,rfl⟩:=q hz;exact⟨kept_row hg,_,knotsR_of o',nd,fun b hb=>.inl hb⟩
theorem markRs_M {xs:List (List Int)} (h:M B w0 w (rowsC v xs::l)) (hk:0<=k) (hc:k+cntL cntI xs<=100000000):
  Calls Tryz.prog 129 #[v,.int .i64 k] w fun r w'=>r=.returned (.int .i64 (k+cntL cntI xs))/\M B w0 w' (rowsC v (mkL mkI cntI xs k)::l):=by
 obtain⟨x,n,c,rfl,hn,hm⟩:∃x n c,v=.slice x n c/\n=xs.length/\n<=maxLen:=by obtain⟨f,hf,_⟩:=h.first;obtain⟨_,_,e,q1,q2⟩:=slcR_value hf;exact⟨_,_,_,e,rfl,Nat.le_trans q1 q2⟩
 unfold maxLen at hm;have HC:=hd_ (And.intro hk hc);have HN:=hd_ hn;have H:=hd_ h;clear h hk hc hn;go_enter Tryz.func129,Tryz.ntmps129;go_wp2;go_loopw [1,5] (fun q i wr=>∃j:Nat,j<=n/\i=.int .i64 (j:Int)/\q=.int .i64 (k+cntL cntI (xs.take j))/\M B w0 wr (rowsC (.slice x n c) (mkL mkI cntI (xs.take j) k++xs.drop j)::l)) (fun _ i _=>n - (intOf i).toNat)
 case atStart=>exact⟨0,Nat.zero_le _,rfl,by rw[List.take_zero,cntL_nil,Int.add_zero],H.out⟩
 case round=>
  clear H;obtain⟨j,hj,rfl,rfl,h⟩:=hrel;obtain⟨kk,hkk⟩:∃kk,kk=k+cntL cntI (xs.take j):=⟨_,rfl⟩
  have KK:=hd_ hkk;rw[<-hkk]
  by_cases hlt:j<n
  ·obtain⟨a,ha⟩:∃a,xs[j]? =some a:=⟨_,List.getElem?_eq_getElem (by rw[<-HN.out];exact hlt)⟩
   obtain⟨e1,e2⟩:=mkL_step (f:=mkI) (c:=cntI) ha k;rw[<-hkk]at e1;obtain⟨g,cap,ci,e,_,h1⟩:=M.open intsR_frame h e2;injection e with q1 q2 q3
   subst q1 q3;obtain⟨y,cy,rfl⟩:∃y cy,ci=[.slice y a.length cy]:=by
    obtain⟨f,hf,_⟩:=h1.first;obtain⟨v,e,_⟩:=intsR_to hf;subst e;obtain⟨y,c,rfl,_⟩:=flR_value hf;exact⟨_,_,rfl⟩
   have hjl:j<(mkL mkI cntI (xs.take j) k++xs.drop j).length:=by rw[<-q2];exact hlt
   have cz:=h1.p1.hcell1 hjl;have k0:0<=kk:=by have:=cntL_nn cntI_nn (xs.take j);have:=HC.out.1;omega
   have k1:kk+cntI a<=100000000:=by
    have:=cntL_take cntI_nn xs (j+1);rw[cntL_at ha]at this;have:=HC.out.2;omega
   have SP:=hd_ (cntL_at (c:=cntI) ha);have E1:=hd_ e1;have HL:=hd_ hjl;have KC:=hd_ (markI_M h1 k0 k1);have j0:(0:Int)<=(j:Int):=by omega
   have j1:(j:Int)<(n:Int):=by omega
   obtain⟨m,hm2⟩:∃m,m=a.length:=⟨_,rfl⟩
   rw[<-hm2]at KC cz;clear h h1 e1 e2 q2 hjl hkk ha hm2
   go_wp2_with fail
   refine KC.out.mono ?_;rintro r w1 ⟨rfl,h2⟩;have F:=hd_ (show M B w0 w1 (rowsC _ _::l)from E1.out ▸ h2.close HL.out);clear h2 KC cz;go_wp2;go_roundw
   case rel=>exact⟨j+1,hlt,by go_num,(by rw[SP.out, <-Int.add_assoc, <-KK.out];try rfl),F.out⟩
   case measure=>simp[intOf];omega
  ·obtain rfl:j=n:=by omega
   have F:=hd_ h;clear h;go_wp2;go_ret;have e1:xs.take j=xs:=List.take_of_length_le (by rw[HN.out];exact Nat.le_refl _);have e2:xs.drop j=[]:=List.drop_eq_nil_of_le (by rw[HN.out];exact Nat.le_refl _);have F:=F.out;rw[e1,e2,List.append_nil]at F;rw[KK.out,e1];exact⟨rfl,F⟩
theorem markPa_M {xs:List (List (List Int))} (h:M B w0 w (pastC v xs::l)) (hk:0<=k) (hc:k+cntL cntR xs<=100000000):
  Calls Tryz.prog 127 #[v,.int .i64 k] w fun r w'=>r=.returned (.int .i64 (k+cntL cntR xs))/\M B w0 w' (pastC v (mkL mkR cntR xs k)::l):=by
 obtain⟨x,n,c,rfl,hn,hm⟩:∃x n c,v=.slice x n c/\n=xs.length/\n<=maxLen:=by obtain⟨f,hf,_⟩:=h.first;obtain⟨_,_,e,q1,q2⟩:=slcR_value hf;exact⟨_,_,_,e,rfl,Nat.le_trans q1 q2⟩
 unfold maxLen at hm;have HC:=hd_ (And.intro hk hc);have HN:=hd_ hn;have H:=hd_ h;clear h hk hc hn;go_enter Tryz.func127,Tryz.ntmps127;go_wp2;go_loopw [1,5] (fun q i wr=>∃j:Nat,j<=n/\i=.int .i64 (j:Int)/\q=.int .i64 (k+cntL cntR (xs.take j))/\M B w0 wr (pastC (.slice x n c) (mkL mkR cntR (xs.take j) k++xs.drop j)::l)) (fun _ i _=>n - (intOf i).toNat)
 case atStart=>exact⟨0,Nat.zero_le _,rfl,by rw[List.take_zero,cntL_nil,Int.add_zero],H.out⟩
 case round=>
  clear H;obtain⟨j,hj,rfl,rfl,h⟩:=hrel;obtain⟨kk,hkk⟩:∃kk,kk=k+cntL cntR (xs.take j):=⟨_,rfl⟩
  have KK:=hd_ hkk;rw[<-hkk]
  by_cases hlt:j<n
  ·obtain⟨a,ha⟩:∃a,xs[j]? =some a:=⟨_,List.getElem?_eq_getElem (by rw[<-HN.out];exact hlt)⟩
   obtain⟨e1,e2⟩:=mkL_step (f:=mkR) (c:=cntR) ha k;rw[<-hkk]at e1;obtain⟨g,cap,ci,e,_,h1⟩:=M.open rowsR_frame h e2;injection e with q1 q2 q3
   subst q1 q3;obtain⟨y,cy,rfl⟩:∃y cy,ci=[.slice y a.length cy]:=by
    obtain⟨f,hf,_⟩:=h1.first;obtain⟨v,_,_,e,_⟩:=slcR_els hf;subst e;obtain⟨y,c,q,_⟩:=slcR_value hf;cases q;exact⟨_,_,rfl⟩
   have hjl:j<(mkL mkR cntR (xs.take j) k++xs.drop j).length:=by rw[<-q2];exact hlt
   have cz:=h1.p1.hcell1 hjl;have k0:0<=kk:=by have:=cntL_nn cntR_nn (xs.take j);have:=HC.out.1;omega
   have k1:kk+cntR a<=100000000:=by
    have:=cntL_take cntR_nn xs (j+1);rw[cntL_at ha]at this;have:=HC.out.2;omega
   have SP:=hd_ (cntL_at (c:=cntR) ha);have E1:=hd_ e1;have HL:=hd_ hjl;have KC:=hd_ (markRs_M h1 k0 k1);have j0:(0:Int)<=(j:Int):=by omega
   have j1:(j:Int)<(n:Int):=by omega
   obtain⟨m,hm2⟩:∃m,m=a.length:=⟨_,rfl⟩
   rw[<-hm2]at KC cz;clear h h1 e1 e2 q2 hjl hkk ha hm2
   go_wp2_with fail
   refine KC.out.mono ?_;rintro r w1 ⟨rfl,h2⟩;have F:=hd_ (show M B w0 w1 (pastC _ _::l)from E1.out ▸ h2.close HL.out);clear h2 KC cz;go_wp2;go_roundw
   case rel=>exact⟨j+1,hlt,by go_num,(by rw[SP.out, <-Int.add_assoc, <-KK.out];try rfl),F.out⟩
   case measure=>simp[intOf];omega
  ·obtain rfl:j=n:=by omega
   have F:=hd_ h;clear h;go_wp2;go_ret;have e1:xs.take j=xs:=List.take_of_length_le (by rw[HN.out];exact Nat.le_refl _);have e2:xs.drop j=[]:=List.drop_eq_nil_of_le (by rw[HN.out];exact Nat.le_refl _);have F:=F.out;rw[e1,e2,List.append_nil]at F;rw[KK.out,e1];exact⟨rfl,F⟩
variable {B:Nat} {w0 w:World} {l:List Ch} {v:Value} {k:Int}
theorem _root_.Go.Proofs.YtcblbdpdbggkbaaGreat.M.sumParts {V:SV} {s:Sm} (h:M B w0 w (sumR_frame.ch [.slice V.xr V.nr V.cr,.slice V.xf V.nf V.cf,.slice V.xt V.nt V.ct,.int .i64 s.lo,.int .i64 s.al,.slice V.xk V.nk V.ck,.int .i64 s.ka] s::l)):M B w0 w (rowsC (.slice V.xr V.nr V.cr) s.rs::intsC (.slice V.xf V.nf V.cf) s.zs::pairsC (.slice V.xt V.nt V.ct) s.ps::knotsC (.slice V.xk V.nk V.ck) s.ks::l):=by
 have e:M B w0 w ((rowsC (.slice V.xr V.nr V.cr) s.rs).sep ((intsC (.slice V.xf V.nf V.cf) s.zs).sep ((pairsC (.slice V.xt V.nt V.ct) s.ps).sep (knotsC (.slice V.xk V.nk V.ck) s.ks)))::l):=h.to fun f hf nd=>by
  obtain⟨U,f1,f2,f3,f4,e,rfl,h1,h2,h3,h4⟩:=hf;obtain⟨a1,a2,a3,a4⟩:SV.r U=SV.r V/\SV.f U=SV.f V/\SV.t U=SV.t V/\SV.k U=SV.k V:=by
   simp only[List.cons.injEq,Value.slice.injEq,and_true,true_and]at e;obtain⟨⟨a1,a2,a3⟩,⟨b1,b2,b3⟩,⟨c1,c2,c3⟩,d1,d2,d3⟩:=e;simp only[SV.r,SV.f,SV.t,SV.k,a1,a2,a3,b1,b2,b3,c1,c2,c3,d1,d2,d3,and_self]
  rw[a1]at h1;rw[a2]at h2;rw[a3]at h3;rw[a4]at h4;exact⟨_,⟨f1,_,rfl,h1,f2,_,rfl,h2,f3,f4,rfl,h3,h4⟩,nd,fun b hb=>hb⟩
 exact (e.two.p1.two.p1.two.p1).perm (List.reverse_perm [_,_,_,_] |>.append_right l)
theorem _root_.Go.Proofs.YtcblbdpdbggkbaaGreat.M.sumWhole {V:SV} {s:Sm} (h:M B w0 w (rowsC (.slice V.xr V.nr V.cr) s.rs::intsC (.slice V.xf V.nf V.cf) s.zs::pairsC (.slice V.xt V.nt V.ct) s.ps::knotsC (.slice V.xk V.nk V.ck) s.ks::l)):M B w0 w (sumR_frame.ch [.slice V.xr V.nr V.cr,.slice V.xf V.nf V.cf,.slice V.xt V.nt V.ct,.int .i64 s.lo,.int .i64 s.al,.slice V.xk V.nk V.ck,.int .i64 s.ka] s::l):=
 (M.sep (M.p1 (M.sep (M.p1 (M.sep (M.p1 (h.perm (List.reverse_perm [_,_,_,_] |>.symm.append_right l)))))))).to fun f hf nd=>by
  obtain⟨f1,_,rfl,h1,f2,_,rfl,h2,f3,f4,rfl,h3,h4⟩:=hf;exact⟨_,⟨V,f1,f2,f3,f4,rfl,rfl,h1,h2,h3,h4⟩,nd,fun b hb=>hb⟩
theorem markK_M {xs:List En} (h:M B w0 w (knownC v xs::l)) (hk:0<=k) (hc:k+cntK xs<=100000000):
  Calls Tryz.prog 56 #[v,.int .i64 k] w fun r w'=>r=.returned (.int .i64 (k+cntK xs))/\M B w0 w' (knownC v (mkK xs k)::l):=by
 obtain⟨x,n,c,rfl,hn,hm⟩:∃x n c,v=.slice x n c/\n=xs.length/\n<=maxLen:=by obtain⟨f,hf,_⟩:=h.first;obtain⟨_,_,e,q1,q2⟩:=slcR_value hf;exact⟨_,_,_,e,rfl,Nat.le_trans q1 q2⟩
 unfold maxLen at hm;unfold cntK mkK at *;have HC:=hd_ (And.intro hk hc);have HN:=hd_ hn;have H:=hd_ h;clear h hk hc hn;go_enter Tryz.func56,Tryz.ntmps56;go_wp2;go_loopw [1,5] (fun q i wr=>∃j:Nat,j<=n/\i=.int .i64 (j:Int)/\q=.int .i64 (k+cntL cntE (xs.take j))/\M B w0 wr (knownC (.slice x n c) (mkL mkE cntE (xs.take j) k++xs.drop j)::l)) (fun _ i _=>n - (intOf i).toNat)
 case atStart=>exact⟨0,Nat.zero_le _,rfl,by rw[List.take_zero,cntL_nil,Int.add_zero],H.out⟩
 case round=>
  clear H;obtain⟨j,hj,rfl,rfl,h⟩:=hrel;obtain⟨kk,hkk⟩:∃kk,kk=k+cntL cntE (xs.take j):=⟨_,rfl⟩
  have KK:=hd_ hkk;rw[<-hkk]
  by_cases hlt:j<n
  ·obtain⟨a,ha⟩:∃a,xs[j]? =some a:=⟨_,List.getElem?_eq_getElem (by rw[<-HN.out];exact hlt)⟩
   obtain⟨e1,e2⟩:=mkL_step (f:=mkE) (c:=cntE) ha k;rw[<-hkk]at e1;obtain⟨g,cap,ci,e,_,h1⟩:=M.open entryR_frame h e2;injection e with q1 q2 q3
   subst q1 q3;obtain⟨V,rfl⟩:∃V:SV,ci=[.int .i64 a.node,.int .i64 a.born,.int .i64 a.num,.slice V.xr V.nr V.cr,.slice V.xf V.nf V.cf,.slice V.xt V.nt V.ct,.int .i64 (a.s).lo,.int .i64 (a.s).al,.slice V.xk V.nk V.ck,.int .i64 (a.s).ka]:=by
    obtain⟨f,hf,_⟩:=h1.first;obtain⟨cs,rfl,hs⟩:=entryR_iff.1 hf;obtain⟨V,_,_,_,_,rfl,_⟩:=hs;exact⟨V,rfl⟩
   have h2:M B w0 wr (sumR_frame.ch [.slice V.xr V.nr V.cr,.slice V.xf V.nf V.cf,.slice V.xt V.nt V.ct,.int .i64 (a.s).lo,.int .i64 (a.s).al,.slice V.xk V.nk V.ck,.int .i64 (a.s).ka] a.s::holeC entryR_frame 64 10 j (.slice (some ⟨g,0,none⟩) n c) (mkL mkE cntE (xs.take j) k++xs.drop j) [.int .i64 a.node,.int .i64 a.born,.int .i64 a.num,.slice V.xr V.nr V.cr,.slice V.xf V.nf V.cf,.slice V.xt V.nt V.ct,.int .i64 (a.s).lo,.int .i64 (a.s).al,.slice V.xk V.nk V.ck,.int .i64 (a.s).ka]::l):=h1.to fun f hf nd=>by
    obtain⟨cs,e,hs⟩:=entryR_iff.1 hf;simp only[List.cons.injEq,true_and]at e;rw[<-e]at hs;exact⟨f,hs,nd,fun b hb=>hb⟩
   have hjl:j<(mkL mkE cntE (xs.take j) k++xs.drop j).length:=by rw[<-q2];exact hlt
   have H3:=hd_ (h2.sumParts.p4);have k0:0<=kk:=by have:=cntL_nn cntE_nn (xs.take j);have:=HC.out.1;omega
   have k1:kk+cntE a<=100000000:=by
    have:=cntL_take cntE_nn xs (j+1);rw[cntL_at ha]at this;have:=HC.out.2;omega
   have SP:=hd_ (cntL_at (c:=cntE) ha);have E1:=hd_ e1;have HL:=hd_ hjl;have j0:(0:Int)<=(j:Int):=by omega
   have j1:(j:Int)<(n:Int):=by omega
   have ec:cntE a=3+cntS a.s:=rfl;have es:cntS a.s=cntR a.s.rs+a.s.zs.length+2 * a.s.ps.length+2+2 * a.s.ks.length+1:=rfl;have nr:=cntR_nn a.s.rs;have CB:=hd_ (show kk+3+cntR a.s.rs+a.s.zs.length+2 * a.s.ps.length+2+2 * a.s.ks.length+1<=100000000 by omega);have b1:kk<=100000000:=by omega
   obtain⟨a0,a1,a2,sm⟩:=a;obtain⟨rs,zs,ps,lo,al,ks,ka⟩:=sm;simp only at H3 CB E1 SP;have z0:=H3.out.hcell (j:=0) HL.out rfl;have z1:=H3.out.hcell (j:=1) HL.out rfl;have z2:=H3.out.hcell (j:=2) HL.out rfl;have z3:=H3.out.hcell (j:=3) HL.out rfl;have fz:=H3.out.hfree;simp only[Nat.add_zero]at z0;clear h h1 h2 e1 e2 q2 hjl hkk ha k1 ec es nr
   go_wp2_with fail
   rw[show kk+1+1+1=kk+3 by omega];have h4:=((H3.out.hset (j:=0) HL.out (by decide) (.int .i64 kk)).hset (j:=1) HL.out (by decide) (.int .i64 (kk+1))).hset (j:=2) HL.out (by decide) (.int .i64 (kk+1+1));simp only[List.set_cons_zero,List.set_cons_succ,Nat.add_zero]at h4;rw[show kk+1+1=kk+2 by omega]at h4 ⊢;have nr:=cntR_nn rs
   refine (markRs_M h4.p1 (k:=kk+3) (by omega) (by have:=CB.out;show kk+3+cntR rs<=100000000;omega)).mono ?_;rintro r w1 ⟨rfl,h5⟩;rw[show kk+3+cntL cntI rs=kk+3+cntR rs from rfl];obtain⟨k4,hk4⟩:∃k4,k4=kk+3+cntR rs:=⟨_,rfl⟩
   rw[<-hk4];have K4:=hd_ hk4;have H5:=hd_ h5;clear h4 h5 z0 z1 z2 z3 fz H3 hk4 nr;have z4:=H5.out.p1.hcell (j:=4) HL.out rfl
   go_wp2_with fail
   have nr:=cntR_nn rs;refine (markI_M H5.out.p2 (k:=k4) (by have:=K4.out;omega) (by have:=K4.out;have:=CB.out;show k4+zs.length<=100000000;omega)).mono ?_;rintro r w2 ⟨rfl,h6⟩;rw[show k4+cntI zs=k4+zs.length from rfl];obtain⟨k5,hk5⟩:∃k5,k5=k4+zs.length:=⟨_,rfl⟩
   rw[<-hk5];have K5:=hd_ hk5;have H6:=hd_ h6;clear h6 z4 H5 hk5 nr;have z5:=H6.out.p2.hcell (j:=5) HL.out rfl
   go_wp2_with fail
   have nr:=cntR_nn rs;refine (markP_M H6.out.p3 (k:=k5) (by have:=K4.out;have:=K5.out;omega) (by have:=K4.out;have:=K5.out;have:=CB.out;omega)).mono ?_;rintro r w3 ⟨rfl,h7⟩;obtain⟨k6,hk6⟩:∃k6,k6=k5+2 * (ps.length:Int):=⟨_,rfl⟩
   rw[<-hk6];have K6:=hd_ hk6;have H7:=hd_ h7;have c0:0<=k6:=by have:=K4.out;have:=K5.out;omega
   have c1:k6<=100000000:=by have:=K4.out;have:=K5.out;have:=CB.out;omega
   clear h7 z5 H6 hk6 nr;have z6:=H7.out.p3.hcell (j:=6) HL.out rfl;have z7:=H7.out.p3.hcell (j:=7) HL.out rfl;have z8:=H7.out.p3.hcell (j:=8) HL.out rfl;have fz:=H7.out.p3.hfree
   go_wp2_with fail
   have h8:=(H7.out.p3.hset (j:=6) HL.out (by decide) (.int .i64 k6)).hset (j:=7) HL.out (by decide) (.int .i64 (k6+1));simp only[List.set_cons_zero,List.set_cons_succ]at h8;rw[show k6+1+1=k6+2 by omega];refine (markKn_M h8.p4 (k:=k6+2) (by omega) (by have:=cntR_nn rs;have:=K4.out;have:=K5.out;have:=K6.out;have:=CB.out;omega)).mono ?_;rintro r w4 ⟨rfl,h9⟩
   obtain⟨k7,hk7⟩:∃k7,k7=k6+2+2 * (ks.length:Int):=⟨_,rfl⟩
   rw[<-hk7];have d0:0<=k7:=by omega
   have d1:k7<=100000000:=by have:=cntR_nn rs;have:=K4.out;have:=K5.out;have:=K6.out;have:=CB.out;omega
   have K7:=hd_ hk7;have H9:=hd_ h9;clear h8 h9 z6 z7 z8 fz H7 hk7;have z9:=H9.out.p1.hcell (j:=9) HL.out rfl;have fz:=H9.out.p1.hfree;have h10:=H9.out.p1.hset (j:=9) HL.out (by decide) (.int .i64 k7);simp only[List.set_cons_zero,List.set_cons_succ]at h10;have h11:=(h10.perm (List.reverse_perm [_,_,_,_,_] |>.symm.append_right l))
   have h12:=(M.entry (i:=kk) (born:=kk+1) (num:=kk+2) (M.sumWhole (V:=V) (s:=⟨mkR rs (kk+3),mkI zs k4,mkP2 ps k5,k6,k6+1,mkP2 ks (k6+2),k7⟩) h11)).close HL.out;have e:mkE ⟨a0,a1,a2,⟨rs,zs,ps,lo,al,ks,ka⟩⟩ kk=⟨kk,kk+1,kk+2,⟨mkR rs (kk+3),mkI zs k4,mkP2 ps k5,k6,k6+1,mkP2 ks (k6+2),k7⟩⟩:=by rw[K7.out,K6.out,K5.out,K4.out];rfl
   rw[<-e,E1.out]at h12;have F:=hd_ h12;have E7:=hd_ (show k7+1=k+cntL cntE (xs.take (j+1)) by
        rw[SP.out, <-Int.add_assoc, <-KK.out]
        show k7+1=kk+(3+(cntR rs+zs.length+2 * ps.length+2+2 * ks.length+1))
        have:=K4.out;have:=K5.out;have:=K6.out;have:=K7.out
        omega)
   clear h10 h11 h12 e H9;go_wp2;go_roundw
   case rel=>exact⟨j+1,hlt,by go_num,by rw[E7.out],F.out⟩
   case measure=>simp[intOf];omega
  ·obtain rfl:j=n:=by omega
   have F:=hd_ h;clear h;go_wp2;go_ret;have e1:xs.take j=xs:=List.take_of_length_le (by rw[HN.out];exact Nat.le_refl _);have e2:xs.drop j=[]:=List.drop_eq_nil_of_le (by rw[HN.out];exact Nat.le_refl _);have F:=F.out;rw[e1,e2,List.append_nil]at F;rw[KK.out,e1];exact⟨rfl,F⟩
variable {B:Nat} {w0 w:World} {l:List Ch} {v:Value} {k:Int}
theorem markNs_M {xs:List Nd} (h:M B w0 w (nodesC v xs::l)) (hk:0<=k) (hc:k+cntL cntN xs<=100000000):
  Calls Tryz.prog 124 #[v,.int .i64 k] w fun r w'=>r=.returned (.int .i64 (k+cntL cntN xs))/\M B w0 w' (nodesC v (mkL mkN cntN xs k)::l):=by
 obtain⟨x,n,c,rfl,hn,hm⟩:∃x n c,v=.slice x n c/\n=xs.length/\n<=maxLen:=by obtain⟨f,hf,_⟩:=h.first;obtain⟨_,_,e,q1,q2⟩:=slcR_value hf;exact⟨_,_,_,e,rfl,Nat.le_trans q1 q2⟩
 unfold maxLen at hm;have HC:=hd_ (And.intro hk hc);have HN:=hd_ hn;have H:=hd_ h;clear h hk hc hn;go_enter Tryz.func124,Tryz.ntmps124;go_wp2;go_loopw [1,5] (fun q i wr=>∃j:Nat,j<=n/\i=.int .i64 (j:Int)/\q=.int .i64 (k+cntL cntN (xs.take j))/\M B w0 wr (nodesC (.slice x n c) (mkL mkN cntN (xs.take j) k++xs.drop j)::l)) (fun _ i _=>n - (intOf i).toNat)
 case atStart=>exact⟨0,Nat.zero_le _,rfl,by rw[List.take_zero,cntL_nil,Int.add_zero],H.out⟩
 case round=>
  clear H;obtain⟨j,hj,rfl,rfl,h⟩:=hrel;obtain⟨kk,hkk⟩:∃kk,kk=k+cntL cntN (xs.take j):=⟨_,rfl⟩
  have KK:=hd_ hkk;rw[<-hkk]
  by_cases hlt:j<n
  ·obtain⟨a,ha⟩:∃a,xs[j]? =some a:=⟨_,List.getElem?_eq_getElem (by rw[<-HN.out];exact hlt)⟩
   obtain⟨e1,e2⟩:=mkL_step (f:=mkN) (c:=cntN) ha k;rw[<-hkk]at e1;obtain⟨g,cap,ci,e,_,h1⟩:=M.open (nodeR_frame (T:=TY)) h e2;injection e with q1 q2 q3
   subst q1 q3;obtain⟨y,m,cy,rfl⟩:∃y m cy,ci=[.int .i64 a.born,.slice y m cy,.int .i64 a.beacon,.int .i64 a.level,.int .i64 a.up]:=by
    obtain⟨f,hf,_⟩:=h1.first;obtain⟨u,rfl,hs⟩:=nodeR_iff.1 hf;obtain⟨y,c,rfl,_⟩:=slcR_value hs;exact⟨y,_,c,rfl⟩
   have h2:M B w0 wr (knownC (.slice y m cy) a.known::holeC (nodeR_frame (T:=TY)) 55 5 j (.slice (some ⟨g,0,none⟩) n c) (mkL mkN cntN (xs.take j) k++xs.drop j) [.int .i64 a.born,.slice y m cy,.int .i64 a.beacon,.int .i64 a.level,.int .i64 a.up]::l):=h1.to fun f hf nd=>by
    obtain⟨u,e,hs⟩:=nodeR_iff.1 hf;simp only[List.cons.injEq,true_and,and_true]at e;rw[<-e]at hs;exact⟨f,hs,nd,fun b hb=>hb⟩
   have hjl:j<(mkL mkN cntN (xs.take j) k++xs.drop j).length:=by rw[<-q2];exact hlt
   have H3:=hd_ h2.p1;have k0:0<=kk:=by have:=cntL_nn cntN_nn (xs.take j);have:=HC.out.1;omega
   have k1:kk+cntN a<=100000000:=by
    have:=cntL_take cntN_nn xs (j+1);rw[cntL_at ha]at this;have:=HC.out.2;omega
   have SP:=hd_ (cntL_at (c:=cntN) ha);have E1:=hd_ e1;have HL:=hd_ hjl;have j0:(0:Int)<=(j:Int):=by omega
   have j1:(j:Int)<(n:Int):=by omega
   have cn:=cntK_nn a.known;have CB:=hd_ (show kk+(1+cntK a.known+3)<=100000000 from k1);have b1:kk<=100000000:=by have:=CB.out;omega
   clear h h1 h2 e1 e2 q2 hjl hkk ha k1;have z0:=H3.out.hcell (j:=0) HL.out rfl;have z1:=H3.out.hcell (j:=1) HL.out rfl;have fz:=H3.out.hfree;simp only[Nat.add_zero]at z0
   go_wp2_with fail
   have h4:=H3.out.hset (j:=0) HL.out (by decide) (.int .i64 kk);simp only[List.set_cons_zero,List.set_cons_succ,Nat.add_zero]at h4;refine (markK_M h4.p1 (k:=kk+1) (by omega) (by have:=CB.out;omega)).mono ?_;rintro r w1 ⟨rfl,h5⟩;obtain⟨k4,hk4⟩:∃k4,k4=kk+1+cntK a.known:=⟨_,rfl⟩
   rw[<-hk4];have K4:=hd_ hk4;have H5:=hd_ h5.p1;have c0:0<=k4:=by omega
   have c1:k4<=100000000:=by have:=CB.out;omega
   clear h4 h5 z0 z1 fz H3 hk4;have z2:=H5.out.hcell (j:=2) HL.out rfl;have z3:=H5.out.hcell (j:=3) HL.out rfl;have z4:=H5.out.hcell (j:=4) HL.out rfl;have fz:=H5.out.hfree;have h10:=((H5.out.hset (j:=2) HL.out (by decide) (.int .i64 k4)).hset (j:=3) HL.out (by decide) (.int .i64 (k4+1))).hset (j:=4) HL.out (by decide) (.int .i64 (k4+1+1));simp only[List.set_cons_zero,List.set_cons_succ]at h10
   have h12:=M.close (M.node (born:=kk) (beacon:=k4) (level:=k4+1) (up:=k4+1+1) h10.p1) HL.out;have e:mkN a kk=⟨kk,mkK a.known (kk+1),k4,k4+1,k4+1+1⟩:=by rw[K4.out];unfold mkN;congr 1;omega
   rw[<-e,E1.out]at h12;have F:=hd_ (show M B w0 _ (nodesC _ _::l)from h12);have E7:=hd_ (show k4+1+1+1=k+cntL cntN (xs.take (j+1)) by
        rw[SP.out, <-Int.add_assoc, <-KK.out]
        show k4+1+1+1=kk+(1+cntK a.known+3)
        have:=K4.out
        omega)
   clear h10 h12 e H5;go_wp2;go_roundw
   case rel=>exact⟨j+1,hlt,by go_num,by rw[E7.out],F.out⟩
   case measure=>simp[intOf];omega
  ·obtain rfl:j=n:=by omega
   have F:=hd_ h;clear h;go_wp2;go_ret;have e1:xs.take j=xs:=List.take_of_length_le (by rw[HN.out];exact Nat.le_refl _);have e2:xs.drop j=[]:=List.drop_eq_nil_of_le (by rw[HN.out];exact Nat.le_refl _);have F:=F.out;rw[e1,e2,List.append_nil]at F;rw[KK.out,e1];exact⟨rfl,F⟩
theorem markWs_M {xs:List Wd} (h:M B w0 w (wordsC v xs::l)) (hk:0<=k) (hc:k+cntL cntW xs<=100000000):
  Calls Tryz.prog 126 #[v,.int .i64 k] w fun r w'=>r=.returned (.int .i64 (k+cntL cntW xs))/\M B w0 w' (wordsC v (mkL mkW cntW xs k)::l):=by
 obtain⟨x,n,c,rfl,hn,hm⟩:∃x n c,v=.slice x n c/\n=xs.length/\n<=maxLen:=by obtain⟨f,hf,_⟩:=h.first;obtain⟨_,_,e,q1,q2⟩:=slcR_value hf;exact⟨_,_,_,e,rfl,Nat.le_trans q1 q2⟩
 unfold maxLen at hm;have HC:=hd_ (And.intro hk hc);have HN:=hd_ hn;have H:=hd_ h;clear h hk hc hn;go_enter Tryz.func126,Tryz.ntmps126;go_wp2;go_loopw [1,5] (fun q i wr=>∃j:Nat,j<=n/\i=.int .i64 (j:Int)/\q=.int .i64 (k+cntL cntW (xs.take j))/\M B w0 wr (wordsC (.slice x n c) (mkL mkW cntW (xs.take j) k++xs.drop j)::l)) (fun _ i _=>n - (intOf i).toNat)
 case atStart=>exact⟨0,Nat.zero_le _,rfl,by rw[List.take_zero,cntL_nil,Int.add_zero],H.out⟩
 case round=>
  clear H;obtain⟨j,hj,rfl,rfl,h⟩:=hrel;obtain⟨kk,hkk⟩:∃kk,kk=k+cntL cntW (xs.take j):=⟨_,rfl⟩
  have KK:=hd_ hkk;rw[<-hkk]
  by_cases hlt:j<n
  ·obtain⟨a,ha⟩:∃a,xs[j]? =some a:=⟨_,List.getElem?_eq_getElem (by rw[<-HN.out];exact hlt)⟩
   obtain⟨e1,e2⟩:=mkL_step (f:=mkW) (c:=cntW) ha k;rw[<-hkk]at e1;obtain⟨g,cap,ci,e,_,h1⟩:=M.open (wordR_frame (T:=TY)) h e2;injection e with q1 q2 q3
   subst q1 q3;obtain⟨y,m,cy,rfl⟩:∃y m cy,ci=[.int .i64 a.kind,.int .i64 a.src,.int .i64 a.dst,.int .i64 a.beacon,.int .i64 a.level,.slice y m cy]:=by
    obtain⟨f,hf,_⟩:=h1.first;obtain⟨u,rfl,hs⟩:=wordR_iff.1 hf;obtain⟨y,c,rfl,_⟩:=slcR_value hs;exact⟨y,_,c,rfl⟩
   have h2:M B w0 wr (knownC (.slice y m cy) a.known::holeC (wordR_frame (T:=TY)) 123 6 j (.slice (some ⟨g,0,none⟩) n c) (mkL mkW cntW (xs.take j) k++xs.drop j) [.int .i64 a.kind,.int .i64 a.src,.int .i64 a.dst,.int .i64 a.beacon,.int .i64 a.level,.slice y m cy]::l):=h1.to fun f hf nd=>by
    obtain⟨u,e,hs⟩:=wordR_iff.1 hf;simp only[List.cons.injEq,true_and,and_true]at e;rw[<-e]at hs;exact⟨f,hs,nd,fun b hb=>hb⟩
   have hjl:j<(mkL mkW cntW (xs.take j) k++xs.drop j).length:=by rw[<-q2];exact hlt
   have H3:=hd_ h2.p1;have k0:0<=kk:=by have:=cntL_nn cntW_nn (xs.take j);have:=HC.out.1;omega
   have k1:kk+cntW a<=100000000:=by
    have:=cntL_take cntW_nn xs (j+1);rw[cntL_at ha]at this;have:=HC.out.2;omega
   have SP:=hd_ (cntL_at (c:=cntW) ha);have E1:=hd_ e1;have HL:=hd_ hjl;have j0:(0:Int)<=(j:Int):=by omega
   have j1:(j:Int)<(n:Int):=by omega
   have cn:=cntK_nn a.known;have CB:=hd_ (show kk+(5+cntK a.known)<=100000000 from k1);have b1:kk<=100000000:=by have:=CB.out;omega
   clear h h1 h2 e1 e2 q2 hjl hkk ha k1;have z0:=H3.out.hcell (j:=0) HL.out rfl;have z1:=H3.out.hcell (j:=1) HL.out rfl;have z2:=H3.out.hcell (j:=2) HL.out rfl;have z3:=H3.out.hcell (j:=3) HL.out rfl;have z4:=H3.out.hcell (j:=4) HL.out rfl;have z5:=H3.out.hcell (j:=5) HL.out rfl;have fz:=H3.out.hfree;simp only[Nat.add_zero]at z0
   go_wp2_with fail
   have h4:=((((H3.out.hset (j:=0) HL.out (by decide) (.int .i64 kk)).hset (j:=1) HL.out (by decide) (.int .i64 (kk+1))).hset (j:=2) HL.out (by decide) (.int .i64 (kk+1+1))).hset (j:=3) HL.out (by decide) (.int .i64 (kk+1+1+1))).hset (j:=4) HL.out (by decide) (.int .i64 (kk+1+1+1+1));simp only[List.set_cons_zero,List.set_cons_succ,Nat.add_zero]at h4
   refine (markK_M h4.p1 (k:=kk+1+1+1+1+1) (by omega) (by have:=CB.out;omega)).mono ?_;rintro r w1 ⟨rfl,h5⟩;have e5:kk+1+1+1+1+1=kk+5:=by omega
   have h12:=M.close (M.word (kind:=kk) (src:=kk+1) (dst:=kk+1+1) (beacon:=kk+1+1+1) (level:=kk+1+1+1+1) h5) HL.out;have e:mkW a kk=⟨kk,kk+1,kk+1+1,kk+1+1+1,kk+1+1+1+1,mkK a.known (kk+1+1+1+1+1)⟩:=by rw[e5];unfold mkW;congr 1<;>omega
   rw[<-e,E1.out]at h12;have F:=hd_ (show M B w0 _ (wordsC _ _::l)from h12);have E7:=hd_ (show kk+1+1+1+1+1+cntK a.known=k+cntL cntW (xs.take (j+1)) by
        rw[SP.out, <-Int.add_assoc, <-KK.out]
        show kk+1+1+1+1+1+cntK a.known=kk+(5+cntK a.known)
        omega)
   clear h4 h5 h12 e e5 H3 z0 z1 z2 z3 z4 z5 fz;go_wp2;go_roundw
   case rel=>exact⟨j+1,hlt,by go_num,by rw[E7.out],F.out⟩
   case measure=>simp[intOf];omega
  ·obtain rfl:j=n:=by omega
   have F:=hd_ h;clear h;go_wp2;go_ret;have e1:xs.take j=xs:=List.take_of_length_le (by rw[HN.out];exact Nat.le_refl _);have e2:xs.drop j=[]:=List.drop_eq_nil_of_le (by rw[HN.out];exact Nat.le_refl _);have F:=F.out;rw[e1,e2,List.append_nil]at F;rw[KK.out,e1];exact⟨rfl,F⟩
theorem mkB_step {xs:List Bool} {j:Nat} (h:j<xs.length) (k:Int):(mkB (xs.take j) k++xs.drop j).set j (decide ((k+(j:Int)).tmod 3=0))=mkB (xs.take (j+1)) k++xs.drop (j+1):=by
 have ln:(mkB (xs.take j) k).length=j:=by unfold mkB;simp;omega
 rw[List.drop_eq_getElem_cons h,List.set_append_right _ _ (by omega),ln,Nat.sub_self,List.set_cons_zero];unfold mkB;rw[List.length_take,List.length_take,show min (j+1) xs.length=min j xs.length+1 by omega,List.range_succ,List.map_append,List.append_assoc,show min j xs.length=j by omega]
 rfl
theorem mkB_len (xs:List Bool) (k:Int):(mkB xs k).length=xs.length:=by unfold mkB;simp
theorem markBs_M {xs:List Bool} (h:M B w0 w (linksC v xs::l)) (hk:0<=k) (hc:k+(xs.length:Int)<=100000000):
  Calls Tryz.prog 125 #[v,.int .i64 k] w fun r w'=>r=.returned (.int .i64 (k+(xs.length:Int)))/\M B w0 w' (linksC v (mkB xs k)::l):=by
 obtain⟨x,n,c,rfl,hn,hm⟩:∃x n c,v=.slice x n c/\n=xs.length/\n<=maxLen:=by obtain⟨f,hf,_⟩:=h.first;obtain⟨_,_,e,q1,q2⟩:=slcR_value hf;exact⟨_,_,_,e,rfl,Nat.le_trans q1 q2⟩
 unfold maxLen at hm;rw[<-hn]at hc ⊢;have HC:=hd_ (And.intro hk hc);have HN:=hd_ hn;have H:=hd_ h;clear h hk hc hn;go_enter Tryz.func125,Tryz.ntmps125;go_wp2;go_loopw [1,5] (fun q i wr=>∃j:Nat,j<=n/\i=.int .i64 (j:Int)/\q=.int .i64 (k+(j:Int))/\M B w0 wr (linksC (.slice x n c) (mkB (xs.take j) k++xs.drop j)::l)) (fun _ i _=>n - (intOf i).toNat)
 case atStart=>exact⟨0,Nat.zero_le _,rfl,by simp,H.out⟩
 case round=>
  clear H;obtain⟨j,hj,rfl,rfl,h⟩:=hrel
  by_cases hlt:j<n
  ·obtain⟨kk,hkk⟩:∃kk,kk=k+(j:Int):=⟨_,rfl⟩
   have KK:=hd_ hkk;rw[<-hkk];have hjx:j<xs.length:=by rw[<-HN.out];exact hlt
   have hjl:j<(mkB (xs.take j) k++xs.drop j).length:=by rw[List.length_append,mkB_len,List.length_take,List.length_drop];omega
   obtain⟨g,rfl⟩:∃g,x=some ⟨g,0,none⟩:=by
    obtain⟨f,hf,_⟩:=h.first;obtain⟨g,hx,_⟩:=link_at (T:=TY) hf (List.getElem?_eq_getElem hjl);exact⟨g,hx⟩
   obtain⟨⟨z,cz⟩,fz,h1⟩:=M.setEl h hjl (decide (kk.tmod 3=0)) (u:=.bool (decide (kk.tmod 3=0))) rfl;have e:=mkB_step hjx k;rw[<-hkk]at e;rw[e]at h1;have F:=hd_ (show M B w0 _ (linksC _ _::l)from h1);have j0:(0:Int)<=(j:Int):=by omega
   have j1:(j:Int)<(n:Int):=by omega
   have k0:0<=kk:=by have:=HC.out.1;omega
   have k1:kk<=100000000:=by have:=HC.out.2;omega
   have q3:kk.tmod 3=kk % 3:=Int.tmod_eq_emod_of_nonneg k0;rw[q3]at F;clear h h1 e hjx hjl hkk q3;go_wp2;go_roundw
   case rel=>exact⟨j+1,hlt,by go_num,by rw[KK.out];go_num,F.out⟩
   case measure=>simp[intOf];omega
  ·obtain rfl:j=n:=by omega
   have F:=hd_ h;clear h;go_wp2;go_ret;have e1:xs.take j=xs:=List.take_of_length_le (by rw[HN.out];exact Nat.le_refl _);have e2:xs.drop j=[]:=List.drop_eq_nil_of_le (by rw[HN.out];exact Nat.le_refl _);have F:=F.out;rw[e1,e2,List.append_nil]at F;exact⟨rfl,F⟩
variable {B:Nat} {w0 w:World} {l:List Ch} {v:Value} {k:Int}
def netC (v1 v2 v3 v4:Value) (a:Nt):Ch:=(netR_frame (T:=TY)).ch [v1,v2,v3,v4] a
theorem _root_.Go.Proofs.YtcblbdpdbggkbaaGreat.M.netParts {v1 v2 v3 v4:Value} {a:Nt} (h:M B w0 w (netC v1 v2 v3 v4 a::l)):M B w0 w (nodesC v1 a.nodes::linksC v2 a.links::wordsC v3 a.words::pastC v4 a.past::l):=by
 have e:M B w0 w ((nodesC v1 a.nodes).sep ((linksC v2 a.links).sep ((wordsC v3 a.words).sep (pastC v4 a.past)))::l):=h.to fun f hf nd=>by
  obtain⟨_,_,_,_,f1,f2,f3,f4,e,rfl,h1,h2,h3,h4⟩:=netR_iff.1 hf;cases e;exact⟨_,⟨f1,_,rfl,h1,f2,_,rfl,h2,f3,f4,rfl,h3,h4⟩,nd,fun b hb=>hb⟩
 exact (e.two.p1.two.p1.two.p1).perm (List.reverse_perm [_,_,_,_] |>.append_right l)
theorem _root_.Go.Proofs.YtcblbdpdbggkbaaGreat.M.netWhole {v1 v2 v3 v4:Value} {a:Nt} (h:M B w0 w (nodesC v1 a.nodes::linksC v2 a.links::wordsC v3 a.words::pastC v4 a.past::l)):M B w0 w (netC v1 v2 v3 v4 a::l):=
 (M.sep (M.p1 (M.sep (M.p1 (M.sep (M.p1 (h.perm (List.reverse_perm [_,_,_,_] |>.symm.append_right l)))))))).to fun f hf nd=>by
  obtain⟨f1,_,rfl,h1,f2,_,rfl,h2,f3,f4,rfl,h3,h4⟩:=hf;exact⟨_,netR_iff.2 ⟨_,_,_,_,f1,f2,f3,f4,rfl,rfl,h1,h2,h3,h4⟩,nd,fun b hb=>hb⟩
theorem cntNt_iff (a:Nt):cntNt a=cntL cntN a.nodes+a.links.length+cntL cntW a.words+cntL cntR a.past:=rfl
theorem parts_nn (a:Nt):0<=cntL cntN a.nodes/\0<=cntL cntW a.words/\0<=cntL cntR a.past:=⟨cntL_nn cntN_nn _,cntL_nn cntW_nn _,cntL_nn cntR_nn _⟩
theorem markNet_M {a:Nt} {xa xb xc xd:Option Addr} {na nb nc nd ca cb cc cd:Nat} (h:M B w0 w (netC (.slice xa na ca) (.slice xb nb cb) (.slice xc nc cc) (.slice xd nd cd) a::l)) (hk:0<=k) (hc:k+cntNt a<=100000000):
  Calls Tryz.prog 52 #[.agg #[.slice xa na ca,.slice xb nb cb,.slice xc nc cc,.slice xd nd cd],.int .i64 k] w fun r w'=>r=.returned (.int .i64 (k+cntNt a))/\M B w0 w' (netC (.slice xa na ca) (.slice xb nb cb) (.slice xc nc cc) (.slice xd nd cd) (mkNt a k)::l):=by
 obtain⟨p1,p2,p3⟩:=parts_nn a;have ei:=cntNt_iff a;have B1:=hd_ (show 0<=k/\k+cntL cntN a.nodes<=100000000 by omega);have B2:=hd_ (show 0<=k+cntL cntN a.nodes/\k+cntL cntN a.nodes+(a.links.length:Int)<=100000000 by omega);have B3:=hd_ (show 0<=k+cntL cntN a.nodes+(a.links.length:Int)/\k+cntL cntN a.nodes+(a.links.length:Int)+cntL cntW a.words<=100000000 by omega)
 have B4:=hd_ (show 0<=k+cntL cntN a.nodes+(a.links.length:Int)+cntL cntW a.words/\k+cntL cntN a.nodes+(a.links.length:Int)+cntL cntW a.words+cntL cntR a.past<=100000000 by omega);have EI:=hd_ (show k+cntL cntN a.nodes+(a.links.length:Int)+cntL cntW a.words+cntL cntR a.past=k+cntNt a by omega);have H:=hd_ (h.netParts.alloc #[.slice xa na ca,.slice xb nb cb,.slice xc nc cc,.slice xd nd cd] 30)
 obtain⟨c0,c1,c2,c3⟩:=H.out.cells4;clear h hk hc p1 p2 p3 ei;go_enter Tryz.func52,Tryz.ntmps52
 go_wp2_with fail
 refine (markNs_M H.out.p1 B1.out.1 B1.out.2).mono ?_;rintro r w1 ⟨rfl,h1⟩;have H1:=hd_ h1;clear h1 c0 c1 c2 c3 H;obtain⟨k1,hk1⟩:∃k1,k1=k+cntL cntN a.nodes:=⟨_,rfl⟩
 rw[<-hk1];have K1:=hd_ hk1;rw[<-hk1]at B2;clear hk1;obtain⟨c0,c1,c2,c3⟩:=H1.out.p1.cells4
 go_wp2_with fail
 refine (markBs_M H1.out.p2 B2.out.1 B2.out.2).mono ?_;rintro r w2 ⟨rfl,h2⟩;have H2:=hd_ h2;clear h2 c0 c1 c2 c3 H1;obtain⟨k2,hk2⟩:∃k2,k2=k1+(a.links.length:Int):=⟨_,rfl⟩
 rw[<-hk2];have K2:=hd_ hk2;rw[<-K1.out, <-hk2]at B3;clear hk2;obtain⟨c0,c1,c2,c3⟩:=H2.out.p2.cells4
 go_wp2_with fail
 refine (markWs_M H2.out.p3 B3.out.1 B3.out.2).mono ?_;rintro r w3 ⟨rfl,h3⟩;have H3:=hd_ h3;clear h3 c0 c1 c2 c3 H2;obtain⟨k3,hk3⟩:∃k3,k3=k2+cntL cntW a.words:=⟨_,rfl⟩
 rw[<-hk3];have K3:=hd_ hk3;rw[<-K1.out, <-K2.out, <-hk3]at B4;clear hk3;obtain⟨c0,c1,c2,c3⟩:=H3.out.p3.cells4
 go_wp2_with fail
 refine (markPa_M H3.out.p4 B4.out.1 B4.out.2).mono ?_;rintro r w4 ⟨rfl,h4⟩;have F:=hd_ (h4.perm (List.reverse_perm [_,_,_,_,_] |>.symm.append_right l));clear h4 c0 c1 c2 c3 H3;go_wp2;go_ret;have e:mkNt a k=⟨mkL mkN cntN a.nodes k,mkB a.links k1,mkL mkW cntW a.words k2,mkPast a.past k3⟩:=by rw[K3.out,K2.out,K1.out];rfl
 refine⟨by rw[<-EI.out,K3.out,K2.out,K1.out];rfl,?_⟩;rw[e];exact M.netWhole (a:=⟨mkL mkN cntN a.nodes k,mkB a.links k1,mkL mkW cntW a.words k2,mkPast a.past k3⟩) F.out.drop
end N
end Go.Proofs.YtcblbdpdbggkbaaGreat
set_option linter.unusedVariables false
set_option linter.unusedSectionVars false
set_option linter.unusedSimpArgs false
namespace Go.Proofs.YtcblbdpdbggkbaaGreat
open Go.RowKit Go.Sort
namespace N
variable {w:World} {v:Value} {k:Int} {fp:List Nat}
theorem heldI_at2 {zs:List Int} (h:intsR w [v] (mkI zs k) fp) (hk:0<=k) (hc:k+cntI zs<=200000000):
  Calls Tryz.prog 54 #[v,.int .i64 k] w fun r w'=>r=.returned (.int .i64 (k+cntI zs))/\w=w':=by
 have hk2:k<=200000000:=by have:=cntI_nn zs;omega
 have hn:(zs.length:Int)<=200000000:=by unfold cntI at hc;omega
 obtain⟨_,e,o,_⟩:=intsR_to h;cases e;exact heldIntS_at w v zs.length k (by omega) hk (by omega) o
variable {w:World} {v:Value} {k:Int} {fp:List Nat}
end N
end Go.Proofs.YtcblbdpdbggkbaaGreat
set_option linter.unusedVariables false
set_option linter.unusedSectionVars false
set_option linter.unusedSimpArgs false
namespace Go.Proofs.YtcblbdpdbggkbaaGreat
open Go.RowKit Go.Sort
namespace N
variable {B:Nat} {w0 w w':World} {l:List Ch}
theorem _root_.Go.Proofs.YtcblbdpdbggkbaaGreat.M.ints {v:Value} {zs:List Int} (h:M B w0 w (intsC v zs::l)):Ints w v zs:=by
 obtain⟨f,hf,_⟩:=h.first;obtain⟨_,e,o,_⟩:=intsR_to hf;cases e;exact o
end N
end Go.Proofs.YtcblbdpdbggkbaaGreat
set_option linter.unusedVariables false
set_option linter.unusedSectionVars false
set_option linter.unusedSimpArgs false
namespace Go.Proofs.YtcblbdpdbggkbaaGreat.N
open Go.RowKit Go.Sort
theorem cntR_take (rs:List (List Int)):∀k,k<=rs.length->cntL cntI (rs.take k)=(ahead rs k:Nat)
 | 0,_=>rfl
 |k+1,h=>by
  obtain⟨x,hx⟩:∃x,rs[k]? =some x:=⟨_,List.getElem?_eq_getElem h⟩
  rw[cntL_at hx,cntR_take rs k (by omega)];show _+cntI x=((ahead rs k+(rs.getD k []).length:Nat):Int)
  rw[List.getD_eq_getElem?_getD,hx];unfold cntI;simp
theorem cntR_ahead (rs:List (List Int)):cntR rs=(ahead rs rs.length:Nat):=by
 have:=cntR_take rs rs.length lr_;rwa[List.take_length]at this
theorem cnt_sz {α:Type} {c:α->Int} {f:α->Nat} (h:∀x,c x<=6 * ((1+f x:Nat):Int)):∀l:List α,cntL c l<=6 * ((l.length+szS f l:Nat):Int)
 | []=>Int.le_refl _
 |x::xs=>by
  have h1:=cnt_sz h xs;have h2:=h x;have e:szS f (x::xs)=f x+szS f xs:=by unfold szS;rw[List.map_cons,List.sum_cons]
  rw[cntL_cons,e,List.length_cons];omega
theorem cntK_sz (es:List En):cntK es<=6 * (szK es:Int):=by
 refine cnt_sz (fun e=>?_) es;have:=cntR_ahead e.s.rs;unfold cntE cntS lenS;omega
theorem cntNt_sz (n:Nt):cntNt n<=6 * (szNt n:Int):=by
 have h1:=cnt_sz (c:=cntN) (f:=fun x=>szK x.known) (fun x=>by have:=cntK_sz x.known;unfold cntN;omega) n.nodes;have h2:=cnt_sz (c:=cntW) (f:=fun x=>szK x.known) (fun x=>by have:=cntK_sz x.known;unfold cntW;omega) n.words;have h3:=cnt_sz (c:=cntR) (f:=fun rs=>rs.length+ahead rs rs.length) (fun rs=>by have:=cntR_ahead rs;omega) n.past;unfold cntNt cntP szNt szNs szWs szP;omega
theorem cntNt_nn (n:Nt):0<=cntNt n:=by
 have h1:=cntL_nn cntN_nn n.nodes;have h2:=cntL_nn cntW_nn n.words;have h3:=cntP_nn n.past;unfold cntNt;omega
end Go.Proofs.YtcblbdpdbggkbaaGreat.N
set_option linter.unusedVariables false
set_option linter.unusedSectionVars false
set_option linter.unusedSimpArgs false
namespace Go.Proofs.YtcblbdpdbggkbaaGreat
open Go.RowKit Go.Sort
section
variable {α:Type} {e:TypeId} {size:Nat} {w w' w0:World} {B:Nat} {l:List Ch} {xs ys:List α} {v u:Value} {enc:α->List Value}
def RdL (enc:α->List Value) (w:World) (u:Value) (ys:List α):Prop:=(u=.slice none 0 0/\ys=[])\/∃ad c,u=.slice (some ad) ys.length c/\∀(j:Nat) z,(ys.flatMap enc)[j]? =some z->w.cell? (ad.add j)=some z
theorem run_add {P:Program} {t:TypeId} {z:Value} {bytes:Nat} (T:SlT P t e z size bytes) (hl:∀a,(enc a).length=size) (h1:∀(a:α),∀u ∈ enc a,u.oneCell'=true) (h:M B w0 w (slcC (flatR_frame enc) e size v xs::l)) (hy:RdL enc w u ys)
  (ty:TypeId) (h63:xs.length+ys.length<=maxLen) (hby:(xs.length+ys.length) * bytes<=140737488355328):
  ∃y cap w',(Builtin.append_ #[t,t] ty #[v,u]).run P w=.ok (.slice y (xs.length+ys.length) cap) w'/\M B w0 w' (slcC (flatR_frame enc) e size (.slice y (xs.length+ys.length) cap) (xs++ys)::l):=by
 obtain⟨i,hi,hz,hs,hb⟩:=info_parts T.info;obtain⟨f,hf,_⟩:=h.first;obtain⟨_,e1,ho,rfl⟩:=slc_flat_to hf;cases e1;rcases hy with ⟨rfl,rfl⟩|⟨ad,c,rfl,hc⟩
 ·obtain⟨x,c,rfl⟩:=row_slice ho
  exact⟨x,c,w,run_append_owned_none (P:=P) (w:=w) 0 t ty e i size T.und hi _ _ _ ho,by rw[List.append_nil];exact h⟩
 ·have fl:∀zs:List α,(zs.flatMap enc).length=zs.length * size:=fun zs=>by
   induction zs with
   |nil=>simp
   |cons a zs ih=>rw[List.flatMap_cons,List.length_append,ih,hl,List.length_cons,Nat.succ_mul,Nat.add_comm]
  obtain⟨v',w',hr,h2,h3,_,h4⟩:=run_append_own_at (P:=P) w 0 t ty e i z size bytes T.und hi hz hs hb T.zs T.pos v xs.length (xs.flatMap enc) ho ad ys.length c (ys.flatMap enc) (fl ys) hc
   (fun q hq=>by obtain⟨a,_,ha⟩:=List.mem_flatMap.1 hq;exact h1 a q ha) h63 hby (Nat.zero_le _)
  obtain⟨y,cap,rfl⟩:=row_slice h2;refine⟨y,cap,w',hr,h.turn fun f hf nd lo=>?_⟩;obtain⟨_,e1,_,rfl⟩:=slc_flat_to hf;cases e1;refine⟨⟨h3.os,h3.tape,h3.output,h3.size,fun k hk hs=>h3.block k hk fun q=>hs (by rw[<-q];simp)⟩,_,slc_flat_of (enc:=enc) (xs:=xs++ys) (by rw[List.flatMap_append,List.length_append];exact h2) hl,block_nodup _,fun b hb=>?_⟩;rcases h4 with q|q
  ·rw[q]at hb;exact .inl hb
  ·rw[q]at hb
   rw[show b=w.heap.size by simpa using hb];exact .inr lr_
theorem wp_add {P:Program} {t:TypeId} {z:Value} {bytes:Nat} (T:SlT P t e z size bytes) (hl:∀a,(enc a).length=size) (h1:∀(a:α),∀u ∈ enc a,u.oneCell'=true) (h:M B w0 w (slcC (flatR_frame enc) e size v xs::l)) (hy:RdL enc w u ys)
  {o:Oper} {a:Act} {K:Act->World->Prop} {Q:Exit->Act->World->Prop} {s x:Operand} (ho:o.op=.call { callee:=.builtin .append,args:=#[s,x],argTypes:=#[t,t] }) {N:Nat} (hs:a.eval s=v) (hu:a.eval x=u)
  (h63:xs.length+ys.length<=maxLen) (hby:(xs.length+ys.length) * bytes<=140737488355328) (hN:N=xs.length+ys.length)
  (k:∀y cap w',M B w0 w' (slcC (flatR_frame enc) e size (.slice y N cap) (xs++ys)::l)->K (a.put o.dst (.slice y N cap)) w'):o.wp P a w K Q:=by
 obtain⟨y,cap,w',hr,hM⟩:=run_add T hl h1 h hy o.type h63 hby;unfold Oper.wp execOp;simp only[ho,resolve,invoke,builtin,Sem.run_bind,Sem.run_pure,Result.andThen_ok,List.map_toArray,List.map_cons,List.map_nil,hs,hu,hr];rw[hN]at k;exact k y cap w' hM
theorem step_add {P:Program} {t:TypeId} {z:Value} {bytes:Nat} (T:SlT P t e z size bytes) (hl:∀a,(enc a).length=size) (h1:∀(a:α),∀u ∈ enc a,u.oneCell'=true) (h:M B w0 w (slcC (flatR_frame enc) e size v xs::l)) (hy:RdL enc w u ys)
  {ops:Array Oper} {o:Oper} {a:Act} {K:Act->World->Prop} {Q:Exit->Act->World->Prop} {E:Prop} {s x:Operand} (hgd:o.guard=none) (ho:o.op=.call { callee:=.builtin .append,args:=#[s,x],argTypes:=#[t,t] }) {N:Nat} (hs:a.eval s=v) (hu:a.eval x=u)
  (h63:xs.length+ys.length<=maxLen) (hby:(xs.length+ys.length) * bytes<=140737488355328) (hN:N=xs.length+ys.length)
  (k:∀y cap w',M B w0 w' (slcC (flatR_frame enc) e size (.slice y N cap) (xs++ys)::l)->K (a.put o.dst (.slice y N cap)) w'):if Region.wanted o (yielded ops a.tmps)=true then Oper.wp P o a w K Q else E:=by
 rw[if_pos (by simp[Region.wanted,hgd])];exact wp_add T hl h1 h hy ho hs hu h63 hby hN k
end
end Go.Proofs.YtcblbdpdbggkbaaGreat
set_option linter.unusedVariables false
set_option linter.unusedSectionVars false
set_option linter.unusedSimpArgs false
namespace Go.Proofs.YtcblbdpdbggkbaaGreat
open Go.RowKit Go.Sort
namespace N
def oneF (n:Nt) (e:En):List Int:=if wasB n e=true then (pastAt n e.node e.born).take e.num.toNat else []
def listF (n:Nt) (es:List En):List Int:=if okNB n=true then es.flatMap (oneF n)else []
theorem row_max {l:List Int} (h:rowB l=true):l.length<=100:=by
 unfold rowB at h;rw[Bool.and_eq_true,decide_eq_true_eq]at h;exact h.2
theorem okNB_parts {n:Nt} (h:okNB n=true):Shape n/\Fine n:=by
 unfold okNB sizeB at h;simp only[Bool.and_eq_true,decide_eq_true_eq,List.all_eq_true,List.mem_range]at h;obtain⟨⟨h1,h2,_⟩,h3,_⟩:=h;refine⟨shape_of h1 h2 h3,fun i hi=>?_⟩;have:=h3 i hi;unfold seatB pastB at this;simp only[Bool.and_eq_true,decide_eq_true_eq]at this;exact this.2.1.2.2
theorem RdL.ints {w:World} {v:Value} {zs:List Int} (h:Ints w v zs):RdL encI w v zs:=by
 rcases h with ⟨e,rfl⟩|⟨b,o,cap,e,h1,h2,hb,hc⟩
 ·exact .inl ⟨e,rfl⟩
 ·refine .inr ⟨⟨b,o,none⟩,cap,e,fun j z hz=>?_⟩
  have e1:zs.flatMap encI=zs.map (Value.int .i64):=by
   clear hc hz e h1
   induction zs with
   |nil=>rfl
   |cons a zs ih=>rw[List.flatMap_cons,ih];rfl
  rw[e1,List.getElem?_map]at hz;obtain⟨y,hy,rfl⟩:=Option.map_eq_some_iff.1 hz;have:=hc j (List.getElem?_eq_some_iff.1 hy).1;rw[Addr.add_mid,this,List.getD_eq_getElem?_getD,hy];rfl
theorem oneF_len {n:Nt} (hf:Fine n) (e:En):(oneF n e).length<=100:=by
 unfold oneF
 split
 ·rename_i h
  have hr:rowB (pastAt n e.node e.born)=true:=past_row (by
      unfold wasB at h
      rw[Bool.and_eq_true]at h
      obtain⟨a,b⟩:=in6_iff.1 h.1
      have:=hf e.node.toNat (by omega)
      rwa[show ((e.node.toNat:Nat):Int)=e.node by omega]at this)
  have:=row_max hr;rw[List.length_take];omega
 ·exact Nat.zero_le _
theorem flat_at {n:Nt} {es:List En} {j:Nat} {x:En} (h:es[j]? =some x):(es.take (j+1)).flatMap (oneF n)=(es.take j).flatMap (oneF n)++oneF n x:=by
 rw[take_at h,List.flatMap_append,List.flatMap_cons,List.flatMap_nil,List.append_nil]
theorem flat_max {n:Nt} (hf:Fine n):∀(es:List En),(es.flatMap (oneF n)).length<=100 * es.length
 | []=>Nat.le_refl _
 |e::es=>by
  have:=flat_max hf es;have:=oneF_len hf e;rw[List.flatMap_cons,List.length_append,List.length_cons];omega
theorem imNetList_at (w:World) {x1 x2 x3 x4:Option Addr} {k1 c1 k2 c2 k3 c3 k4 c4:Nat} {n:Nt} (hn:NetRd w (.slice x1 k1 c1) (.slice x2 k2 c2) (.slice x3 k3 c3) (.slice x4 k4 c4) n) {xk:Option Addr} {ck:Nat} {es:List En} {f:List Nat} (h:knownR TY w [.slice xk es.length ck] es f) (hlen:es.length<=1048576):
  Calls Tryz.prog 39 #[.agg #[.slice x1 k1 c1,.slice x2 k2 c2,.slice x3 k3 c3,.slice x4 k4 c4],.slice xk es.length ck] w fun r w'=>∃v,r=.returned v/\M w.heap.size w w' [intsC v (listF n es)]:=by
 have HN:=hd_ hn;have HE:=hd_ h;have h0:=(M.start w).alloc #[.slice x1 k1 c1,.slice x2 k2 c2,.slice x3 k3 c3,.slice x4 k4 c4] 30;obtain⟨p2,hp2⟩:∃p,p=w.heap.size:=⟨_,rfl⟩
 obtain⟨W1,hW1⟩:∃W',W'=w.alloc (.cells #[.slice x1 k1 c1,.slice x2 k2 c2,.slice x3 k3 c3,.slice x4 k4 c4] 30):=⟨_,rfl⟩
 rw[<-hW1]at h0;have H1:=hd_ (show M w.heap.size w W1 [boxC p2 30 #[.slice x1 k1 c1,.slice x2 k2 c2,.slice x3 k3 c3,.slice x4 k4 c4]] by rw[hp2];exact h0);clear h0 hn h;go_enter Tryz.func39,Tryz.ntmps39;go_upto_region 1 with fail
 rw[<-hW1, <-hp2];clear hW1 hp2;obtain⟨a0,a1,a2,a3⟩:=H1.out.cells4;obtain⟨q,hq⟩:∃q,q=okNB n:=⟨_,rfl⟩
 have KN:=hd_ (imNetOk_at W1 (HN.out.below H1.out.below lr_));rw[<-hq]at KN;have HQ:=hd_ hq;clear hq
 go_wp2_with fail
 refine KN.out.mono ?_;rintro r w2 ⟨rfl,hb⟩;have H2:=hd_ (H1.out.later hb);clear hb KN H1 a0 a1 a2 a3;cases q with
 |false=>
  have F:Hid (listF n es=[]):=hd_ (by unfold listF;rw[<-HQ.out];rfl);go_wp2;go_ret;exact⟨_,rfl,by rw[F.out];exact (((M.nil (flatR_frame encI) 3 1 H2.out).soft).p1).drop⟩
 |true=>
  have F:Hid (listF n es=es.flatMap (oneF n)):=hd_ (by unfold listF;rw[<-HQ.out];rfl);obtain⟨hs,hf⟩:=okNB_parts HQ.out.symm;have HS:=hd_ hs;have HF:=hd_ hf;clear hs hf HQ;go_wp2
  go_loopw [5,13] (fun y z wr=>∃(j m cy:Nat) (xy:Option Addr),j<=es.length/\z=.int .i64 (j:Int)/\y=.slice xy m cy/\m=((es.take j).flatMap (oneF n)).length/\M w.heap.size w wr [slcC (flatR_frame encI) 3 1 (.slice xy m cy) ((es.take j).flatMap (oneF n)),boxC p2 30 #[.slice x1 k1 c1,.slice x2 k2 c2,.slice x3 k3 c3,.slice x4 k4 c4]]) (fun _ z _=>es.length - (intOf z).toNat)
  case atStart=>exact⟨0,0,0,none,Nat.zero_le _,rfl,rfl,rfl,M.nil (flatR_frame encI) 3 1 H2.out⟩
  case round=>
   clear H2;obtain⟨j,m,cy,xy,hj,rfl,rfl,hm,hM⟩:=hrel;have H:=hd_ hM;have HM:=hd_ hm;have mm:m<=100 * 1048576:=by
    rw[hm];exact Nat.le_trans (flat_max HF.out (es.take j)) (by rw[List.length_take];omega)
   clear hM hm
   by_cases hlt:j<es.length
   ·obtain⟨x,hx⟩:∃x,es[j]? =some x:=⟨_,List.getElem?_eq_getElem hlt⟩
    obtain⟨g,V,fe,rfl,_,_,_,ca0,ca1,ca2,cas⟩:=known_at HE.out hx;have hWB:=H.out.below;replace ca0:=cell_later hWB ca0;replace ca1:=cell_later hWB ca1;replace ca2:=cell_later hWB ca2;have ca3:=cell_later hWB (cas 0 _ rfl);have ca4:=cell_later hWB (cas 1 _ rfl);have ca5:=cell_later hWB (cas 2 _ rfl);have ca6:=cell_later hWB (cas 3 _ rfl);have ca7:=cell_later hWB (cas 4 _ rfl)
    have ca8:=cell_later hWB (cas 5 _ rfl);have ca9:=cell_later hWB (cas 6 _ rfl);have HX:=hd_ hx;have STP:=hd_ (flat_at (n:=n) hx);clear cas hWB hx;have k0:(0:Int)<=(j:Int):=by omega
    have k1':(j:Int)<(es.length:Int):=by omega
    have h2:=H.out.alloc #[.int .i64 x.node,.int .i64 x.born,.int .i64 x.num,.slice V.xr V.nr V.cr,.slice V.xf V.nf V.cf,.slice V.xt V.nt V.ct,.int .i64 (x.s).lo,.int .i64 (x.s).al,.slice V.xk V.nk V.ck,.int .i64 (x.s).ka] 64;obtain⟨p7,hp7⟩:∃p,p=wr.heap.size:=⟨_,rfl⟩
    obtain⟨W,hW⟩:∃W',W'=wr.alloc (.cells #[.int .i64 x.node,.int .i64 x.born,.int .i64 x.num,.slice V.xr V.nr V.cr,.slice V.xf V.nf V.cf,.slice V.xt V.nt V.ct,.int .i64 (x.s).lo,.int .i64 (x.s).al,.slice V.xk V.nk V.ck,.int .i64 (x.s).ka] 64):=⟨_,rfl⟩
    rw[<-hW, <-hp7]at h2;have H2:=hd_ h2;clear h2 H;go_upto_region 7 with fail
    rw[<-hW, <-hp7];clear hW hp7 ca0 ca1 ca2 ca3 ca4 ca5 ca6 ca7 ca8 ca9;have KW:=hd_ (imWas_at W V x (HN.out.below H2.out.below lr_) HS.out);obtain⟨d0,d1,d2,d3,d4,d5,d6,d7,d8,d9⟩:=H2.out.cells10;obtain⟨a0,a1,a2,a3⟩:=H2.out.p2.cells4;obtain⟨q1,hq1⟩:∃q,q=wasB n x:=⟨_,rfl⟩
    rw[<-hq1]at KW;have Q1:=hd_ hq1;clear hq1
    go_wp2_with fail
    refine KW.out.mono ?_;rintro r w3 ⟨rfl,hb⟩;have H3:=hd_ (H2.out.later hb);clear hb KW H2 d0 d1 d2 d3 d4 d5 d6 d7 d8 d9 a0 a1 a2 a3;cases q1 with
    |false=>
     have ST:Hid ((es.take (j+1)).flatMap (oneF n)=(es.take j).flatMap (oneF n)):=hd_ (by
            rw[STP.out]
            unfold oneF
            rw[if_neg (by rw[<-Q1.out];simp),List.append_nil])
     clear STP;go_wp2;go_roundw
     case rel=>exact⟨j+1,m,cy,xy,by omega,by go_num,rfl,by rw[ST.out];exact HM.out,by rw[ST.out];exact H3.out.drop⟩
     case measure=>simp[intOf];omega
    |true=>
     obtain⟨node,born,num,s⟩:=x;have wq:=Q1.out;unfold wasB at wq;rw[eq_comm,Bool.and_eq_true,Bool.and_eq_true]at wq;obtain⟨wa,wb,wc⟩:=wq;simp only at wa wb wc;obtain⟨iA,iB⟩:=in6_iff.1 wa;obtain⟨jA,jB⟩:=in6_iff.1 wb;obtain⟨qA,qB⟩:=in6_iff.1 wc;clear wa wb wc;obtain⟨i,rfl⟩:∃i:Nat,node=i:=⟨node.toNat,by omega⟩
     obtain⟨bj,rfl⟩:∃j:Nat,born=j:=⟨born.toNat,by omega⟩
     obtain⟨qn,rfl⟩:∃q:Nat,num=q:=⟨num.toNat,by omega⟩
     have i5:i<5:=by omega
     obtain⟨f4,n4⟩:=HN.out.past;obtain rfl:k4=5:=(slcR_row n4).1.trans HS.out.past;obtain⟨rs,hrs⟩:∃rs,n.past[i]? =some rs:=⟨_,List.getElem?_eq_getElem (by rw[HS.out.past];exact i5)⟩
     have eR:rowsAt n (i:Int)=rs:=by unfold rowsAt;rw[List.getD_eq_getElem?_getD,Int.toNat_natCast,hrs];rfl
     have eL:=HS.out.rows i i5;rw[eR]at eL;obtain⟨g4,xr,cr,fr,rfl,_,_,rr,_,_,b1⟩:=past_at n4 hrs;have jr:bj<rs.length:=by omega
     obtain⟨lp,hlp⟩:∃lp,rs[bj]? =some lp:=⟨_,List.getElem?_eq_getElem jr⟩
     have eP:pastAt n (i:Int) (bj:Int)=lp:=by unfold pastAt;rw[eR,List.getD_eq_getElem?_getD,Int.toNat_natCast,hlp];rfl
     obtain⟨g5,xl,cl,fl,rfl,_,_,rl,lc,lm,b2⟩:=row_at rr hlp;rw[eP]at qB;have OF:Hid (oneF n ⟨(i:Int),(bj:Int),(qn:Int),s⟩=lp.take qn):=hd_ (by
            unfold oneF
            rw[if_pos Q1.out.symm]
            show (pastAt n (i:Int) (bj:Int)).take _=_
            rw[eP,Int.toNat_natCast])
     have qm:qn<=100:=by have:=oneF_len HF.out ⟨(i:Int),(bj:Int),(qn:Int),s⟩;rw[OF.out,List.length_take]at this;omega
     rw[OF.out]at STP;have IL:Hid (Ints w (.slice xl qn cl) (lp.take qn)):=hd_ (by
            obtain⟨v,ev,ho,_⟩:=intsR_to rl
            cases ev
            exact ints_cut ho (by omega))
     have LT:Hid ((lp.take qn).length=qn):=hd_ (by rw[List.length_take];omega);have B1:=hd_ b1;have B2:=hd_ b2;have hb2:(qn:Int)<=(cl:Int):=by omega
     have q0:(0:Int)<=(qn:Int):=by omega
     have qnn:(qn:Int).toNat=qn:=Int.toNat_natCast qn;have i0:(0:Int)<=(i:Int):=by omega
     have i5':(i:Int)<5:=by omega
     have bj0:(0:Int)<=(bj:Int):=by omega
     have bj1:(bj:Int)<(rs.length:Int):=by omega
     clear b1 b2 rl rr hlp hrs eP eR eL n4 qB jA jB iA iB qA jr OF Q1 HF
     have CF:Hid (∀(W':World) (c0:Ch) (l':List Ch),M w.heap.size w W' (c0::boxC p7 64 #[.int .i64 (i:Int),.int .i64 (bj:Int),.int .i64 (qn:Int),.slice V.xr V.nr V.cr,.slice V.xf V.nf V.cf,.slice V.xt V.nt V.ct,.int .i64 s.lo,.int .i64 s.al,.slice V.xk V.nk V.ck,.int .i64 s.ka]::boxC p2 30 #[.slice x1 k1 c1,.slice x2 k2 c2,.slice x3 k3 c3,.slice (some ⟨g4,0,none⟩) 5 c4]::l')->Cells W' [(⟨p2,3,none⟩,.slice (some ⟨g4,0,none⟩) 5 c4),(⟨p7,0,none⟩,.int .i64 (i:Int)),(⟨p7,1,none⟩,.int .i64 (bj:Int)),(⟨p7,2,none⟩,.int .i64 (qn:Int)),(⟨g4,i,none⟩,.slice (some ⟨g5,0,none⟩) rs.length cr),(⟨g5,bj,none⟩,.slice xl lp.length cl)]):=hd_ fun W' c0 l' h=>by
      obtain⟨d0,d1,d2,_⟩:=h.p1.cells10;obtain⟨_,_,_,a3⟩:=h.p2.cells4;exact⟨a3,d0,d1,d2,cell_later h.below B1.out,cell_later h.below B2.out,trivial⟩
     have H4:=hd_ H3.out.drew.p1;obtain⟨W4,hW4⟩:∃W',W'=w3.drew:=⟨_,rfl⟩
     rw[<-hW4]at H4;have EW:=hd_ hW4;clear hW4 H3;have C0:=hd_ (CF.out _ _ _ H4.out);have RI:=hd_ (RdL.ints (IL.out.below H4.out.below lr_));go_upto_region 8 with fail
     refine wp_region_plan 15 (.tk 0 14 (.alt 14 (.alt 15 .done .nomore) .nomore)) (fun w'=>Cells w' [(⟨p2,3,none⟩,.slice (some ⟨g4,0,none⟩) 5 c4),(⟨p7,0,none⟩,.int .i64 (i:Int)),(⟨p7,1,none⟩,.int .i64 (bj:Int)),(⟨p7,2,none⟩,.int .i64 (qn:Int)),(⟨g4,i,none⟩,.slice (some ⟨g5,0,none⟩) rs.length cr),(⟨g5,bj,none⟩,.slice xl lp.length cl)]) (by kernel_rfl) (by kernel_rfl) (fun _ _ _ _ _ h=>h) (by rw[<-EW.out];exact C0.out) ?_
     rw[<-EW.out]
     repeat ((first|(refine plan_take (by rfl) (by rfl) ?_;apply Exists.intro;refine⟨fun w' hw'=>?_,?_⟩;(· ((try simp only[Cells,Cells_app,b4L,b5L,b6L,b7L,b10L,N.entL,and_true]at hw');go_simp;(try with_reducible rfl))))|(refine plan_skip (by rfl) (by rfl) ?_));simp only[Act.put,List.getElem_toArray,List.getElem_cons_succ,pg3,pg4,pg5,pg6])
     refine plan_last (by rfl) (fun K hK=>step_add intS (fun _=>rfl) (fun a u hu=>by rw[List.mem_singleton.1 hu];rfl) H4.out RI.out (by rfl) (by rfl) (by rfl) (by rfl) (by rw[<-HM.out,LT.out];unfold maxLen;omega) (by rw[<-HM.out,LT.out];omega) (N:=m+qn) (by rw[<-HM.out,LT.out]) (fun y cap w4 h5=>?_));have H5:=hd_ h5;have C5:=hd_ (CF.out _ _ _ h5);clear h5 H4 C0 RI;refine hK _ _ (.inr C5.out) ?_
     clear hK K
     try simp only[Act.put,List.getElem_toArray,List.getElem_cons_succ,pg3,pg4,pg5,pg6]
     refine plan_last (by rfl) (fun K hK=>?_);go_simp;refine hK _ _ (.inl rfl) ?_;clear hK K
     try simp only[Act.put,List.getElem_toArray,List.getElem_cons_succ,pg3,pg4,pg5,pg6]
     refine plan_done ?_;clear C5 CF;go_wp2;go_roundw
     case rel=>exact⟨j+1,m+qn,cap,y,by omega,by go_num,rfl,by rw[STP.out,List.length_append, <-HM.out,LT.out],by rw[STP.out];exact H5.out.p1.drop⟩
     case measure=>simp[intOf];omega
   ·obtain rfl:j=es.length:=by omega
    have E1:Hid (es.take es.length=es):=hd_ List.take_length;rw[E1.out]at H HM;go_wp2;go_ret;exact⟨_,rfl,by rw[F.out];exact H.out.p1.drop.soft⟩
end N
end Go.Proofs.YtcblbdpdbggkbaaGreat
set_option linter.unusedVariables false
set_option linter.unusedSectionVars false
set_option linter.unusedSimpArgs false
namespace Go.Proofs.YtcblbdpdbggkbaaGreat
open Go.RowKit Go.Sort
namespace N
theorem spNetList_at (w:World) {x1 x2 x3 x4:Option Addr} {k1 c1 k2 c2 k3 c3 k4 c4:Nat} {n:Nt} (hn:NetRd w (.slice x1 k1 c1) (.slice x2 k2 c2) (.slice x3 k3 c3) (.slice x4 k4 c4) n) {xk:Option Addr} {ck:Nat} {es:List En} {f:List Nat} (h:knownR TY w [.slice xk es.length ck] es f) (hlen:es.length<=1048576):
  Calls Tryz.prog 47 #[.agg #[.slice x1 k1 c1,.slice x2 k2 c2,.slice x3 k3 c3,.slice x4 k4 c4],.slice xk es.length ck] w fun r w'=>∃v,r=.returned v/\M w.heap.size w w' [intsC v (listF n es)]:=by
 have HN:=hd_ hn;have HE:=hd_ h;have h0:=(M.start w).alloc #[.slice x1 k1 c1,.slice x2 k2 c2,.slice x3 k3 c3,.slice x4 k4 c4] 30;obtain⟨p2,hp2⟩:∃p,p=w.heap.size:=⟨_,rfl⟩
 obtain⟨W1,hW1⟩:∃W',W'=w.alloc (.cells #[.slice x1 k1 c1,.slice x2 k2 c2,.slice x3 k3 c3,.slice x4 k4 c4] 30):=⟨_,rfl⟩
 rw[<-hW1]at h0;have H1:=hd_ (show M w.heap.size w W1 [boxC p2 30 #[.slice x1 k1 c1,.slice x2 k2 c2,.slice x3 k3 c3,.slice x4 k4 c4]] by rw[hp2];exact h0);have he:=((M.start w).alloc #[.slice x1 k1 c1,.slice x2 k2 c2,.slice x3 k3 c3,.slice x4 k4 c4] 30).alloc #[] 3;simp only[World.size_alloc]at he;obtain⟨p3,hp3⟩:∃p,p=w.heap.size+1:=⟨_,rfl⟩
 obtain⟨We,hWe⟩:∃W',W'=(w.alloc (.cells #[.slice x1 k1 c1,.slice x2 k2 c2,.slice x3 k3 c3,.slice x4 k4 c4] 30)).alloc (.cells #[] 3):=⟨_,rfl⟩
 rw[<-hWe, <-hp3]at he;have HE0:=hd_ (show M w.heap.size w We [slcC (flatR_frame encI) 3 1 (.slice (some ⟨p3,0,none⟩) 0 0) [],boxC p2 30 #[.slice x1 k1 c1,.slice x2 k2 c2,.slice x3 k3 c3,.slice x4 k4 c4]] by rw[hp2];exact he.empty (flatR_frame encI) 1);clear h0 hn h he H1;have H1:=HE0;clear HE0;go_enter Tryz.func47,Tryz.ntmps47;go_upto_region 2 with fail
 rw[<-hWe, <-hp3, <-hp2];clear hW1 hp2 hp3 hWe W1;obtain⟨a0,a1,a2,a3⟩:=H1.out.p1.cells4;obtain⟨q,hq⟩:∃q,q=okNB n:=⟨_,rfl⟩
 have KN:=hd_ (spNetOk_at We (HN.out.below H1.out.below lr_));rw[<-hq]at KN;have HQ:=hd_ hq;clear hq
 go_wp2_with fail
 refine KN.out.mono ?_;rintro r w2 ⟨rfl,hb⟩;have H2:=hd_ (H1.out.later hb);clear hb KN H1 a0 a1 a2 a3;cases q with
 |false=>
  have F:Hid (listF n es=[]):=hd_ (by unfold listF;rw[<-HQ.out];rfl);go_wp2;go_ret;exact⟨_,rfl,by rw[F.out];exact (H2.out.p1.drop).soft⟩
 |true=>
  have F:Hid (listF n es=es.flatMap (oneF n)):=hd_ (by unfold listF;rw[<-HQ.out];rfl);obtain⟨hs,hf⟩:=okNB_parts HQ.out.symm;have HS:=hd_ hs;have HF:=hd_ hf;clear hs hf HQ;go_wp2
  go_loopw [5,6] (fun y z wr=>∃(j m cy:Nat) (xy:Option Addr),j<=es.length/\z=.int .i64 (j:Int)/\y=.slice xy m cy/\m=((es.take j).flatMap (oneF n)).length/\M w.heap.size w wr [slcC (flatR_frame encI) 3 1 (.slice xy m cy) ((es.take j).flatMap (oneF n)),boxC p2 30 #[.slice x1 k1 c1,.slice x2 k2 c2,.slice x3 k3 c3,.slice x4 k4 c4]]) (fun _ z _=>es.length - (intOf z).toNat)
  case atStart=>exact⟨0,0,0,_,Nat.zero_le _,rfl,rfl,rfl,H2.out⟩
  case round=>
   clear H2;obtain⟨j,m,cy,xy,hj,rfl,rfl,hm,hM⟩:=hrel;have H:=hd_ hM;have HM:=hd_ hm;have mm:m<=100 * 1048576:=by
    rw[hm];exact Nat.le_trans (flat_max HF.out (es.take j)) (by rw[List.length_take];omega)
   clear hM hm
   by_cases hlt:j<es.length
   ·obtain⟨x,hx⟩:∃x,es[j]? =some x:=⟨_,List.getElem?_eq_getElem hlt⟩
    obtain⟨g,V,fe,rfl,_,_,_,ca0,ca1,ca2,cas⟩:=known_at HE.out hx;have hWB:=H.out.below;replace ca0:=cell_later hWB ca0;replace ca1:=cell_later hWB ca1;replace ca2:=cell_later hWB ca2;have ca3:=cell_later hWB (cas 0 _ rfl);have ca4:=cell_later hWB (cas 1 _ rfl);have ca5:=cell_later hWB (cas 2 _ rfl);have ca6:=cell_later hWB (cas 3 _ rfl);have ca7:=cell_later hWB (cas 4 _ rfl)
    have ca8:=cell_later hWB (cas 5 _ rfl);have ca9:=cell_later hWB (cas 6 _ rfl);have HX:=hd_ hx;have STP:=hd_ (flat_at (n:=n) hx);clear cas hWB hx;have k0:(0:Int)<=(j:Int):=by omega
    have k1':(j:Int)<(es.length:Int):=by omega
    have h2:=H.out.alloc #[.int .i64 x.node,.int .i64 x.born,.int .i64 x.num,.slice V.xr V.nr V.cr,.slice V.xf V.nf V.cf,.slice V.xt V.nt V.ct,.int .i64 (x.s).lo,.int .i64 (x.s).al,.slice V.xk V.nk V.ck,.int .i64 (x.s).ka] 64;obtain⟨p7,hp7⟩:∃p,p=wr.heap.size:=⟨_,rfl⟩
    obtain⟨W,hW⟩:∃W',W'=wr.alloc (.cells #[.int .i64 x.node,.int .i64 x.born,.int .i64 x.num,.slice V.xr V.nr V.cr,.slice V.xf V.nf V.cf,.slice V.xt V.nt V.ct,.int .i64 (x.s).lo,.int .i64 (x.s).al,.slice V.xk V.nk V.ck,.int .i64 (x.s).ka] 64):=⟨_,rfl⟩
    rw[<-hW, <-hp7]at h2;have H2:=hd_ h2;clear h2 H;go_upto_region 8 with fail
    rw[<-hW, <-hp7];clear hW hp7 ca0 ca1 ca2 ca3 ca4 ca5 ca6 ca7 ca8 ca9;obtain⟨node,born,num,s⟩:=x;simp only at H2;obtain⟨w3,hw3⟩:∃W',W'=W.drew:=⟨_,rfl⟩
    have H3:=hd_ (show M w.heap.size w w3 _ by rw[hw3];exact H2.out.drew);have EW:=hd_ hw3;clear hw3 H2;obtain⟨d0,d1,d2,d3,d4,d5,d6,d7,d8,d9⟩:=H3.out.cells10;obtain⟨a0,a1,a2,a3⟩:=H3.out.p2.cells4
    by_cases hA:in6 node 0 4=true
    case neg=>
     have gA:in6 node 0 4=false:=by simpa using hA
     clear hA;go_upto_region 8 with fail
     refine wp_region_plan 99 (.tk 0 2 (.alt 2 (.tk 3 10 (.alt 13 (.tk 14 15 (.alt 29 (.take 30 .done) .nomore)) .nomore)) .nomore)) (fun w'=>w'=w3) (by kernel_rfl) (by kernel_rfl) (fun _ _ _ _ _ h=>h) EW.out.symm ?_;rw[<-EW.out]
     repeat ((first|(refine plan_take (by rfl) (by rfl) ?_;apply Exists.intro;refine⟨fun w' hw'=>?_,?_⟩;(· ((try dsimp only at hw');go_simp;(try with_reducible rfl))))|(refine plan_skip (by rfl) (by rfl) ?_));simp only[Act.put,List.getElem_toArray,List.getElem_cons_succ,pg3,pg4,pg5,pg6])
     refine plan_last (by rfl) (fun K' hK=>?_);go_simp;refine (in6_at node 0 4 w3).mono ?_;rintro e w' ⟨rfl,hw'⟩;rw[hw'];clear hw' w';refine hK _ _ (.inr rfl) ?_;clear hK K'
     try simp only[Act.put,List.getElem_toArray,List.getElem_cons_succ,pg3,pg4,pg5,pg6]
     repeat ((first|(refine plan_take (by rfl) (by rfl) ?_;apply Exists.intro;refine⟨fun w' hw'=>?_,?_⟩;(· ((try dsimp only at hw');go_simp;(try with_reducible rfl))))|(refine plan_skip (by rfl) (by rfl) ?_));simp only[Act.put,List.getElem_toArray,List.getElem_cons_succ,pg3,pg4,pg5,pg6])
     refine plan_last (by rfl) (fun K' hK=>?_);go_simp;refine hK _ _ (.inr rfl) ?_;clear hK K'
     try simp only[Act.put,List.getElem_toArray,List.getElem_cons_succ,pg3,pg4,pg5,pg6]
     repeat ((first|(refine plan_take (by rfl) (by rfl) ?_;apply Exists.intro;refine⟨fun w' hw'=>?_,?_⟩;(· ((try dsimp only at hw');go_simp;(try with_reducible rfl))))|(refine plan_skip (by rfl) (by rfl) ?_));simp only[Act.put,List.getElem_toArray,List.getElem_cons_succ,pg3,pg4,pg5,pg6])
     refine plan_last (by rfl) (fun K' hK=>?_);go_simp;refine hK _ _ (.inr rfl) ?_;clear hK K'
     try simp only[Act.put,List.getElem_toArray,List.getElem_cons_succ,pg3,pg4,pg5,pg6]
     repeat ((first|(refine plan_take (by rfl) (by rfl) ?_;apply Exists.intro;refine⟨fun w' hw'=>?_,?_⟩;(· ((try dsimp only at hw');go_simp;(try with_reducible rfl))))|(refine plan_skip (by rfl) (by rfl) ?_));simp only[Act.put,List.getElem_toArray,List.getElem_cons_succ,pg3,pg4,pg5,pg6])
     refine plan_done ?_;have ST:Hid ((es.take (j+1)).flatMap (oneF n)=(es.take j).flatMap (oneF n)):=hd_ (by
            rw[STP.out]
            unfold oneF
            rw[if_neg (by unfold wasB;simp only;rw[gA];simp),List.append_nil])
     clear STP;go_wp2;go_roundw
     case rel=>exact⟨j+1,m,cy,xy,by omega,by go_num,rfl,by rw[ST.out];exact HM.out,by rw[ST.out];exact H3.out.drop⟩
     case measure=>simp[intOf];omega
    have gA:=hd_ hA;obtain⟨iA,iB⟩:=in6_iff.1 hA;clear hA;obtain⟨i,rfl⟩:∃i:Nat,node=i:=⟨node.toNat,by omega⟩
    have i5:i<5:=by omega
    clear iA iB;obtain⟨f1,n1⟩:=HN.out.nodes;obtain⟨f4,n4⟩:=HN.out.past;obtain rfl:k1=5:=(slcR_row n1).1.trans HS.out.nodes;obtain rfl:k4=5:=(slcR_row n4).1.trans HS.out.past;obtain⟨nd,hnd⟩:∃nd,n.nodes[i]? =some nd:=⟨_,List.getElem?_eq_getElem (by rw[HS.out.nodes];exact i5)⟩
    obtain⟨rs,hrs⟩:∃rs,n.past[i]? =some rs:=⟨_,List.getElem?_eq_getElem (by rw[HS.out.past];exact i5)⟩
    have eN:nodeAt n (i:Int)=nd:=by unfold nodeAt;rw[List.getD_eq_getElem?_getD,Int.toNat_natCast,hnd];rfl
    have eR:rowsAt n (i:Int)=rs:=by unfold rowsAt;rw[List.getD_eq_getElem?_getD,Int.toNat_natCast,hrs];rfl
    have eL:=HS.out.rows i i5;rw[eN,eR]at eL;obtain⟨g1,xk1,ck1,fk1,rfl,_,_,_,_,_,b0,_⟩:=node_at n1 hnd;obtain⟨g4,xr,cr,fr,rfl,_,_,rr,_,_,b1⟩:=past_at n4 hrs;have B1:=hd_ b1;have EN:=hd_ eN;have ER:=hd_ eR;have HL:=hd_ eL;replace b0:=cell_later H3.out.below b0;replace b1:=cell_later H3.out.below b1;clear hnd hrs eN eR eL n1 n4;have i0:(0:Int)<=(i:Int):=by omega
    have i5':(i:Int)<5:=by omega
    by_cases hB:in6 born 1 nd.born=true
    case neg=>
     have gB:in6 born 1 nd.born=false:=by simpa using hB
     have gA:=gA.out;clear hB;go_upto_region 8 with fail
     refine wp_region_plan 99 (.tk 0 2 (.alt 2 (.tk 3 10 (.alt 13 (.tk 14 15 (.alt 29 (.take 30 .done) .nomore)) .nomore)) .nomore)) (fun w'=>w'=w3) (by kernel_rfl) (by kernel_rfl) (fun _ _ _ _ _ h=>h) EW.out.symm ?_;rw[<-EW.out]
     repeat ((first|(refine plan_take (by rfl) (by rfl) ?_;apply Exists.intro;refine⟨fun w' hw'=>?_,?_⟩;(· ((try dsimp only at hw');go_simp;(try with_reducible rfl))))|(refine plan_skip (by rfl) (by rfl) ?_));simp only[Act.put,List.getElem_toArray,List.getElem_cons_succ,pg3,pg4,pg5,pg6])
     refine plan_last (by rfl) (fun K' hK=>?_);go_simp;refine (in6_at (i:Int) 0 4 w3).mono ?_;rintro e w' ⟨rfl,hw'⟩;rw[hw'];clear hw' w';refine hK _ _ (.inr rfl) ?_;clear hK K'
     try simp only[Act.put,List.getElem_toArray,List.getElem_cons_succ,pg3,pg4,pg5,pg6]
     repeat ((first|(refine plan_take (by rfl) (by rfl) ?_;apply Exists.intro;refine⟨fun w' hw'=>?_,?_⟩;(· ((try dsimp only at hw');go_simp;(try with_reducible rfl))))|(refine plan_skip (by rfl) (by rfl) ?_));simp only[Act.put,List.getElem_toArray,List.getElem_cons_succ,pg3,pg4,pg5,pg6])
     refine plan_last (by rfl) (fun K' hK=>?_);go_simp;refine (in6_at born 1 nd.born w3).mono ?_;rintro e w' ⟨rfl,hw'⟩;rw[hw'];clear hw' w';refine hK _ _ (.inr rfl) ?_;clear hK K'
     try simp only[Act.put,List.getElem_toArray,List.getElem_cons_succ,pg3,pg4,pg5,pg6]
     repeat ((first|(refine plan_take (by rfl) (by rfl) ?_;apply Exists.intro;refine⟨fun w' hw'=>?_,?_⟩;(· ((try dsimp only at hw');go_simp;(try with_reducible rfl))))|(refine plan_skip (by rfl) (by rfl) ?_));simp only[Act.put,List.getElem_toArray,List.getElem_cons_succ,pg3,pg4,pg5,pg6])
     refine plan_last (by rfl) (fun K' hK=>?_);go_simp;refine hK _ _ (.inr rfl) ?_;clear hK K'
     try simp only[Act.put,List.getElem_toArray,List.getElem_cons_succ,pg3,pg4,pg5,pg6]
     repeat ((first|(refine plan_take (by rfl) (by rfl) ?_;apply Exists.intro;refine⟨fun w' hw'=>?_,?_⟩;(· ((try dsimp only at hw');go_simp;(try with_reducible rfl))))|(refine plan_skip (by rfl) (by rfl) ?_));simp only[Act.put,List.getElem_toArray,List.getElem_cons_succ,pg3,pg4,pg5,pg6])
     refine plan_done ?_;have ST:Hid ((es.take (j+1)).flatMap (oneF n)=(es.take j).flatMap (oneF n)):=hd_ (by
            rw[STP.out]
            unfold oneF
            rw[if_neg (by unfold wasB;simp only;rw[gA,EN.out,gB];simp),List.append_nil])
     clear STP;go_wp2;go_roundw
     case rel=>exact⟨j+1,m,cy,xy,by omega,by go_num,rfl,by rw[ST.out];exact HM.out,by rw[ST.out];exact H3.out.drop⟩
     case measure=>simp[intOf];omega
    have gB:=hd_ hB;obtain⟨jA,jB⟩:=in6_iff.1 hB;clear hB;obtain⟨bj,rfl⟩:∃j:Nat,born=j:=⟨born.toNat,by omega⟩
    have jr:bj<rs.length:=by have:=HL.out;omega
    have bj0:(0:Int)<=(bj:Int):=by omega
    have bj1:(bj:Int)<(rs.length:Int):=by omega
    clear jA jB;obtain⟨lp,hlp⟩:∃lp,rs[bj]? =some lp:=⟨_,List.getElem?_eq_getElem jr⟩
    have eP:pastAt n (i:Int) (bj:Int)=lp:=by unfold pastAt;rw[ER.out,List.getD_eq_getElem?_getD,Int.toNat_natCast,hlp];rfl
    obtain⟨g5,xl,cl,fl,rfl,_,_,rl,lc,lm,b2⟩:=row_at rr hlp;have RL:=hd_ rl;have EP:=hd_ eP;have B2:=hd_ b2;replace b2:=cell_later H3.out.below b2;clear hlp rr rl jr eP
    by_cases hC:in6 num 0 (lp.length:Int)=true
    case neg=>
     have gC:in6 num 0 (lp.length:Int)=false:=by simpa using hC
     have gA:=gA.out;have gB:=gB.out;clear hC;go_upto_region 8 with fail
     refine wp_region_plan 99 (.tk 0 2 (.alt 2 (.tk 3 10 (.alt 13 (.tk 14 15 (.alt 29 (.take 30 .done) .nomore)) .nomore)) .nomore)) (fun w'=>w'=w3) (by kernel_rfl) (by kernel_rfl) (fun _ _ _ _ _ h=>h) EW.out.symm ?_;rw[<-EW.out]
     repeat ((first|(refine plan_take (by rfl) (by rfl) ?_;apply Exists.intro;refine⟨fun w' hw'=>?_,?_⟩;(· ((try dsimp only at hw');go_simp;(try with_reducible rfl))))|(refine plan_skip (by rfl) (by rfl) ?_));simp only[Act.put,List.getElem_toArray,List.getElem_cons_succ,pg3,pg4,pg5,pg6])
     refine plan_last (by rfl) (fun K' hK=>?_);go_simp;refine (in6_at (i:Int) 0 4 w3).mono ?_;rintro e w' ⟨rfl,hw'⟩;rw[hw'];clear hw' w';refine hK _ _ (.inr rfl) ?_;clear hK K'
     try simp only[Act.put,List.getElem_toArray,List.getElem_cons_succ,pg3,pg4,pg5,pg6]
     repeat ((first|(refine plan_take (by rfl) (by rfl) ?_;apply Exists.intro;refine⟨fun w' hw'=>?_,?_⟩;(· ((try dsimp only at hw');go_simp;(try with_reducible rfl))))|(refine plan_skip (by rfl) (by rfl) ?_));simp only[Act.put,List.getElem_toArray,List.getElem_cons_succ,pg3,pg4,pg5,pg6])
     refine plan_last (by rfl) (fun K' hK=>?_);go_simp;refine (in6_at (bj:Int) 1 nd.born w3).mono ?_;rintro e w' ⟨rfl,hw'⟩;rw[hw'];clear hw' w';refine hK _ _ (.inr rfl) ?_;clear hK K'
     try simp only[Act.put,List.getElem_toArray,List.getElem_cons_succ,pg3,pg4,pg5,pg6]
     repeat ((first|(refine plan_take (by rfl) (by rfl) ?_;apply Exists.intro;refine⟨fun w' hw'=>?_,?_⟩;(· ((try dsimp only at hw');go_simp;(try with_reducible rfl))))|(refine plan_skip (by rfl) (by rfl) ?_));simp only[Act.put,List.getElem_toArray,List.getElem_cons_succ,pg3,pg4,pg5,pg6])
     refine plan_last (by rfl) (fun K' hK=>?_);go_simp;refine (in6_at num 0 (lp.length:Int) w3).mono ?_;rintro e w' ⟨rfl,hw'⟩;rw[hw'];clear hw' w';refine hK _ _ (.inr rfl) ?_;clear hK K'
     try simp only[Act.put,List.getElem_toArray,List.getElem_cons_succ,pg3,pg4,pg5,pg6]
     repeat ((first|(refine plan_take (by rfl) (by rfl) ?_;apply Exists.intro;refine⟨fun w' hw'=>?_,?_⟩;(· ((try dsimp only at hw');go_simp;(try with_reducible rfl))))|(refine plan_skip (by rfl) (by rfl) ?_));simp only[Act.put,List.getElem_toArray,List.getElem_cons_succ,pg3,pg4,pg5,pg6])
     refine plan_done ?_;have ST:Hid ((es.take (j+1)).flatMap (oneF n)=(es.take j).flatMap (oneF n)):=hd_ (by
            rw[STP.out]
            unfold oneF
            rw[if_neg (by unfold wasB;simp only;rw[gA,EN.out,gB,EP.out,gC];simp),List.append_nil])
     clear STP;go_wp2;go_roundw
     case rel=>exact⟨j+1,m,cy,xy,by omega,by go_num,rfl,by rw[ST.out];exact HM.out,by rw[ST.out];exact H3.out.drop⟩
     case measure=>simp[intOf];omega
    obtain⟨qA,qB⟩:=in6_iff.1 hC;obtain⟨qn,rfl⟩:∃q:Nat,num=q:=⟨num.toNat,by omega⟩
    have OF:Hid (oneF n ⟨(i:Int),(bj:Int),(qn:Int),s⟩=lp.take qn):=hd_ (by
          unfold oneF
          rw[if_pos (by unfold wasB;simp only;rw[gA.out,EN.out,gB.out,EP.out,hC];rfl)]
          show (pastAt n (i:Int) (bj:Int)).take _=_
          rw[EP.out,Int.toNat_natCast])
    have hA:=gA.out;have hB:=gB.out;go_upto_region 8 with fail
    refine wp_region_plan 99 (.tk 0 2 (.alt 2 (.tk 3 10 (.alt 13 (.tk 14 15 (.alt 29 (.take 30 .done) .nomore)) .nomore)) .nomore)) (fun w'=>w'=w3) (by kernel_rfl) (by kernel_rfl) (fun _ _ _ _ _ h=>h) EW.out.symm ?_;rw[<-EW.out]
    repeat ((first|(refine plan_take (by rfl) (by rfl) ?_;apply Exists.intro;refine⟨fun w' hw'=>?_,?_⟩;(· ((try dsimp only at hw');go_simp;(try with_reducible rfl))))|(refine plan_skip (by rfl) (by rfl) ?_));simp only[Act.put,List.getElem_toArray,List.getElem_cons_succ,pg3,pg4,pg5,pg6])
    refine plan_last (by rfl) (fun K' hK=>?_);go_simp;refine (in6_at (i:Int) 0 4 w3).mono ?_;rintro e w' ⟨rfl,hw'⟩;rw[hw'];clear hw' w';refine hK _ _ (.inr rfl) ?_;clear hK K'
    try simp only[Act.put,List.getElem_toArray,List.getElem_cons_succ,pg3,pg4,pg5,pg6]
    repeat ((first|(refine plan_take (by rfl) (by rfl) ?_;apply Exists.intro;refine⟨fun w' hw'=>?_,?_⟩;(· ((try dsimp only at hw');go_simp;(try with_reducible rfl))))|(refine plan_skip (by rfl) (by rfl) ?_));simp only[Act.put,List.getElem_toArray,List.getElem_cons_succ,pg3,pg4,pg5,pg6])
    refine plan_last (by rfl) (fun K' hK=>?_);go_simp;refine (in6_at (bj:Int) 1 nd.born w3).mono ?_;rintro e w' ⟨rfl,hw'⟩;rw[hw'];clear hw' w';refine hK _ _ (.inr rfl) ?_;clear hK K'
    try simp only[Act.put,List.getElem_toArray,List.getElem_cons_succ,pg3,pg4,pg5,pg6]
    repeat ((first|(refine plan_take (by rfl) (by rfl) ?_;apply Exists.intro;refine⟨fun w' hw'=>?_,?_⟩;(· ((try dsimp only at hw');go_simp;(try with_reducible rfl))))|(refine plan_skip (by rfl) (by rfl) ?_));simp only[Act.put,List.getElem_toArray,List.getElem_cons_succ,pg3,pg4,pg5,pg6])
    refine plan_last (by rfl) (fun K' hK=>?_);go_simp;refine (in6_at (qn:Int) 0 (lp.length:Int) w3).mono ?_;rintro e w' ⟨rfl,hw'⟩;rw[hw'];clear hw' w';refine hK _ _ (.inr rfl) ?_;clear hK K'
    try simp only[Act.put,List.getElem_toArray,List.getElem_cons_succ,pg3,pg4,pg5,pg6]
    repeat ((first|(refine plan_take (by rfl) (by rfl) ?_;apply Exists.intro;refine⟨fun w' hw'=>?_,?_⟩;(· ((try dsimp only at hw');go_simp;(try with_reducible rfl))))|(refine plan_skip (by rfl) (by rfl) ?_));simp only[Act.put,List.getElem_toArray,List.getElem_cons_succ,pg3,pg4,pg5,pg6])
    refine plan_done ?_;clear hA hB hC b0 b1 b2 d0 d1 d2 d3 d4 d5 d6 d7 d8 d9 a0 a1 a2 a3 gA gB;have qm:qn<=100:=by have:=oneF_len HF.out ⟨(i:Int),(bj:Int),(qn:Int),s⟩;rw[OF.out,List.length_take]at this;omega
    rw[OF.out]at STP;have IL:Hid (Ints w (.slice xl qn cl) (lp.take qn)):=hd_ (by
          obtain⟨v,ev,ho,_⟩:=intsR_to RL.out
          cases ev
          exact ints_cut ho (by omega))
    have LT:Hid ((lp.take qn).length=qn):=hd_ (by rw[List.length_take];omega);have hb2:(qn:Int)<=(cl:Int):=by omega
    have q0:(0:Int)<=(qn:Int):=by omega
    have qnn:(qn:Int).toNat=qn:=Int.toNat_natCast qn;clear qB qA OF HF
    have CF:Hid (∀(W':World) (c0:Ch) (l':List Ch),M w.heap.size w W' (c0::boxC p7 64 #[.int .i64 (i:Int),.int .i64 (bj:Int),.int .i64 (qn:Int),.slice V.xr V.nr V.cr,.slice V.xf V.nf V.cf,.slice V.xt V.nt V.ct,.int .i64 s.lo,.int .i64 s.al,.slice V.xk V.nk V.ck,.int .i64 s.ka]::boxC p2 30 #[.slice (some ⟨g1,0,none⟩) 5 c1,.slice x2 k2 c2,.slice x3 k3 c3,.slice (some ⟨g4,0,none⟩) 5 c4]::l')->Cells W' [(⟨p2,3,none⟩,.slice (some ⟨g4,0,none⟩) 5 c4),(⟨p7,0,none⟩,.int .i64 (i:Int)),(⟨p7,1,none⟩,.int .i64 (bj:Int)),(⟨p7,2,none⟩,.int .i64 (qn:Int)),(⟨g4,i,none⟩,.slice (some ⟨g5,0,none⟩) rs.length cr),(⟨g5,bj,none⟩,.slice xl lp.length cl)]):=hd_ fun W' c0 l' h=>by
     obtain⟨d0,d1,d2,_⟩:=h.p1.cells10;obtain⟨_,_,_,a3⟩:=h.p2.cells4;exact⟨a3,d0,d1,d2,cell_later h.below B1.out,cell_later h.below B2.out,trivial⟩
    have H4:=hd_ H3.out.drew.p1;obtain⟨W4,hW4⟩:∃W',W'=w3.drew:=⟨_,rfl⟩
    rw[<-hW4]at H4;have EW:=hd_ hW4;clear hW4;have C0:=hd_ (CF.out _ _ _ H4.out);have RI:=hd_ (RdL.ints (IL.out.below H4.out.below lr_));go_upto_region 9 with fail
    refine wp_region_plan 15 (.tk 0 14 (.alt 14 (.alt 15 .done .nomore) .nomore)) (fun w'=>Cells w' [(⟨p2,3,none⟩,.slice (some ⟨g4,0,none⟩) 5 c4),(⟨p7,0,none⟩,.int .i64 (i:Int)),(⟨p7,1,none⟩,.int .i64 (bj:Int)),(⟨p7,2,none⟩,.int .i64 (qn:Int)),(⟨g4,i,none⟩,.slice (some ⟨g5,0,none⟩) rs.length cr),(⟨g5,bj,none⟩,.slice xl lp.length cl)]) (by kernel_rfl) (by kernel_rfl) (fun _ _ _ _ _ h=>h) (by rw[<-EW.out];exact C0.out) ?_
    rw[<-EW.out]
    repeat ((first|(refine plan_take (by rfl) (by rfl) ?_;apply Exists.intro;refine⟨fun w' hw'=>?_,?_⟩;(· ((try simp only[Cells,Cells_app,b4L,b5L,b6L,b7L,b10L,N.entL,and_true]at hw');go_simp;(try with_reducible rfl))))|(refine plan_skip (by rfl) (by rfl) ?_));simp only[Act.put,List.getElem_toArray,List.getElem_cons_succ,pg3,pg4,pg5,pg6])
    refine plan_last (by rfl) (fun K hK=>step_add intS (fun _=>rfl) (fun a u hu=>by rw[List.mem_singleton.1 hu];rfl) H4.out RI.out (by rfl) (by rfl) (by rfl) (by rfl) (by rw[<-HM.out,LT.out];unfold maxLen;omega) (by rw[<-HM.out,LT.out];omega) (N:=m+qn) (by rw[<-HM.out,LT.out]) (fun y cap w4 h5=>?_));have H5:=hd_ h5;have C5:=hd_ (CF.out _ _ _ h5);clear h5 H4 C0 RI;refine hK _ _ (.inr C5.out) ?_
    clear hK K
    try simp only[Act.put,List.getElem_toArray,List.getElem_cons_succ,pg3,pg4,pg5,pg6]
    refine plan_last (by rfl) (fun K hK=>?_);go_simp;refine hK _ _ (.inl rfl) ?_;clear hK K
    try simp only[Act.put,List.getElem_toArray,List.getElem_cons_succ,pg3,pg4,pg5,pg6]
    refine plan_done ?_;clear C5 CF;go_wp2;go_roundw
    case rel=>exact⟨j+1,m+qn,cap,y,by omega,by go_num,rfl,by rw[STP.out,List.length_append, <-HM.out,LT.out],by rw[STP.out];exact H5.out.p1.drop⟩
    case measure=>simp[intOf];omega
   ·obtain rfl:j=es.length:=by omega
    have E1:Hid (es.take es.length=es):=hd_ List.take_length;rw[E1.out]at H HM;go_wp2;go_ret;exact⟨_,rfl,by rw[F.out];exact H.out.p1.drop.soft⟩
end N
end Go.Proofs.YtcblbdpdbggkbaaGreat
set_option linter.unusedVariables false
set_option linter.unusedSectionVars false
set_option linter.unusedSimpArgs false
namespace Go.Proofs.YtcblbdpdbggkbaaGreat.N
open Go.RowKit Go.Sort
theorem _root_.Go.Proofs.YtcblbdpdbggkbaaGreat.M.knownRd {B:Nat} {w0 w:World} {l:List Ch} {v:Value} {es:List En} (h:M B w0 w (knownC v es::l)):∃f,knownR TY w [v] es f:=let ⟨f,hf,_⟩:=h.first;⟨f,hf⟩
theorem listF_len (n:Nt) (es:List En):(listF n es).length<=100 * es.length:=by
 unfold listF
 split
 ·rename_i h
  exact flat_max (okNB_parts h).2 es
 ·exact Nat.zero_le _
end Go.Proofs.YtcblbdpdbggkbaaGreat.N
namespace Go.Proofs.YtcblbdpdbggkbaaGreat
open Go
def headN:List Nat:=[104,97,114,110,101,115,115,32,52,55,98,57,53,55,48,102,50,98,49,100,51,51,53,98,53,100,50,48,54,100,54,102,56,51,54,55,51,53,54,51,55,57,57,55,97,54,48,97,97,98,102,52,99,52,99,102,101,97,55,52,48,48,52,51,98,52,55,100,99,48,98,55,32,99,117,116,32]
def tailN:List Nat:=[97,116,32,108,111,111,112,46,101,120,97,109,112,108,101,47,105,110,107,108,105,110,103,47,108,97,119,115,46,70,110,78,101,116,78,101,119,32,108,111,111,112,46,101,120,97,109,112,108,101,47,105,110,107,108,105,110,103,47,108,97,119,115,46,70,110,78,101,116,79,107,32,108,111,111,112,46,101,120,97,109,112,108,101,47,105,110,107,108,105,110,103,47,108,97,119,115,46,70,110,78,101,116,82,101,97,99,104,32,108,111,111,112,46,101,120,97,109,112,108,101,47,105,110,107,108,105,110,103,47,108,97,119,115,46,70,110,78,101,116,82,101,97,99,104,80,97,116,104,32,108,111,111,112,46,101,120,97,109,112,108,101,47,105,110,107,108,105,110,103,47,108,97,119,115,46,70,110,78,101,116,75,110,111,119,110,32,108,111,111,112,46,101,120,97,109,112,108,101,47,105,110,107,108,105,110,103,47,108,97,119,115,46,70,110,78,101,116,83,117,109,32,108,111,111,112,46,101,120,97,109,112,108,101,47,105,110,107,108,105,110,103,47,108,97,119,115,46,70,110,78,101,116,83,117,109,71,101,116,32,108,111,111,112,46,101,120,97,109,112,108,101,47,105,110,107,108,105,110,103,47,108,97,119,115,46,70,110,78,101,116,83,117,109,70,97,114,32,108,111,111,112,46,101,120,97,109,112,108,101,47,105,110,107,108,105,110,103,47,108,97,119,115,46,70,110,78,101,116,76,105,115,116,32,108,111,111,112,46,101,120,97,109,112,108,101,47,105,110,107,108,105,110,103,47,108,97,119,115,46,70,110,69,120,97,99,116,78,101,116,79,107,32,108,111,111,112,46,101,120,97,109,112,108,101,47,105,110,107,108,105,110,103,47,108,97,119,115,46,70,110,69,120,97,99,116,78,101,116,82,101,97,99,104,32,108,111,111,112,46,101,120,97,109,112,108,101,47,105,110,107,108,105,110,103,47,108,97,119,115,46,70,110,69,120,97,99,116,78,101,116,75,110,111,119,110,32,108,111,111,112,46,101,120,97,109,112,108,101,47,105,110,107,108,105,110,103,47,108,97,119,115,46,70,110,69,120,97,99,116,78,101,116,83,117,109,32,108,111,111,112,46,101,120,97,109,112,108,101,47,105,110,107,108,105,110,103,47,108,97,119,115,46,70,110,69,120,97,99,116,78,101,116,76,105,115,116]
theorem a1:Tryz.prog.initOrder=String.ofList (headN.map Char.ofNat++tailN.map Char.ofNat):=by kernel_rfl
theorem a2:Tryz.prog.initOrder.toList=headN.map Char.ofNat++tailN.map Char.ofNat:=by rw[a1,String.toList_ofList]
theorem a3 (t:List Char):behindMainWord (wordsSigns (headN.map Char.ofNat++t))= "cut".toList::wordsSigns t:=by kernel_rfl
theorem bm:∃X,behindMainWord (wordsSigns Tryz.prog.initOrder.toList)= "cut".toList::X:=⟨_,by rw[a2,a3]⟩
theorem may_of {P:Program} {c:List Char} {rest:List (List Char)} (h:behindMainWord (wordsSigns P.initOrder.toList)=c::rest):P.mayEnter=
  (((c== "gc".toList || c== "spec".toList)&&(rest.isEmpty || rest.head? ==some "stop".toList)) ||
    (c== "carried".toList&&rest.take 2==["gc".toList, "cut".toList]&& !P.laysLater&& !P.bearsReflect) ||
    ((stripLifts liftWords (c::rest)).2.head? ==some "cut".toList&&
      ((stripLifts liftWords (c::rest)).1.contains "finals" || !P.laysLater)&&((stripLifts liftWords (c::rest)).1.contains "reflectrows" || !P.bearsReflect)&&
      ((stripLifts liftWords (c::rest)).1.contains "reflectrows" || !(stripLifts liftWords (c::rest)).1.contains "leanrows")&&
      P.doorFits (stripLifts liftWords (c::rest)).1)):=by
 unfold Program.mayEnter;rw[h]
theorem lift_of {P:Program} {c:List Char} {rest:List (List Char)} (h:behindMainWord (wordsSigns P.initOrder.toList)=c::rest):P.headLifts=if (stripLifts liftWords (c::rest)).2.head? ==some "cut".toList then (stripLifts liftWords (c::rest)).1 else []:=by
 unfold Program.headLifts;rw[h]
theorem strip (X:List (List Char)):stripLifts liftWords ("cut".toList::X)=([], "cut".toList::X):=by kernel_rfl
theorem make_of {P:Program} {rest:List (List Char)} (h:behindMainWord (wordsSigns P.initOrder.toList)= "cut".toList::rest):P.make=some .cut:=by
 unfold Program.make;rw[h];kernel_rfl
theorem may_cut {P:Program} {rest:List (List Char)} (h:behindMainWord (wordsSigns P.initOrder.toList)= "cut".toList::rest) (h1:P.laysLater=false) (h2:P.bearsReflect=false) (h3:P.doorFits []=true):P.mayEnter=true:=by
 rw[may_of h,strip,h1,h2,h3];kernel_rfl
theorem final_cut {P:Program} {rest:List (List Char)} (h:behindMainWord (wordsSigns P.initOrder.toList)= "cut".toList::rest):P.liftsFinal=false:=by
 unfold Program.liftsFinal;rw[lift_of h,h,strip];kernel_rfl
theorem lays0:Tryz.prog.laysLater=false:=by kernel_rfl
theorem refl0:Tryz.prog.bearsReflect=false:=by kernel_rfl
theorem door0:Tryz.prog.doorFits []=true:=by kernel_rfl
theorem mayE:Tryz.prog.mayEnter=true:=by
 obtain⟨X,h⟩:=bm;exact may_cut h lays0 refl0 door0
theorem liftF:Tryz.prog.liftsFinal=false:=by
 obtain⟨X,h⟩:=bm;exact final_cut h
theorem makeC:Tryz.prog.make=some .cut:=by
 obtain⟨X,h⟩:=bm;exact make_of h
end Go.Proofs.YtcblbdpdbggkbaaGreat
