/-
  What the law FnExactNetKnown needs of the texts before it, part 7.
-/
import Derived.JoinedOf
import Derived.KernelRfl
import Derived.Test.YtcblbdpdbggkbaaGreatChecked
import Derived.Test.YtcblbdpdbggkbaaGreatSFnExactNetKnown6
set_option maxRecDepth 100000
set_option maxHeartbeats 16000000
set_option linter.unusedVariables false
set_option linter.unusedSectionVars false
set_option linter.unusedSimpArgs false
set_option linter.unusedVariables false
set_option linter.unusedSectionVars false
set_option linter.unusedSimpArgs false
namespace Go.Proofs.YtcblbdpdbggkbaaGreat
open Go.RowKit Go.Sort
namespace N
theorem _root_.Go.Proofs.YtcblbdpdbggkbaaGreat.M.ownR {B:Nat} {w0 w w':World} {l:List Ch} {v:Value} {rs:List (List Int)} {G C:Nat->Nat} (h:M B w0 w l) (hb:Below w.heap.size w w') (ho:cY w' w.heap.size v rs G C):M B w0 w' (nD v rs::l):=
 h.add hb (zR ho) (List.nodup_append.2 ⟨fK _,List.pairwise_map.2 (List.Pairwise.imp_of_mem (fun {i j} hi hj q e=>ho.apart i j (List.mem_range.1 hi) (List.mem_range.1 hj) q e) List.nodup_range),fun a ha b hb e=>by
    obtain⟨i,hi,rfl⟩:=List.mem_map.1 hb
    exact ho.off i (List.mem_range.1 hi) (by rw[bE ha,e])⟩) fun b hb=>by
   rcases List.mem_append.1 hb with hb|hb
   ·exact (World.ownsRow.lt ho.hdr b (bE hb)).1
   ·obtain⟨i,hi,rfl⟩:=List.mem_map.1 hb
    exact ((ho.row i (List.mem_range.1 hi)).lt (G i) rfl).1
theorem aBI (w:World) {V:SV} {s:Sm} {f:List Nat} (h:pC w [.slice V.xr V.nr V.cr,.slice V.xf V.nf V.cf,.slice V.xt V.nt V.ct,.int .i64 s.lo,.int .i64 s.al,.slice V.xk V.nk V.ck,.int .i64 s.ka] s f) (hs:okS s=true):
  Calls Tryz.prog 167 #[.agg #[.slice V.xr V.nr V.cr,.slice V.xf V.nf V.cf,.slice V.xt V.nt V.ct,.int .i64 s.lo,.int .i64 s.al,.slice V.xk V.nk V.ck,.int .i64 s.ka]] w fun r w'=>∃U:SV,r=.returned (.agg #[.slice U.xr U.nr U.cr,.slice U.xf U.nf U.cf,.slice U.xt U.nt U.ct,.int .i64 s.lo,.int .i64 s.al,.slice U.xk U.nk U.ck,.int .i64 s.ka])/\M w.heap.size w w' [bC.ch [.slice U.xr U.nr U.cr,.slice U.xf U.nf U.cf,.slice U.xt U.nt U.ct,.int .i64 s.lo,.int .i64 s.al,.slice U.xk U.nk U.ck,.int .i64 s.ka] s]:=by
 obtain⟨fr,ff,ft,fk,hr,hf,ht,hk⟩:=vS h;obtain⟨v',ev,rr⟩:=uL hr;cases ev;have hl:=((dV _).1 hs).small.lens;have HO:=hd_ ((dV _).1 hs).r;have LF:=hd_ hl.f;have LT:=hd_ hl.t;have LK:=hd_ hl.k;have HR:=hd_ rr;have HF:=hd_ (RdL.fl hf);have HT:=hd_ (RdL.fl ht);have HK:=hd_ (RdL.fl hk);clear h hl hr hf ht hk hs rr
 have X:=((M.start w).alloc #[.slice V.xr V.nr V.cr,.slice V.xf V.nf V.cf,.slice V.xt V.nt V.ct,.int .i64 s.lo,.int .i64 s.al,.slice V.xk V.nk V.ck,.int .i64 s.ka] 46).alloc #[.slice none 0 0,.slice none 0 0,.slice none 0 0,.int .i64 0,.int .i64 0,.slice none 0 0,.int .i64 0] 46;simp only[World.size_alloc]at X;obtain⟨p1,hp1⟩:∃p,p=w.heap.size:=⟨_,rfl⟩
 obtain⟨p2,hp2⟩:∃p,p=w.heap.size+1:=⟨_,rfl⟩
 obtain⟨W0,hW0⟩:∃W,W=(w.alloc (.cells #[.slice V.xr V.nr V.cr,.slice V.xf V.nf V.cf,.slice V.xt V.nt V.ct,.int .i64 s.lo,.int .i64 s.al,.slice V.xk V.nk V.ck,.int .i64 s.ka] 46)).alloc (.cells #[.slice none 0 0,.slice none 0 0,.slice none 0 0,.int .i64 0,.int .i64 0,.slice none 0 0,.int .i64 0] 46):=⟨_,rfl⟩
 rw[<-hW0, <-hp2]at X;have H0:=hd_ (show M w.heap.size w W0 [bU p1 46 #[.slice V.xr V.nr V.cr,.slice V.xf V.nf V.cf,.slice V.xt V.nt V.ct,.int .i64 s.lo,.int .i64 s.al,.slice V.xk V.nk V.ck,.int .i64 s.ka],bU p2 46 #[.slice none 0 0,.slice none 0 0,.slice none 0 0,.int .i64 0,.int .i64 0,.slice none 0 0,.int .i64 0]] by rw[hp1];exact X.p1);clear X;go_enter Tryz.func167,Tryz.ntmps167
 go_upto_region 1 with fail
 rw[<-hW0, <-hp2, <-hp1];clear hW0 hp2 hp1;obtain⟨c0,c1,c2,c3,c4,c5,c6⟩:=H0.out.cells7;have K1:=hd_ (aGh W0 _ s.rs (HR.out.below H0.out.below lr_) HO.out)
 go_wp2_with fail
 refine K1.out.mono ?_;rintro r v1 ⟨yr,dr,G,C,rfl,ho,hb⟩;have X:=(H0.out.ownR hb ho).p1;clear ho hb K1 H0 c0 c1 c2 c3 c4 c5 c6;obtain⟨c0,c1,c2,c3,c4,c5,c6⟩:=X.cells7;have cf:=X.free;have Y:=X.set (i:=0) (.slice yr 3 dr);simp only[List.setIfInBounds_toArray,List.set_cons_zero,List.set_cons_succ]at Y;obtain⟨W1,hW⟩:∃W,W=v1.setCell ⟨p1,0,none⟩ (.slice yr 3 dr):=⟨_,rfl⟩
 rw[<-hW]at Y;have H1:=hd_ Y;clear X Y;go_upto_region 2 with fail
 rw[<-hW];clear hW c0 c1 c2 c3 c4 c5 c6 cf;have e1:=(H1.out.alloc #[] 3).empty (aT aDf) 1;obtain⟨c0,c1,c2,c3,c4,c5,c6⟩:=e1.p1.cells7;have E1:=hd_ e1;have R1:=hd_ (HF.out.later e1.below);clear e1 H1
 go_upto_region 3 with (at_builtin;go_loud (refine kB aLP (fun _=>rfl) aBA E1.out R1.out rfl rfl rfl rfl (by rw[List.length_nil];have:=LF.out;unfold maxLen;omega) (by rw[List.length_nil];have:=LF.out;omega) (N:=s.zs.length) (by rw[List.length_nil,Nat.zero_add]) ?_);intro yf df u1 h;clear c0 c1 c2 c3 c4 c5 c6;obtain⟨c0,c1,c2,c3,c4,c5,c6⟩:=h.p1.cells7;have cf:=h.p1.free;have Y:=h.soft.p1.set (i:=1) (.slice yf s.zs.length df);simp only[List.setIfInBounds_toArray,List.set_cons_zero,List.set_cons_succ]at Y;clear h E1 R1)
 obtain⟨W2,hW⟩:∃W,W=u1.setCell ⟨p1,1,none⟩ (.slice yf s.zs.length df):=⟨_,rfl⟩
 rw[<-hW]at Y ⊢;have H2:=hd_ Y;clear Y hW c0 c1 c2 c3 c4 c5 c6 cf;have e2:=(H2.out.alloc #[] 213).empty (aT nZ) 2;obtain⟨c0,c1,c2,c3,c4,c5,c6⟩:=e2.p1.cells7;have E2:=hd_ e2;have R2:=hd_ (HT.out.later e2.below);clear e2 H2
 go_upto_region 4 with (at_builtin;go_loud (refine kB aLe (fun _=>rfl) pG E2.out R2.out rfl rfl rfl rfl (by rw[List.length_nil];have:=LT.out;unfold maxLen;omega) (by rw[List.length_nil];have:=LT.out;omega) (N:=s.ps.length) (by rw[List.length_nil,Nat.zero_add]) ?_);intro yt dt u2 h;clear c0 c1 c2 c3 c4 c5 c6;obtain⟨c0,c1,c2,c3,c4,c5,c6⟩:=h.p1.cells7;have cf:=h.p1.free;have Y:=h.soft.p1.set (i:=2) (.slice yt s.ps.length dt);simp only[List.setIfInBounds_toArray,List.set_cons_zero,List.set_cons_succ]at Y;clear h E2 R2)
 obtain⟨W3,hW⟩:∃W,W=u2.setCell ⟨p1,2,none⟩ (.slice yt s.ps.length dt):=⟨_,rfl⟩
 rw[<-hW]at Y ⊢;have H3:=hd_ Y;clear Y hW c0 c1 c2 c3 c4 c5 c6 cf;have e3:=(H3.out.alloc #[] 152).empty (aT nZ) 2;obtain⟨c0,c1,c2,c3,c4,c5,c6⟩:=e3.p1.cells7;have E3:=hd_ e3;have R3:=hd_ (HK.out.later e3.below);clear e3 H3
 go_upto_region 5 with (at_builtin;go_loud (refine kB aLf (fun _=>rfl) pG E3.out R3.out rfl rfl rfl rfl (by rw[List.length_nil];have:=LK.out;unfold maxLen;omega) (by rw[List.length_nil];have:=LK.out;omega) (N:=s.ks.length) (by rw[List.length_nil,Nat.zero_add]) ?_);intro yk dk u3 h;clear c0 c1 c2 c3 c4 c5 c6;obtain⟨c0,c1,c2,c3,c4,c5,c6⟩:=h.p1.cells7;have cf:=h.p1.free;have Y:=h.soft.p1.set (i:=5) (.slice yk s.ks.length dk);simp only[List.setIfInBounds_toArray,List.set_cons_zero,List.set_cons_succ]at Y;clear h E3 R3)
 obtain⟨W4,hW⟩:∃W,W=u3.setCell ⟨p1,5,none⟩ (.slice yk s.ks.length dk):=⟨_,rfl⟩
 rw[<-hW]at Y ⊢;have H4:=hd_ Y;clear Y hW c0 c1 c2 c3 c4 c5 c6 cf;obtain⟨U,hU⟩:∃U:SV,U=⟨yr,3,dr,yf,s.zs.length,df,yt,s.ps.length,dt,yk,s.ks.length,dk⟩:=⟨_,rfl⟩
 have H5:=hd_ (show M w.heap.size w W4 (bU p1 46 #[.slice U.xr U.nr U.cr,.slice U.xf U.nf U.cf,.slice U.xt U.nt U.ct,.int .i64 s.lo,.int .i64 s.al,.slice U.xk U.nk U.ck,.int .i64 s.ka]::sN (.slice U.xk U.nk U.ck) s.ks::sV (.slice U.xt U.nt U.ct) s.ps::tX (.slice U.xf U.nf U.cf) s.zs::nD (.slice U.xr U.nr U.cr) s.rs::[bU p2 46 #[.slice none 0 0,.slice none 0 0,.slice none 0 0,.int .i64 0,.int .i64 0,.slice none 0 0,.int .i64 0]]) by rw[hU];exact H4.out)
 clear hU H4;obtain⟨c0,c1,c2,c3,c4,c5,c6⟩:=H5.out.cells7
 go_wp2_with (go_loud (refine cF H5.out.p5 (vs:=[.slice U.xr U.nr U.cr,.slice U.xf U.nf U.cf,.slice U.xt U.nt U.ct,.int .i64 s.lo,.int .i64 s.al,.slice U.xk U.nk U.ck,.int .i64 s.ka]) (ys:=#[.slice U.xr U.nr U.cr,.slice U.xf U.nf U.cf,.slice U.xt U.nt U.ct,.int .i64 s.lo,.int .i64 s.al,.slice U.xk U.nk U.ck,.int .i64 s.ka]) rfl rfl rfl (by first|rfl|simp) aB0 rfl (by simp) (by simp[qF]) ?_);intro w9 h9;have H9:=hd_ h9;clear h9 H5)
 obtain⟨e0,e1,e2,e3,e4,e5,e6⟩:=H9.out.cells7;exact bodyPost_ret (v:=.agg #[.slice U.xr U.nr U.cr,.slice U.xf U.nf U.cf,.slice U.xt U.nt U.ct,.int .i64 s.lo,.int .i64 s.al,.slice U.xk U.nk U.ck,.int .i64 s.ka]) (by simp[results,Tryz.results167,go_sem,e0,e1,e2,e3,e4,e5,e6]) rfl ⟨U,rfl,M.sumWhole ((H9.out.drop.drop).perm (List.reverse_perm [_,_,_,_] |>.symm))⟩
theorem aBP (w:World) {x:Option Addr} {c:Nat} {es:List En} {f:List Nat} (h:eF TY w [.slice x es.length c] es f) (hk:es.length<=1048576) (hr:∀e ∈ es,okS e.s=true):
  Calls Tryz.prog 98 #[.slice x es.length c] w fun r w'=>∃y cy,r=.returned (.slice y es.length cy)/\M w.heap.size w w' [gH (.slice y es.length cy) es]:=by
 have H1:=hd_ h;have HR:=hd_ hr;have H0:=hd_ (((M.start w).alloc #[] 64).empty aU 10);clear h hr;go_enter Tryz.func98,Tryz.ntmps98;go_wp2;go_loopw [3,4] (fun y z wr=>∃(j cy:Nat) (xy:Option Addr),j<=es.length/\z=.int .i64 (j:Int)/\y=.slice xy j cy/\M w.heap.size w wr [gH (.slice xy j cy) (es.take j)]) (fun _ z _=>es.length - (intOf z).toNat)
 case atStart=>exact⟨0,0,_,Nat.zero_le _,rfl,rfl,H0.out⟩
 case round=>
  clear H0;obtain⟨j,cy,xy,hj,rfl,rfl,hM⟩:=hrel;have H:=hd_ hM;clear hM
  by_cases hlt:j<es.length
  ·obtain⟨e,he⟩:∃e,es[j]? =some e:=⟨_,List.getElem?_eq_getElem hlt⟩
   obtain⟨g,V,fe,rfl,_,_,sr,ca0,ca1,ca2,cas⟩:=iO H1.out he;have hWB:=H.out.below;have LL:okS e.s=true:=HR.out e (List.mem_of_getElem? he);have ST:=hd_ (aBJ he);have LT:Hid ((es.take j).length=j):=hd_ (by rw[List.length_take];omega);replace ca0:=cell_later hWB ca0;replace ca1:=cell_later hWB ca1;replace ca2:=cell_later hWB ca2;have ca3:=cell_later hWB (cas 0 _ rfl)
   have ca4:=cell_later hWB (cas 1 _ rfl);have ca5:=cell_later hWB (cas 2 _ rfl);have ca6:=cell_later hWB (cas 3 _ rfl);have ca7:=cell_later hWB (cas 4 _ rfl);have ca8:=cell_later hWB (cas 5 _ rfl);have ca9:=cell_later hWB (cas 6 _ rfl);have j0:(0:Int)<=(j:Int):=by omega
   have j1:(j:Int)<(es.length:Int):=by omega
   have h2:=H.out.alloc #[.int .i64 e.node,.int .i64 e.born,.int .i64 e.num,.slice V.xr V.nr V.cr,.slice V.xf V.nf V.cf,.slice V.xt V.nt V.ct,.int .i64 (e.s).lo,.int .i64 (e.s).al,.slice V.xk V.nk V.ck,.int .i64 (e.s).ka] 64;obtain⟨p7,hp7⟩:∃p,p=wr.heap.size:=⟨_,rfl⟩
   obtain⟨W,hW⟩:∃W',W'=wr.alloc (.cells #[.int .i64 e.node,.int .i64 e.born,.int .i64 e.num,.slice V.xr V.nr V.cr,.slice V.xf V.nf V.cf,.slice V.xt V.nt V.ct,.int .i64 (e.s).lo,.int .i64 (e.s).al,.slice V.xk V.nk V.ck,.int .i64 (e.s).ka] 64):=⟨_,rfl⟩
   rw[<-hW, <-hp7]at h2;have H2:=hd_ h2;have KE:=hd_ (aBI W (V:=V) (s:=e.s) (bC.below sr h2.below lr_) LL);clear h2 cas hWB sr he LL H;go_upto_region 6 with fail
   rw[<-hW, <-hp7];clear hW hp7 ca0 ca1 ca2 ca3 ca4 ca5 ca6 ca7 ca8 ca9;obtain⟨d0,d1,d2,d3,d4,d5,d6,d7,d8,d9⟩:=H2.out.cells10
   go_wp2_with fail
   refine KE.out.mono ?_;rintro r2 w2 ⟨U,rfl,hm⟩;have H3:=hd_ (H2.out.plus hm).p1;clear hm KE H2 d0 d1 d2 d3 d4 d5 d6 d7 d8 d9
   go_upto_region 7 with (refine cF H3.out (vs:=[.slice U.xr U.nr U.cr,.slice U.xf U.nf U.cf,.slice U.xt U.nt U.ct,.int .i64 (e.s).lo,.int .i64 (e.s).al,.slice U.xk U.nk U.ck,.int .i64 (e.s).ka]) (ys:=#[.int .i64 e.node,.int .i64 e.born,.int .i64 e.num,.slice U.xr U.nr U.cr,.slice U.xf U.nf U.cf,.slice U.xt U.nt U.ct,.int .i64 (e.s).lo,.int .i64 (e.s).al,.slice U.xk U.nk U.ck,.int .i64 (e.s).ka]) rfl rfl rfl rfl aB0 rfl (by simp) (by simp[qF]) ?_;intro w3 h3;obtain⟨d0,d1,d2,d3,d4,d5,d6,d7,d8,d9⟩:=h3.cells10;have H4:=hd_ (((h3.p1.entry e.node e.born e.num).p2).alloc #[.int .i64 e.node,.int .i64 e.born,.int .i64 e.num,.slice U.xr U.nr U.cr,.slice U.xf U.nf U.cf,.slice U.xt U.nt U.ct,.int .i64 (e.s).lo,.int .i64 (e.s).al,.slice U.xk U.nk U.ck,.int .i64 (e.s).ka] 64);clear h3 H3)
   have H5:=H4;clear H4
   go_wp2_with (at_builtin;go_loud (refine tD aLB zM H5.out rfl rfl rfl rfl (by rw[LT.out];unfold maxLen;omega) (by rw[LT.out];omega) (N:=j+1) (by rw[LT.out]) ?_);intro y3 c3 w4 h6;have H6:=hd_ h6;clear h6 H5 d0 d1 d2 d3 d4 d5 d6 d7 d8 d9)
   go_roundw
   case rel=>exact⟨j+1,c3,y3,by omega,by go_num,rfl,by rw[ST.out];exact H6.out.p1.drop⟩
   case measure=>simp[intOf];omega
  ·obtain rfl:j=es.length:=by omega
   have ST:Hid (es.take es.length=es):=hd_ List.take_length;rw[ST.out]at H;go_wp2;go_ret;exact⟨_,_,rfl,H.out⟩
end N
end Go.Proofs.YtcblbdpdbggkbaaGreat
set_option linter.unusedVariables false
set_option linter.unusedSectionVars false
set_option linter.unusedSimpArgs false
namespace Go.Proofs.YtcblbdpdbggkbaaGreat
open Go.RowKit Go.Sort
namespace N
theorem aAB (w:World) {x1 x2 x3 x4:Option Addr} {k1 c1 k2 c2 k3 c3 k4 c4:Nat} {n:Nt} (hn:iL w (.slice x1 k1 c1) (.slice x2 k2 c2) (.slice x3 k3 c3) (.slice x4 k4 c4) n) (i:Int):
  Calls Tryz.prog 34 #[.agg #[.slice x1 k1 c1,.slice x2 k2 c2,.slice x3 k3 c3,.slice x4 k4 c4],.int .i64 i] w fun r w'=>∃y c,r=.returned (.slice y (dE n i).length c)/\M w.heap.size w w' [gH (.slice y (dE n i).length c) (dE n i)]:=by
 have HN:=hd_ hn;have KF:=hd_ (lC n i);have h0:=(M.start w).alloc #[.slice x1 k1 c1,.slice x2 k2 c2,.slice x3 k3 c3,.slice x4 k4 c4] 30;obtain⟨p2,hp2⟩:∃p,p=w.heap.size:=⟨_,rfl⟩
 obtain⟨W1,hW1⟩:∃W',W'=w.alloc (.cells #[.slice x1 k1 c1,.slice x2 k2 c2,.slice x3 k3 c3,.slice x4 k4 c4] 30):=⟨_,rfl⟩
 rw[<-hW1]at h0;have H1:=hd_ (show M w.heap.size w W1 [bU p2 30 #[.slice x1 k1 c1,.slice x2 k2 c2,.slice x3 k3 c3,.slice x4 k4 c4]] by rw[hp2];exact h0);clear h0 hn;go_enter Tryz.func34,Tryz.ntmps34;go_upto_region 1 with fail
 rw[<-hW1, <-hp2];clear hW1 hp2;obtain⟨a0,a1,a2,a3⟩:=H1.out.cells4;obtain⟨q,hq⟩:∃q,q=kZ n:=⟨_,rfl⟩
 have KN:=hd_ (aFO W1 (HN.out.below H1.out.below lr_));rw[<-hq]at KN;have HQ:=hd_ hq;clear hq
 have NIL:Hid (dE n i=[]->∀w',M w.heap.size w w' [bU p2 30 #[.slice x1 k1 c1,.slice x2 k2 c2,.slice x3 k3 c3,.slice x4 k4 c4]]->∃y c,Ending.returned (Value.slice (some ⟨w'.heap.size,0,none⟩) 0 0)=.returned (.slice y (dE n i).length c)/\M w.heap.size w (w'.alloc (.cells #[] 64)) [gH (.slice y (dE n i).length c) (dE n i)]):=hd_ fun e w' h=>by
  rw[e];exact⟨some ⟨w'.heap.size,0,none⟩,0,rfl,((h.alloc #[] 64).empty aU 10).p1.drop⟩
 go_wp2_with fail
 refine KN.out.mono ?_;rintro r w2 ⟨rfl,hb⟩;have H2:=hd_ (H1.out.later hb);clear hb KN H1 a0 a1 a2 a3;cases q with
 |false=>
  have F:=hd_ (NIL.out (by unfold dE;rw[if_neg (by rw[<-HQ.out];simp)]) _ H2.out);go_wp2;go_ret;exact F.out
 |true=>
  have KI:=hd_ (lK i 0 4 w2);cases gi:in6 i 0 4 with
  |false=>
   rw[gi]at KI;have F:=hd_ (NIL.out (by unfold dE;rw[if_neg (by rw[gi];simp)]) _ H2.out);clear gi
   go_wp2_with fail
   refine KI.out.mono ?_;rintro r w' ⟨rfl,hw⟩;rw[hw];clear hw w' KI;go_wp2;go_ret;exact F.out
  |true=>
   rw[gi]at KI;have EF:Hid (dE n i=(aG n i).known):=hd_ (by unfold dE;rw[if_pos ⟨HQ.out.symm,gi⟩]);obtain⟨iA,iB⟩:=cL.1 gi;obtain⟨f1,n1⟩:=HN.out.nodes;obtain rfl:k1=5:=(aO n1).1.trans (mM HQ.out.symm).1.nodes;obtain⟨j,rfl⟩:∃j:Nat,i=j:=⟨i.toNat,by omega⟩
   have j5:j<5:=by omega
   obtain⟨nd,hnd⟩:∃nd,n.nodes[j]? =some nd:=⟨_,List.getElem?_eq_getElem (by rw[(mM HQ.out.symm).1.nodes];exact j5)⟩
   have eN:aG n (j:Int)=nd:=by unfold aG;rw[List.getD_eq_getElem?_getD,Int.toNat_natCast,hnd];rfl
   rw[eN]at EF;obtain⟨g1,xk,ck,fk,rfl,_,_,kr,_,_,b0,b1,_⟩:=fQ n1 hnd;have j0:(0:Int)<=(j:Int):=by omega
   have j1:(j:Int)<5:=by omega
   have R:=hd_ kr;replace b1:=cell_later H2.out.below b1;obtain⟨a0,a1,a2,a3⟩:=H2.out.cells4;clear gi hnd eN b0 n1 kr iA iB;have KE:=hd_ (aBP w2 (es:=nd.known) ((aP aU _ _).below R.out H2.out.below lr_) (by rw[<-EF.out];have:=KF.out.1;omega) (by rw[<-EF.out];exact fun e he=>(KF.out.2 e he).1))
   go_wp2_with fail
   refine KI.out.mono ?_;rintro r w' ⟨rfl,hw⟩;rw[hw];clear hw w' KI
   go_wp2_with fail
   refine KE.out.mono ?_;rintro r w3 ⟨y,cy,rfl,hm⟩;have H3:=hd_ (H2.out.plus hm);clear hm KE H2 a0 a1 a2 a3 b1;go_wp2;go_ret;exact⟨y,cy,by rw[EF.out];rfl,by rw[EF.out];exact H3.out.p1.drop⟩
end N
end Go.Proofs.YtcblbdpdbggkbaaGreat
set_option linter.unusedVariables false
set_option linter.unusedSectionVars false
set_option linter.unusedSimpArgs false
namespace Go.Proofs.YtcblbdpdbggkbaaGreat.N
open Go.RowKit Go.Sort
theorem aCL {α:Type} {c:α->Int} {b:Int}:∀{l:List α},(∀x ∈ l,c x<=b)->bL c l<=b * l.length
 | [],_=>by rw[gZ];simp
 |x::xs,h=>by
  have h1:=aCL (l:=xs) fun y hy=>h y (List.mem_cons_of_mem _ hy)
  have h2:=h x List.mem_cons_self;rw[mA,List.length_cons,show ((xs.length+1:Nat):Int)=(xs.length:Int)+1 by omega,Int.mul_add,Int.mul_one];omega
theorem aEQ {s:Sm} (h:aAi s):aDy s<=400:=by
 have hr:iR s.rs<=8 * s.rs.length:=aCL fun r hr=>by
  obtain⟨i,hi,rfl⟩:=List.getElem_of_mem hr;have:=h.r.2 i hi;rw[List.getD_eq_getElem?_getD,List.getElem?_eq_getElem hi]at this;unfold fP;simp at this;omega
 have:=h.r.1;have:=h.f;have:=h.t;have:=h.k;unfold aDy;omega
theorem aEz (n:Nt) (i:Int):mY (dE n i)<=2500:=by
 obtain⟨h1,h2⟩:=lC n i;have:=aCL (c:=jL) (b:=403) (l:=dE n i) fun e he=>by
  have:=aEQ ((dV _).1 (h2 e he).1).small;unfold jL;omega
 unfold mY;omega
end Go.Proofs.YtcblbdpdbggkbaaGreat.N
namespace Go.Proofs.YtcblbdpdbggkbaaGreat
open Go
def aIs:List Nat:=[104,97,114,110,101,115,115,32,52,55,98,57,53,55,48,102,50,98,49,100,51,51,53,98,53,100,50,48,54,100,54,102,56,51,54,55,51,53,54,51,55,57,57,55,97,54,48,97,97,98,102,52,99,52,99,102,101,97,55,52,48,48,52,51,98,52,55,100,99,48,98,55,32,99,117,116,32]
def aK7:List Nat:=[97,116,32,108,111,111,112,46,101,120,97,109,112,108,101,47,105,110,107,108,105,110,103,47,108,97,119,115,46,70,110,78,101,116,78,101,119,32,108,111,111,112,46,101,120,97,109,112,108,101,47,105,110,107,108,105,110,103,47,108,97,119,115,46,70,110,78,101,116,79,107,32,108,111,111,112,46,101,120,97,109,112,108,101,47,105,110,107,108,105,110,103,47,108,97,119,115,46,70,110,78,101,116,82,101,97,99,104,32,108,111,111,112,46,101,120,97,109,112,108,101,47,105,110,107,108,105,110,103,47,108,97,119,115,46,70,110,78,101,116,82,101,97,99,104,80,97,116,104,32,108,111,111,112,46,101,120,97,109,112,108,101,47,105,110,107,108,105,110,103,47,108,97,119,115,46,70,110,78,101,116,75,110,111,119,110,32,108,111,111,112,46,101,120,97,109,112,108,101,47,105,110,107,108,105,110,103,47,108,97,119,115,46,70,110,78,101,116,83,117,109,32,108,111,111,112,46,101,120,97,109,112,108,101,47,105,110,107,108,105,110,103,47,108,97,119,115,46,70,110,78,101,116,83,117,109,71,101,116,32,108,111,111,112,46,101,120,97,109,112,108,101,47,105,110,107,108,105,110,103,47,108,97,119,115,46,70,110,78,101,116,83,117,109,70,97,114,32,108,111,111,112,46,101,120,97,109,112,108,101,47,105,110,107,108,105,110,103,47,108,97,119,115,46,70,110,78,101,116,76,105,115,116,32,108,111,111,112,46,101,120,97,109,112,108,101,47,105,110,107,108,105,110,103,47,108,97,119,115,46,70,110,69,120,97,99,116,78,101,116,79,107,32,108,111,111,112,46,101,120,97,109,112,108,101,47,105,110,107,108,105,110,103,47,108,97,119,115,46,70,110,69,120,97,99,116,78,101,116,82,101,97,99,104,32,108,111,111,112,46,101,120,97,109,112,108,101,47,105,110,107,108,105,110,103,47,108,97,119,115,46,70,110,69,120,97,99,116,78,101,116,75,110,111,119,110,32,108,111,111,112,46,101,120,97,109,112,108,101,47,105,110,107,108,105,110,103,47,108,97,119,115,46,70,110,69,120,97,99,116,78,101,116,83,117,109,32,108,111,111,112,46,101,120,97,109,112,108,101,47,105,110,107,108,105,110,103,47,108,97,119,115,46,70,110,69,120,97,99,116,78,101,116,76,105,115,116]
theorem a1:Tryz.prog.initOrder=String.ofList (aIs.map Char.ofNat++aK7.map Char.ofNat):=by kernel_rfl
theorem a2:Tryz.prog.initOrder.toList=aIs.map Char.ofNat++aK7.map Char.ofNat:=by rw[a1,String.toList_ofList]
theorem a3 (t:List Char):behindMainWord (wordsSigns (aIs.map Char.ofNat++t))= "cut".toList::wordsSigns t:=by kernel_rfl
theorem bm:∃X,behindMainWord (wordsSigns Tryz.prog.initOrder.toList)= "cut".toList::X:=⟨_,by rw[a2,a3]⟩
theorem aLx {P:Program} {c:List Char} {rest:List (List Char)} (h:behindMainWord (wordsSigns P.initOrder.toList)=c::rest):P.mayEnter=
  (((c== "gc".toList || c== "spec".toList)&&(rest.isEmpty || rest.head? ==some "stop".toList)) ||
    (c== "carried".toList&&rest.take 2==["gc".toList, "cut".toList]&& !P.laysLater&& !P.bearsReflect) ||
    ((stripLifts liftWords (c::rest)).2.head? ==some "cut".toList&&
      ((stripLifts liftWords (c::rest)).1.contains "finals" || !P.laysLater)&&((stripLifts liftWords (c::rest)).1.contains "reflectrows" || !P.bearsReflect)&&
      ((stripLifts liftWords (c::rest)).1.contains "reflectrows" || !(stripLifts liftWords (c::rest)).1.contains "leanrows")&&
      P.doorFits (stripLifts liftWords (c::rest)).1)):=by
 unfold Program.mayEnter;rw[h]
theorem aKL {P:Program} {c:List Char} {rest:List (List Char)} (h:behindMainWord (wordsSigns P.initOrder.toList)=c::rest):P.headLifts=if (stripLifts liftWords (c::rest)).2.head? ==some "cut".toList then (stripLifts liftWords (c::rest)).1 else []:=by
 unfold Program.headLifts;rw[h]
theorem aK3 (X:List (List Char)):stripLifts liftWords ("cut".toList::X)=([], "cut".toList::X):=by kernel_rfl
theorem aJ8 {P:Program} {rest:List (List Char)} (h:behindMainWord (wordsSigns P.initOrder.toList)= "cut".toList::rest):P.make=some .cut:=by
 unfold Program.make;rw[h];kernel_rfl
theorem aKP {P:Program} {rest:List (List Char)} (h:behindMainWord (wordsSigns P.initOrder.toList)= "cut".toList::rest) (h1:P.laysLater=false) (h2:P.bearsReflect=false) (h3:P.doorFits []=true):P.mayEnter=true:=by
 rw[aLx h,aK3,h1,h2,h3];kernel_rfl
theorem aGB {P:Program} {rest:List (List Char)} (h:behindMainWord (wordsSigns P.initOrder.toList)= "cut".toList::rest):P.liftsFinal=false:=by
 unfold Program.liftsFinal;rw[aKL h,h,aK3];kernel_rfl
theorem aLX:Tryz.prog.laysLater=false:=by kernel_rfl
theorem aLS:Tryz.prog.bearsReflect=false:=by kernel_rfl
theorem aLN:Tryz.prog.doorFits []=true:=by kernel_rfl
theorem mayE:Tryz.prog.mayEnter=true:=by
 obtain⟨X,h⟩:=bm;exact aKP h aLX aLS aLN
theorem liftF:Tryz.prog.liftsFinal=false:=by
 obtain⟨X,h⟩:=bm;exact aGB h
theorem makeC:Tryz.prog.make=some .cut:=by
 obtain⟨X,h⟩:=bm;exact aJ8 h
end Go.Proofs.YtcblbdpdbggkbaaGreat
