/-
  Texts of this proof, one behind the other; each begins with its own remark.
-/
import Derived.Test.YtjeomlickkpebaaGreatDoorBe27
import Derived.Test.YtjeomlickkpebaaGreatDoorBe28
set_option maxHeartbeats 16000000
namespace Go.Proofs.YtjeomlickkpebaaGreatDoor
open Go.RowKit
structure PcW (w0 w:World) (R:Nat) (s:ByteArray) (k B C:Nat) (n:Nd) (u:Value):Prop where
 at_:AtW w0 w R s k B
 box:boxN 116 w C n.kind n.set u
 kids:xR (fun j=>B<j∧j≠C) w n.kids u
 ok:OkR n.set
 lo:B<C
section
variable {w0 w w':World} {R:Nat} {s:ByteArray} {j k B C:Nat} {n:Nd} {u:Value}
theorem PcW.move (h:PcW w0 w R s k B C n u) (hk:KeepW (fun k=>k≠R) w w') (hr:RdW w' R s j):PcW w0 w' R s j B C n u:=
 have h1:=h.at_.rl;have h2:=h.lo
 ⟨h.at_.move hk hr,h.box.keep hk (by omega),h.kids.keep hk (fun k _ hk=>by omega),h.ok,h.lo⟩
theorem PcW.below (h:PcW w0 w R s k B C n u) (hb:Below w.heap.size w w'):PcW w0 w' R s k B C n u:=h.move (keep_below _ hb) (h.at_.rx.rd.below hb)
theorem VA (w:World) (p:Addr) (v:Value):(w.setCell p v).heap.size=w.heap.size:=by unfold World.setCell;simp only[Array.size_modify]
theorem PcW.sign2 (h:PcW w0 w R s k B C n u) (K:Int) (D:Nat) (hD:B<D∧D≠C) (hFD:FrZ w D) (hX:∀(j:Nat) x,(nodeC n u)[j]? =some x→w.cell? ⟨D,j,none⟩=some x):
  PcW w0 (zS w C K noR (.slice (some ⟨D,0,none⟩) 1 1)) R s k B C (.mk K noR [n]) (.slice (some ⟨D,0,none⟩) 1 1):=by
 have hk:=zM w C K noR (.slice (some ⟨D,0,none⟩) 1 1);have hlo:=h.lo;have hrl:=h.at_.rl;have hgl:=h.at_.gl;have hge:=h.at_.ge;refine⟨⟨h.at_.rx.keep hk (by omega) (by omega),h.at_.b.keep hk (by omega),qj h.at_.kp hk fun k hk _=>by omega,hge,hrl,hgl⟩,h.box.set6 K noR _,?_,ok_no,hlo⟩;show zW _ _ [n] _;exact⟨[n],[u],_,by show 1≤9223372036854775807;decide,rfl,⟨some ⟨D,0,none⟩,1,rfl,Nat.le_refl _,fun j x hx=>⟨D,0,rfl,⟨hD,hFD.keep hk hD.2⟩,by
   rw[Nat.zero_add];have e:xh [n] [u]=nodeC n u:=(by show nodeC n u++ []=_;rw[List.append_nil]);rw[e] at hx;exact hk.cell (hX j x hx) hD.2⟩⟩,(fun i m hm=>by
  have e0:i=0:=by
   have:=(List.getElem?_eq_some_iff.1 hm).1
   simpa using this
  subst e0;cases hm;exact h.ok),fun i m x hm hx=>by
  have e0:i=0:=by
   have:=(List.getElem?_eq_some_iff.1 hm).1
   simpa using this
  subst e0;cases hm;cases hx;exact h.kids.keep hk fun k _ hk=>hk.2⟩
theorem jJ (w:World) (p:Addr) (v:Value) (o:Obj) (hp:p.block<w.heap.size):(w.setCell p v).alloc o=(w.alloc o).setCell p v:=by
 unfold World.alloc World.setCell;simp only;congr 1;apply Array.ext_getElem?;intro k;simp only[Array.getElem?_push,Array.getElem?_modify,Array.size_modify];by_cases h1:k=w.heap.size
 ·subst h1;simp[Nat.ne_of_lt hp]
 ·simp[h1]
theorem Vr (w:World) (C:Nat) (K:Int) (t:St4) (v:Value) (o:Obj) (hC:C<w.heap.size):(zS w C K t v).alloc o=zS (w.alloc o) C K t v:=by
 unfold zS ze;rw[jJ,jJ,jJ,jJ,jJ,jJ]<;>simp only[VA]<;>exact hC
theorem PcW.both (h:PcW w0 w R s k B C n u) (K:Int) (i:Nat):
  (∀m,PcW w0 ((zS ((w.setCell ⟨R,1,none⟩ (.int .i64 (i:Int))).drewN m) C K noR (.slice (some ⟨w.heap.size,0,none⟩) 1 1)).alloc (.cells #[.int .i64 n.kind,.int .u64 (n.set.1:Int),.int .u64 (n.set.2.1:Int),.int .u64 (n.set.2.2.1:Int),.int .u64 (n.set.2.2.2:Int),u] 116)) R s i B C (.mk K noR [n]) (.slice (some ⟨w.heap.size,0,none⟩) 1 1)) ∧
  ∀m,PcW w0 (zS (((w.setCell ⟨R,1,none⟩ (.int .i64 (i:Int))).alloc (.cells #[.int .i64 n.kind,.int .u64 (n.set.1:Int),.int .u64 (n.set.2.1:Int),.int .u64 (n.set.2.2.1:Int),.int .u64 (n.set.2.2.2:Int),u] 116)).drewN m) C K noR (.slice (some ⟨w.heap.size,0,none⟩) 1 1)) R s i B C (.mk K noR [n]) (.slice (some ⟨w.heap.size,0,none⟩) 1 1):=by
 have hsz:=VA w ⟨R,1,none⟩ (.int .i64 (i:Int));have h1:=h.move (Jy w R (i:Int)) (h.at_.rx.rd.set i);have hBl:=h.at_.b.lt;have hCl:=h.box.lt;obtain⟨W0,hW0⟩:∃W0,w.setCell ⟨R,1,none⟩ (.int .i64 (i:Int))=W0:=⟨_,rfl⟩;rw[hW0] at h1 hsz ⊢;rw[←hsz] at hBl hCl ⊢;have key:∀W:World,PcW w0 W R s i B C n u→W.heap.size=W0.heap.size→PcW w0 (zS (W.alloc (.cells #[.int .i64 n.kind,.int .u64 (n.set.1:Int),.int .u64 (n.set.2.1:Int),.int .u64 (n.set.2.2.1:Int),.int .u64 (n.set.2.2.2:Int),u] 116)) C K noR (.slice (some ⟨W0.heap.size,0,none⟩) 1 1)) R s i B C (.mk K noR [n]) (.slice (some ⟨W0.heap.size,0,none⟩) 1 1):=fun W hW hs=>by
  rw[←hs];exact (hW.below (zA W (.cells #[.int .i64 n.kind,.int .u64 (n.set.1:Int),.int .u64 (n.set.2.1:Int),.int .u64 (n.set.2.2.1:Int),.int .u64 (n.set.2.2.2:Int),u] 116))).sign2 K W.heap.size ⟨by omega,by omega⟩ ⟨_,_,heap_alloc_new _ _⟩ (xr (n:=n) (boxN.new 116 W n.kind n.set u))
 refine⟨fun m=> ?_,fun m=> ?_⟩
 ·rw[Vr _ _ _ _ _ _ (show C<(W0.drewN m).heap.size from hCl)];exact key _ (h1.below (drewN_under W0 m)) rfl
 ·have:=(h1.below (zA W0 (.cells #[.int .i64 n.kind,.int .u64 (n.set.1:Int),.int .u64 (n.set.2.1:Int),.int .u64 (n.set.2.2.1:Int),.int .u64 (n.set.2.2.2:Int),u] 116))).below (drewN_under _ m);exact this.sign2 K W0.heap.size ⟨by omega,by omega⟩ ⟨_,_,heap_alloc_new W0 _⟩ fun j x hx=>xr (n:=n) (boxN.new 116 W0 n.kind n.set u) j x hx
theorem PcW.new (h:AtW w0 w R s k B) (hn:OkR n.set) (hu:xR (fun j=>B<j) w n.kids u):PcW w0 (w.alloc (.cells #[.int .i64 n.kind,.int .u64 (n.set.1:Int),.int .u64 (n.set.2.1:Int),.int .u64 (n.set.2.2.1:Int),.int .u64 (n.set.2.2.2:Int),u] 116)) R s k B w.heap.size n u:=by
 have hb:=zA w (.cells #[.int .i64 n.kind,.int .u64 (n.set.1:Int),.int .u64 (n.set.2.1:Int),.int .u64 (n.set.2.2.1:Int),.int .u64 (n.set.2.2.2:Int),u] 116);exact⟨h.below hb,boxN.new 116 w n.kind n.set u,(hu.mono (ok':=fun j=>B<j∧j≠w.heap.size) (fun j hj hk=>⟨hk,by omega⟩)).under hb,hn,h.b.lt⟩
end
section
variable {w:World} {R:Nat} {s:ByteArray} {i:Nat}
theorem zGJ (h:RdW w R s i) (hlt:i<s.size) (hs:s.size≤1000):
  Calls Tryz.prog 114 #[.pointer (some ⟨R,0,none⟩)] w fun e w'=>e= .returned (.int .u8 (bR s i:Int))∧∃m,w'=(w.setCell ⟨R,1,none⟩ (.int .i64 ((i:Int)+1))).drewN m:=by
 have HE:=qh ((jH h).mono fun e w' ⟨he,m,hm⟩=>(show e=Ending.returned (Value.bool false)∧∃m,w'=w.drewN m from⟨by rw[he,decide_eq_false (by omega)],m,hm⟩));have HN:=qh (fun W=>xn W);have HR:=qh h;have hb:=zCN s i hlt;have h1:(i:Int)<(s.size:Int):=by omega
 have h0:(0:Int)≤(i:Int):=by omega
 have h1000:(i:Int)≤1000:=by omega
 obtain⟨c,hc⟩:∃c,bR s i=c:=⟨_,rfl⟩;rw[hc] at hb ⊢;obtain⟨⟨x0,x1⟩,f0,f1⟩:=h.cells;have hlt1:=h.lt;clear h hc;go_enter Tryz.func114,Tryz.ntmps114;go_wp2_with fail
 go_fit HE.out;rintro e w1 ⟨rfl,m1,hm1⟩;have HM:=qh hm1;have HB:=qh (show RdW w1 R s i from by rw[hm1];exact HR.out.below (drewN_under w m1));clear hm1 x0 x1 f0 f1 hlt1;obtain⟨⟨x0,x1⟩,f0,f1⟩:=HB.out.cells;have hlt1:=HB.out.lt;go_wp2_with fail
 go_fit (HN.out _);rintro e w2 ⟨rfl,rfl⟩;have HX:=qh (show RdW (w2.setCell ⟨R,1,none⟩ (.int .i64 ((i:Int)+1))) R s (i+1) from HB.out.set (i+1));go_upto_region 3 with (fail)
 obtain⟨W2,hW2⟩:∃W2,w2.setCell ⟨R,1,none⟩ (.int .i64 ((i:Int)+1))=W2:=⟨_,rfl⟩;rw[hW2] at HX;(try rw[hW2]);have HW2:=qh hW2;clear hW2 x0 x1 f0 f1 hlt1;obtain⟨⟨y0,y1⟩,_⟩:=HX.out.cells;rw[show ((i+1:Nat):Int)=(i:Int)+1 by omega] at y1;have e1:(i:Int)+1-1=(i:Int):=by omega
 go_quiet (fail)
 go_wp2_with fail
 go_ret
 exact⟨rfl,m1+nq,by rw[←HW2.out,HM.out,←World.drewN_drewN];exact rfl⟩
theorem zE0 {c:Nat} {l:List Nat} (h:0<signR c) (n:Nd):zY n (c::l)=zY (.mk (signR c:Nat) noR [n]) l:=by
 simp only[zY];rw[if_pos h]
theorem zGK {l:List Nat} (h:∀c,l.head? =some c→¬0<signR c) (n:Nd):zY n l=(n,l):=by
 match l,h with
 | [],_=>rfl
 | c::t,h=>simp only[zY];rw[if_neg (h c rfl)]
theorem zAV {i:Nat}:jg s i ⟨#[42,43,63]⟩=decide (∃c,(zB s i).head? =some c∧0<signR c):=by
 unfold jg;by_cases h:i<s.size
 ·rw[Yp _ (j6 s i),decide_eq_true h,zH s i h,Bool.true_and];refine decide_eq_decide.2 ⟨fun h2=>⟨_,rfl,?_⟩,fun⟨c,hc,h2⟩=> ?_⟩
  ·by_cases e:0<signR (bR s i)
   ·exact e
   ·rw[if_neg e] at h2;omega
  ·cases hc;rw[if_pos h2];unfold signR at h2 ⊢;split
   ·decide
   split
   ·decide
   split
   ·decide
   ·rename_i e1 e2 e3;rw[if_neg e1,if_neg e2,if_neg e3] at h2;omega
 ·rw[decide_eq_false h,zf s i (by omega)];exact (decide_eq_false (fun⟨c,hc,_⟩=>by cases hc)).symm
end
def pPieceC (s:ByteArray) (R i:Nat):Prop:=∀w,RxW w R s i→Calls Tryz.prog 105 #[.pointer (some ⟨R,0,none⟩)] w fun e w'=>NdP s R w w' (vq (zB s i)) e
theorem JJ (s:ByteArray) (R i:Nat) (hi:i≤s.size) (hs:s.size≤1000) (HA:XF s R i):pPieceC s R i:=by
 intro w h;have H0:=qh (AtW.new h);have HAT:=qh HA;unfold XF at HAT;obtain⟨O,hO⟩:∃O,vq (zB s i)=O:=⟨_,rfl⟩;rw[hO];unfold vq at hO;clear h HA;rcases hq:atR (zB s i) with _ | ⟨n,r⟩
 ·rw[hq] at hO;simp only[hq] at HAT;have HE:Hid (O=none):=hO.symm;clear hq hO;go_enter Tryz.func105,Tryz.ntmps105;go_wp2_with fail
  obtain⟨W0,hW0⟩:∃W0,w.alloc (.cells #[.int .i64 0,.int .u64 0,.int .u64 0,.int .u64 0,.int .u64 0,.slice none 0 0] 116)=W0:=⟨_,rfl⟩;(try rw[hW0]);rw[hW0] at H0;clear hW0;obtain⟨B,hB⟩:∃B,w.heap.size=B:=⟨_,rfl⟩;(try rw[hB]);rw[hB] at H0;clear hB;go_fit (HAT.out _ H0.out.rx);rintro e w1 ⟨hk,rfl⟩;exact⟨rfl,jZ HE.out (H0.out.kp.trans hk)⟩
 have hlen:=yn hq;rw[rest_len] at hlen;obtain⟨j,rfl,hj,hji⟩:∃j,r=zB s j∧j≤s.size∧i<j:=⟨s.size-r.length,je s i (YJ hq),by omega,by omega⟩;rw[hq] at hO;simp only[hq] at HAT;have HSZ:=qh (za s j hj);have HO:=qh (show O=some (zY n (zB s j)) from hO.symm);clear hq hlen hO;go_enter Tryz.func105,Tryz.ntmps105;go_wp2_with fail
 obtain⟨W0,hW0⟩:∃W0,w.alloc (.cells #[.int .i64 0,.int .u64 0,.int .u64 0,.int .u64 0,.int .u64 0,.slice none 0 0] 116)=W0:=⟨_,rfl⟩;(try rw[hW0]);rw[hW0] at H0;clear hW0;obtain⟨B,hB⟩:∃B,w.heap.size=B:=⟨_,rfl⟩;(try rw[hB]);rw[hB] at H0;clear hB;go_fit (HAT.out _ H0.out.rx);rintro e w1 ⟨hk,x,rfl,hn,hr⟩;rw[HSZ.out] at hr;obtain⟨hns,u,rfl,hu⟩:=hn;obtain⟨uo,uc,rfl,_⟩:=hu.form;have HNEW:=qh (PcW.new (H0.out.move hk hr) hns (hu.mono (ok':=fun k=>B<k) fun k _ hk=>by have:=H0.out.b.lt;omega));unfold zG;clear hk hr hns hu;go_wp2_with fail
 obtain⟨W2,hW2⟩:∃W2,w1.alloc (.cells #[.int .i64 n.kind,.int .u64 (n.set.1:Int),.int .u64 (n.set.2.1:Int),.int .u64 (n.set.2.2.1:Int),.int .u64 (n.set.2.2.2:Int),.slice uo n.kids.length uc] 116)=W2:=⟨_,rfl⟩;(try rw[hW2]);rw[hW2] at HNEW;clear hW2;obtain⟨C,hC⟩:∃C,w1.heap.size=C:=⟨_,rfl⟩;(try rw[hC]);rw[hC] at HNEW;clear hC;have HST:Hid (∃k n uo un uc,k≤s.size∧PcW w W2 R s k B C n (.slice uo un uc)∧O=some (zY n (zB s k))):=⟨j,n,uo,_,uc,hj,HNEW.out,HO.out⟩;clear HNEW HO HSZ HAT;go_loopw [] (fun wr=>Hid (∃k n uo un uc,k≤s.size∧PcW w wr R s k B C n (.slice uo un uc)∧O=some (zY n (zB s k)))) (fun wr=>s.size+1-zGQ wr R)
 case atStart=>exact HST
 case round=>
  clear HST;obtain⟨k,m,uo,un,uc,hk,hP,hOk⟩:=hrel.out;have HQ:=qh hP;have HPOS:=qh hP.at_.rx.rd.pos;have HOK:=qh hOk;have hsee:=zAV (s:=s) (i:=k);clear hP hOk hrel;by_cases hsg:∃c,(zB s k).head? =some c∧0<signR c
  ·have HSE:=qh (Xr HQ.out.at_.rx.rd hk ⟨#[42,43,63]⟩ true (by rw[hsee];exact decide_eq_true hsg));obtain⟨c,hc,hcs⟩:=hsg;have hks:k<s.size:=Classical.byContradiction fun hn=>(by rw[zf s k (by omega)] at hc;cases hc);have hcc:bR s k=c:=(by rw[zH s k hks] at hc;exact Option.some.inj hc);have hc256:c<256:=(by rw[←hcc];exact j6 s k);have HO2:=qh (show O=some (zY (.mk ((signR c:Nat):Int) noR [m]) (zB s (k+1))) by rw[HOK.out,zH s k hks,hcc,zE0 hcs]);have hix:=Yp c hc256;rw[if_pos hcs] at hix;have HIX:=qh (fun W=>vZ ⟨#[42,43,63]⟩ c W);simp only[hix] at HIX;have hs4:4≤signR c∧signR c≤6:=by
    unfold signR at hcs ⊢;split
    ·decide
    split
    ·decide
    split
    ·decide
    ·rename_i e1 e2 e3;rw[if_neg e1,if_neg e2,if_neg e3] at hcs;omega
   obtain⟨K,hK⟩:∃K:Int,((signR c:Nat):Int)=K:=⟨_,rfl⟩;have hK4:4≤K:=(by omega);have hK6:K≤6:=(by omega);have eK:4+(K-4)=K:=(by omega);rw[hK] at HO2;simp only[hK] at HIX;have HNX:=qh (fun W (hr:RdW W R s k)=>zGJ hr hks hs);simp only[hcc] at HNX;clear hsee hc hcs hcc hix hs4 hK HOK;go_wp2_with fail
   go_fit HSE.out;rintro e w4 ⟨rfl,hb⟩;have HQ2:=qh (HQ.out.below hb);clear hb;have HSN:=qh (HQ2.out.both K (k+1));have wK:IntKind.i64.wrap K=K:=(by exact IntWalk.i64_in _ (by omega));unfold zS ze at HSN;rw[show ((k+1:Nat):Int)=(k:Int)+1 by omega] at HSN;simp only[show ((noR.1:Nat):Int)=0 from rfl,show ((noR.2.1:Nat):Int)=0 from rfl,show ((noR.2.2.1:Nat):Int)=0 from rfl,show ((noR.2.2.2:Nat):Int)=0 from rfl] at HSN;obtain⟨⟨c0,c1,c2,c3,c4,c5⟩,fc0,fc1,fc2,fc3,fc4,fc5⟩:=HQ2.out.box.cells;have hClt:=HQ2.out.box.lt;have hRlt:=HQ2.out.at_.rx.rd.lt;have hRC:R≠C:=(by have:=HQ2.out.at_.rl;have:=HQ2.out.lo;omega);have HR:=qh HQ2.out.at_.rx.rd;have HRA:Hid (∀o,RdW (w4.alloc o) R s k):=fun o=>HR.out.below (zA w4 o);go_wp2_with fail
   go_region_with (first | (go_at_call 114;go_fit (HNX.out _ ?_);(first | exact HR.out | exact HRA.out _);(rintro e wx ⟨rfl,mx,rfl⟩)) | (go_at_call 112;go_fit (HIX.out _);(rintro e wx ⟨rfl,rfl⟩)))
   all_goals (go_wp2_with fail;first | (have HZ:=qh (HSN.out.1 (1+mx));refine⟨⟨k+1,.mk K noR [m],_,_,_,by omega,(by with_reducible exact HZ.out),HO2.out⟩,?_⟩;rw[HPOS.out,HZ.out.at_.rx.rd.pos];omega) | (have HZ:=qh (HSN.out.2 (1+mx));refine⟨⟨k+1,.mk K noR [m],_,_,_,by omega,(by with_reducible exact HZ.out),HO2.out⟩,?_⟩;rw[HPOS.out,HZ.out.at_.rx.rd.pos];omega))
  ·have HSE:=qh (Xr HQ.out.at_.rx.rd hk ⟨#[42,43,63]⟩ false (by rw[hsee];exact decide_eq_false hsg));have HE:=qh (show O=some (m,zB s k) by rw[HOK.out,zGK (fun c hc h=>hsg ⟨c,hc,h⟩)]);have HSZ:=qh (za s k hk);clear hsg hsee HOK;go_wp2_with fail
   go_fit HSE.out;rintro e w4 ⟨rfl,hb⟩;have HQ2:=qh (HQ.out.below hb);clear hb;obtain⟨⟨c0,c1,c2,c3,c4,c5⟩,_⟩:=HQ2.out.box.cells;obtain⟨⟨b0,b1,b2,b3,b4,b5⟩,g0,g1,g2,g3,g4,g5⟩:=HQ2.out.at_.b.cells;have hBlt:=HQ2.out.at_.b.lt;have hF:=HQ2.out.at_.fin m (.slice uo un uc) HQ2.out.ok (HQ2.out.kids.mono fun k _ hk=>hk.1);have HKP:=qh (And.intro hF.1 (And.intro hF.2.1 hF.2.2.2));obtain⟨⟨y0,y1,y2,y3,y4,y5⟩,_⟩:=hF.2.2.1.cells;unfold zS ze at y0 y1 y2 y3 y4 y5 HKP;have Y0:=qh y0;have Y1:=qh y1;have Y2:=qh y2;have Y3:=qh y3;have Y4:=qh y4;have Y5:=qh y5;clear hF y0 y1 y2 y3 y4 y5;go_wp2_with fail
   have y0:=Y0.out;have y1:=Y1.out;have y2:=Y2.out;have y3:=Y3.out;have y4:=Y4.out;have y5:=Y5.out;exact bodyPost_ret (v:=zG m (.slice uo un uc)) (by simp[results,Tryz.results105,go_sem,zG,y0,y1,y2,y3,y4,y5]) rfl (j3 HE.out HSZ.out HKP.out.1 HKP.out.2.1 HKP.out.2.2)
theorem Tryz.infoNode:(Tryz.prog.info? 116).map (fun i=>(i.zero.map fun z=>z.cells.size,i.size,i.bytes))=some (some 6,6,64):=by kernel_rfl
theorem zIV:∃i z,Tryz.prog.info? 116=some i∧i.zero=some z∧z.cells.size=6∧i.size=6∧i.bytes=64:=by
 have h:=Tryz.infoNode;obtain⟨i,hi⟩:∃i,Tryz.prog.info? 116=some i:=by
  rcases hx:Tryz.prog.info? 116 with _ | i
  ·rw[hx] at h;cases h
  ·exact⟨i,rfl⟩
 rw[hi] at h;simp only[Option.map_some,Option.some.injEq,Prod.mk.injEq] at h;obtain⟨h1,h2,h3⟩:=h;rcases hz:i.zero with _ | z
 ·rw[hz] at h1;cases h1
 ·rw[hz] at h1;simp only[Option.map_some,Option.some.injEq] at h1;exact⟨i,z,hi,hz,h1,h2,h3⟩
structure RoW (w0 w:World) (R:Nat) (s:ByteArray) (k B:Nat) (v:Value) (l:List Nd):Prop where
 at_:AtW w0 w R s k B
 out:Je 116 (B+1) w v l
section
variable {w0 w w':World} {R:Nat} {s:ByteArray} {j k B:Nat} {v u:Value} {l:List Nd} {n:Nd}
theorem RoW.move (h:RoW w0 w R s k B v l) (hk:KeepW (fun k=>k≠R) w w') (hr:RdW w' R s j):RoW w0 w' R s j B v l:=
 have h1:=h.at_.rl
 ⟨h.at_.move hk hr,h.out.keep hk fun k hk=>by omega⟩
theorem RoW.under (h:RoW w0 w R s k B v l) (hb:Below w.heap.size w w'):RoW w0 w' R s k B v l:=h.move (keep_below _ hb) (h.at_.rx.rd.below hb)
theorem RoW.push {X m:Nat} (h:RoW w0 w R s k B v l) (t ty:TypeId) (ht:Tryz.prog.underlying t=some (.slice 116)) (hX:∀(j:Nat) x,(nodeC n u)[j]? =some x→w.cell? ⟨X,j,none⟩=some x) (hs:OkR n.set) (hu:xR (fun k=>m≤k) w n.kids u)
  (ho:∀k,k<w.heap.size→m≤k→B+1≤k∧v.ownBlock≠some k) (hl:l.length≤100000):
  ∃v' w1,(Builtin.append_ #[t,t] ty #[v,.slice (some ⟨X,0,none⟩) 1 1]).run Tryz.prog w= .ok v' w1∧RoW w0 w1 R s k B v' (l++ [n]):=by
 obtain⟨i0,z,hi,hz0,hzl,hz1,hz2⟩:=zIV;have hBl:=h.at_.b.lt;have hrl:=h.at_.rl;have hgl:=h.at_.gl;have hge:=h.at_.ge;have hown:∀k,v.ownBlock=some k→B+1≤k:=fun k e=>(h.out.lt k e).1;obtain⟨v',w1,hr,hO,hk⟩:=zE6 t ty i0 z ht hi hz0 hzl hz1 hz2 h.out hX hs hu ho hBl hl;have hno:∀k,k≤B→v.ownBlock≠some k:=fun k hk e=>by have:=hown k e;omega
 exact⟨v',w1,hr,⟨h.at_.rx.keep hk (hno R (by omega)) (hno _ (by omega)),h.at_.b.keep hk (hno B (by omega)),qj h.at_.kp hk fun k hk _=>hno k (by omega),hge,hrl,hgl⟩,hO⟩
end
theorem RoW.nil {w0 w:World} {R:Nat} {s:ByteArray} {k B:Nat} (h:AtW w0 w R s k B):RoW w0 w R s k B (.slice none 0 0) []:=⟨h,Je.nil _ _ _⟩
def JK (l:List Nat):Prop:=l= []∨l.head? =some 41∨l.head? =some 124
theorem zGL (l:List Nat) (h:¬JK l) (all row:List Nd):rwR l all row=match vq l with
  | none=>none
  | some (n,q)=>rwR q all (row++ [n]):=by
 rw[Jt,if_neg (fun e=>h (by rcases e with e | e;exact .inl e;exact .inr (.inl e))),if_neg (fun e=>h (.inr (.inr e)))];unfold vq;rcases atR l with _ | ⟨n,r⟩<;>rfl
theorem YF {s:ByteArray} {i:Nat} {n:Nd} {q:List Nat} (h:vq (zB s i)=some (n,q)):∃j,i<j∧j≤s.size∧q=zB s j:=by
 unfold vq at h;rcases ha:atR (zB s i) with _ | ⟨m,r⟩
 ·rw[ha] at h;cases h
 rw[ha] at h;have h1:=yn ha;obtain⟨k1,hk1⟩:=YJ ha;obtain⟨k2,hk2⟩:=vh r m;have h2:=qE r m;rw[rest_len] at h1;have hq:q=(zY m r).2:=by
  exact (congrArg Prod.snd (Option.some.inj h)).symm
 refine⟨s.size-q.length,?_,by omega,je s i ⟨k1+k2,?_⟩⟩
 ·rw[hq];omega
 ·rw[hq,hk2,hk1,List.drop_drop]
theorem zE1 {s:ByteArray}:JK (zB s s.size):= .inl (zf s _ (Nat.le_refl _))
theorem zAW {s:ByteArray} {k:Nat} (h:jg s k ⟨#[124,41]⟩=true):JK (zB s k):=by
 unfold jg at h;rw[Yq _ (j6 s k),Bool.and_eq_true] at h;have hk:=of_decide_eq_true h.1;rw[zH s k hk];rcases of_decide_eq_true h.2 with e | e
 ·exact .inr (.inr (by rw[e];rfl))
 ·exact .inr (.inl (by rw[e];rfl))
theorem zE2 {s:ByteArray} {k:Nat} (hk:k<s.size) (h:jg s k ⟨#[124,41]⟩=false):¬JK (zB s k):=by
 unfold jg at h;rw[Yq _ (j6 s k),decide_eq_true hk,Bool.true_and] at h;have hn:=of_decide_eq_false h;rw[zH s k hk];rintro (e | e | e)
 ·cases e
 ·exact hn (.inr (Option.some.inj e))
 ·exact hn (.inl (Option.some.inj e))
def RowP (s:ByteArray) (R i:Nat) (w w':World) (e:Ending):Prop:=
 KeepW (fun k=>k≠R) w w' ∧
  ((∃ps j x,e= .returned x∧ve (fun k=>w.heap.size≤k) w' (zl 2 ps) x∧RdW w' R s j∧i≤j∧j≤s.size∧JK (zB s j)∧∀all,rwR (zB s i) all []=rwR (zB s j) all ps) ∨
  (e=Xq∧∀all,rwR (zB s i) all []=none))
def zGM (s:ByteArray) (R i:Nat):Prop:=∀w,RxW w R s i→Calls Tryz.prog 96 #[.pointer (some ⟨R,0,none⟩)] w fun e w'=>RowP s R i w w' e
theorem zAX (s:ByteArray) (R i:Nat) (hi:i≤s.size) (hs:s.size≤1000) (HP:∀k,i≤k→k<s.size→pPieceC s R k):zGM s R i:=by
 intro w h;have H0:=qh (AtW.new h);have HPC:=qh HP;unfold pPieceC at HPC;clear h HP;go_enter Tryz.func96,Tryz.ntmps96;go_wp2_with fail
 obtain⟨W0,hW0⟩:∃W0,w.alloc (.cells #[.int .i64 0,.int .u64 0,.int .u64 0,.int .u64 0,.int .u64 0,.slice none 0 0] 116)=W0:=⟨_,rfl⟩;(try rw[hW0]);rw[hW0] at H0;clear hW0;obtain⟨B,hB⟩:∃B,w.heap.size=B:=⟨_,rfl⟩;(try rw[hB]);rw[hB] at H0;clear hB;have HST:Hid (∃k ps v,v=Value.slice none 0 0∧i≤k∧k≤s.size∧ps.length≤k∧RoW w W0 R s k B v ps∧∀all,rwR (zB s i) all []=rwR (zB s k) all ps):=⟨i,[],_,rfl,Nat.le_refl _,hi,Nat.zero_le _,RoW.nil H0.out,fun _=>rfl⟩;clear H0;go_loopw [3] (fun s3 wr=>Hid (∃k ps v,v=s3∧i≤k∧k≤s.size∧ps.length≤k∧RoW w wr R s k B v ps∧∀all,rwR (zB s i) all []=rwR (zB s k) all ps)) (fun _ wr=>s.size+1-zGQ wr R)
 case atStart=>exact HST
 case round=>
  clear HST;obtain⟨k,ps,v,hv,hik,hk,hlen,hQ,hG⟩:=hrel.out;subst hv;have HQ:=qh hQ;have HG:=qh hG;have HPOS:=qh hQ.at_.rx.rd.pos;clear hQ hG hrel;by_cases hend:k=s.size
  ·have HE1:=qh (yB HQ.out.at_.rx.rd true (decide_eq_true hend));have HS:Hid (JK (zB s k)):=(by rw[hend];exact zE1);clear hend;go_wp2_with fail
   go_fit HE1.out;rintro e w4 ⟨rfl,hb⟩;have H4:=qh (HQ.out.under hb);clear hb;have HJ:=qh (YH (ok:=fun k=>B<k) 2 (ps) v _ (H4.out.out.kids (by omega) |>.mono (fun k _ hk=>hk)) (by omega));go_wp2_with fail
   go_fit HJ.out;rintro e w8 ⟨x,rfl,⟨hns,u,rfl,hu⟩,hb⟩;obtain⟨uo,uc,rfl,_⟩:=hu.form;have HA:=qh ((H4.out.at_).below hb);have HNS:=qh hns;have HKI:=qh hu;obtain⟨J,hJ⟩:∃J,zl 2 (ps)=J:=⟨_,rfl⟩;rw[hJ] at HNS HKI;simp only[hJ] at hu ⊢;have HJJ:=qh hJ;clear hu hns hb hJ;unfold zG;obtain⟨⟨b0,b1,b2,b3,b4,b5⟩,g0,g1,g2,g3,g4,g5⟩:=HA.out.b.cells;have hBlt:=HA.out.b.lt;have hF:=HA.out.fin J (.slice uo J.kids.length uc) HNS.out HKI.out;have HKP:=qh (And.intro hF.1 (And.intro hF.2.1 hF.2.2.2));obtain⟨⟨y0,y1,y2,y3,y4,y5⟩,_⟩:=hF.2.2.1.cells;unfold zS ze at y0 y1 y2 y3 y4 y5 HKP;have Y0:=qh y0;have Y1:=qh y1;have Y2:=qh y2;have Y3:=qh y3;have Y4:=qh y4;have Y5:=qh y5;clear hF y0 y1 y2 y3 y4 y5;go_wp2_with fail
   have y0:=Y0.out;have y1:=Y1.out;have y2:=Y2.out;have y3:=Y3.out;have y4:=Y4.out;have y5:=Y5.out;exact bodyPost_ret (v:=zG J (.slice uo J.kids.length uc)) (by simp[results,Tryz.results96,go_sem,zG,y0,y1,y2,y3,y4,y5]) rfl (⟨HKP.out.1,.inl ⟨ps,k,_,rfl,by rw[HJJ.out];exact HKP.out.2.2,HKP.out.2.1,hik,hk,HS.out,HG.out⟩⟩)
  ·have HE1:=qh (yB HQ.out.at_.rx.rd false (decide_eq_false hend));have HSE:=qh (fun W (hr:RdW W R s k) v hv=>Xr hr hk ⟨#[124,41]⟩ v hv);rcases hsee:jg s k ⟨#[124,41]⟩ with _ | _
   ·have HSE2:=qh (fun W hr=>HSE.out W hr false hsee);have hst:=zE2 (by omega) hsee;have hstep:=zGL (zB s k) hst;have HPK:=qh (HPC.out k hik (by omega));clear hsee HSE hst;rcases hp:vq (zB s k) with _ | ⟨n,q⟩
    ·simp only[hp] at HPK hstep;have HE:Hid (∀all,rwR (zB s i) all []=none):=fun all=>(by rw[HG.out all,hstep]);clear hp hstep hend;go_wp2_with fail
     go_fit HE1.out;rintro e w3 ⟨rfl,hb⟩;have H3:=qh (HQ.out.under hb);clear hb;go_wp2_with fail
     go_fit (HSE2.out _ H3.out.at_.rx.rd);rintro e w4 ⟨rfl,hb⟩;have H4:=qh (H3.out.under hb);clear hb;go_wp2_with fail
     go_fit (HPK.out _ H4.out.at_.rx);rintro e w5 ⟨hk5,rfl⟩;exact⟨rfl,H4.out.at_.kp.trans hk5,.inr ⟨rfl,HE.out⟩⟩
    ·obtain⟨j,hkj,hj,rfl⟩:=YF hp;simp only[hp] at HPK hstep;have HG2:Hid (∀all,rwR (zB s i) all []=rwR (zB s j) all (ps++ [n])):=fun all=>(by rw[HG.out all,hstep]);have HSZ:=qh (za s j hj);clear hp hstep hend;go_wp2_with fail
     go_fit HE1.out;rintro e w2 ⟨rfl,hb⟩;have H2:=qh (HQ.out.under hb);clear hb;go_wp2_with fail
     go_fit (HSE2.out _ H2.out.at_.rx.rd);rintro e w3 ⟨rfl,hb⟩;have H3:=qh (H2.out.under hb);clear hb;go_wp2_with fail
     go_fit (HPK.out _ H3.out.at_.rx);rintro e w4 ⟨hk4,x,rfl,⟨hns,u,rfl,hu⟩,hr4⟩;rw[HSZ.out] at hr4;obtain⟨uo,uc,rfl,_⟩:=hu.form;have H4:=qh (H3.out.move hk4 hr4);have HNS:=qh hns;have HU:=qh hu;have HOW:Hid (∀k,w3.heap.size≤k→B+1≤k∧v.ownBlock≠some k):=fun k hk=>⟨by have:=H3.out.at_.b.lt;omega,fun e=>by have:=(H3.out.out.lt k e).2;omega⟩;clear hk4 hr4 hns hu;have hcr:=xr (n:=n) (boxN.new 116 w4 n.kind n.set (.slice uo n.kids.length uc));have hb5:=zA w4 (.cells #[.int .i64 n.kind,.int .u64 (n.set.1:Int),.int .u64 (n.set.2.1:Int),.int .u64 (n.set.2.2.1:Int),.int .u64 (n.set.2.2.2:Int),.slice uo n.kids.length uc] 116);obtain⟨v7,w8,hr,hW8⟩:=(H4.out.under hb5).push 111 111 Tryz.underlying111 hcr HNS.out (HU.out.under hb5) (fun k _ hk=>HOW.out k hk) (by omega);have HW8:=qh hW8;clear hcr hb5 hW8;unfold zG;go_wp2_with (at_builtin;refine qB (by rfl) _ _ 111 (by rfl) (by rfl) (by rfl) hr ?_)
     clear hr;go_roundw
     case rel=>exact⟨j,ps++ [n],_,rfl,by omega,hj,by rw[List.length_append,List.length_singleton];omega,HW8.out,HG2.out⟩
     case measure=>(rw[HPOS.out,HW8.out.at_.rx.rd.pos];omega)
   ·have HSE2:=qh (fun W hr=>HSE.out W hr true hsee);have HS:=qh (zAW hsee);clear hsee HSE hend;go_wp2_with fail
    go_fit HE1.out;rintro e w3 ⟨rfl,hb⟩;have H3:=qh (HQ.out.under hb);clear hb;go_wp2_with fail
    go_fit (HSE2.out _ H3.out.at_.rx.rd);rintro e w4 ⟨rfl,hb⟩;have H4:=qh (H3.out.under hb);clear hb;have HJ:=qh (YH (ok:=fun k=>B<k) 2 (ps) v _ (H4.out.out.kids (by omega) |>.mono (fun k _ hk=>hk)) (by omega));go_wp2_with fail
    go_fit HJ.out;rintro e w8 ⟨x,rfl,⟨hns,u,rfl,hu⟩,hb⟩;obtain⟨uo,uc,rfl,_⟩:=hu.form;have HA:=qh ((H4.out.at_).below hb);have HNS:=qh hns;have HKI:=qh hu;obtain⟨J,hJ⟩:∃J,zl 2 (ps)=J:=⟨_,rfl⟩;rw[hJ] at HNS HKI;simp only[hJ] at hu ⊢;have HJJ:=qh hJ;clear hu hns hb hJ;unfold zG;obtain⟨⟨b0,b1,b2,b3,b4,b5⟩,g0,g1,g2,g3,g4,g5⟩:=HA.out.b.cells;have hBlt:=HA.out.b.lt;have hF:=HA.out.fin J (.slice uo J.kids.length uc) HNS.out HKI.out;have HKP:=qh (And.intro hF.1 (And.intro hF.2.1 hF.2.2.2));obtain⟨⟨y0,y1,y2,y3,y4,y5⟩,_⟩:=hF.2.2.1.cells;unfold zS ze at y0 y1 y2 y3 y4 y5 HKP;have Y0:=qh y0;have Y1:=qh y1;have Y2:=qh y2;have Y3:=qh y3;have Y4:=qh y4;have Y5:=qh y5;clear hF y0 y1 y2 y3 y4 y5;go_wp2_with fail
    have y0:=Y0.out;have y1:=Y1.out;have y2:=Y2.out;have y3:=Y3.out;have y4:=Y4.out;have y5:=Y5.out;exact bodyPost_ret (v:=zG J (.slice uo J.kids.length uc)) (by simp[results,Tryz.results96,go_sem,zG,y0,y1,y2,y3,y4,y5]) rfl (⟨HKP.out.1,.inl ⟨ps,k,_,rfl,by rw[HJJ.out];exact HKP.out.2.2,HKP.out.2.1,hik,hk,HS.out,HG.out⟩⟩)
theorem Je.one {N:Nat} {w:World} {n:Nd} {u:Value} (hN:N≤w.heap.size) (hs:OkR n.set) (hu:xR (fun k=>N≤k) w n.kids u):Je 116 N (w.alloc (.cells #[.int .i64 n.kind,.int .u64 (n.set.1:Int),.int .u64 (n.set.2.1:Int),.int .u64 (n.set.2.2.1:Int),.int .u64 (n.set.2.2.2:Int),u] 116)) (.slice (some ⟨w.heap.size,0,none⟩) 1 1) [n]:=by
 have e:xh [n] [u]=nodeC n u:=by show nodeC n u++ []=_;rw[List.append_nil]
 refine⟨[u],rfl,⟨by rw[e];rfl,.inr ⟨w.heap.size,1,_,rfl,hN,heap_alloc_new _ _,Nat.le_refl _,by decide,rfl,by rw[e];rfl⟩⟩,fun i m x hm hx=> ?_⟩;have e0:i=0:=by
  have:=(List.getElem?_eq_some_iff.1 hm).1
  simpa using this
 subst e0;cases hm;cases hx;exact⟨hs,zW.mono ((hu.mono (ok':=fun k=>N≤k∧k≠w.heap.size) fun k hk h=>⟨h,by omega⟩).under (zA w (.cells #[.int .i64 n.kind,.int .u64 (n.set.1:Int),.int .u64 (n.set.2.1:Int),.int .u64 (n.set.2.2.1:Int),.int .u64 (n.set.2.2.2:Int),u] 116))) fun k _ hp=>⟨⟨hp.1.1,hp.2⟩,fun e=>hp.1.2 (Option.some.inj e).symm⟩⟩
theorem VB (s:ByteArray) (R i:Nat) (hi:i≤s.size) (hs:s.size≤1000) (HP:∀k,i≤k→k≤s.size→zGM s R k):XE s R i:=by
 intro w h;have H0:=qh (AtW.new h);have HPC:=qh HP;unfold zGM at HPC;have HP0:=qh (HPC.out i (Nat.le_refl _) hi);clear h HP;go_enter Tryz.func90,Tryz.ntmps90;go_wp2_with fail
 obtain⟨W0,hW0⟩:∃W0,w.alloc (.cells #[.int .i64 0,.int .u64 0,.int .u64 0,.int .u64 0,.int .u64 0,.slice none 0 0] 116)=W0:=⟨_,rfl⟩;(try rw[hW0]);rw[hW0] at H0;clear hW0;obtain⟨B,hB⟩:∃B,w.heap.size=B:=⟨_,rfl⟩;(try rw[hB]);rw[hB] at H0;clear hB;go_fit (HP0.out _ H0.out.rx);rintro e w4 ⟨hk4,⟨ps,j,x,rfl,⟨hns,u,rfl,hu⟩,hr4,hij,hj,hst,hG⟩ | ⟨rfl,hN⟩⟩;case inr=>
  exact⟨rfl,jZ (hN []) (H0.out.kp.trans hk4)⟩
 obtain⟨uo,uc,rfl,_⟩:=hu.form;have H4:=qh (H0.out.move hk4 hr4);have HO:=qh (Je.one (N:=B+1) (n:=zl 2 ps) (u:= .slice uo (zl 2 ps).kids.length uc) H4.out.b.lt hns (hu.mono fun k _ hk=>by have:=H0.out.b.lt;omega));have H5:=qh (H4.out.below (zA w4 (.cells #[.int .i64 (zl 2 ps).kind,.int .u64 ((zl 2 ps).set.1:Int),.int .u64 ((zl 2 ps).set.2.1:Int),.int .u64 ((zl 2 ps).set.2.2.1:Int),.int .u64 ((zl 2 ps).set.2.2.2:Int),.slice uo (zl 2 ps).kids.length uc] 116)));have HG:=qh (And.intro hst (hG []));clear hk4 hr4 hns hu hst hG H0 H4 HP0;unfold zG;go_wp2_with fail
 obtain⟨W6,hW6⟩:∃W6,w4.alloc (.cells #[.int .i64 (zl 2 ps).kind,.int .u64 ((zl 2 ps).set.1:Int),.int .u64 ((zl 2 ps).set.2.1:Int),.int .u64 ((zl 2 ps).set.2.2.1:Int),.int .u64 ((zl 2 ps).set.2.2.2:Int),.slice uo (zl 2 ps).kids.length uc] 116)=W6:=⟨_,rfl⟩;(try rw[hW6]);rw[hW6] at HO H5;clear hW6;have HST:Hid (∃k all ps v,v=Value.slice (some ⟨w4.heap.size,0,none⟩) 1 1∧i≤k∧k≤s.size∧all.length≤k∧RoW w W6 R s k B v (all++ [zl 2 ps])∧JK (zB s k)∧rwR (zB s i) [] []=rwR (zB s k) all ps):=⟨j,[],ps,_,rfl,hij,hj,Nat.zero_le _,⟨H5.out,HO.out⟩,HG.out.1,HG.out.2⟩;clear HO H5 HG;go_loopw [3] (fun s3 wr=>Hid (∃k all ps v,v=s3∧i≤k∧k≤s.size∧all.length≤k∧RoW w wr R s k B v (all++ [zl 2 ps])∧JK (zB s k)∧rwR (zB s i) [] []=rwR (zB s k) all ps)) (fun _ wr=>s.size+1-zGQ wr R)
 case atStart=>exact HST
 case round=>
  clear HST;obtain⟨k,all,qs,v,hv,hik,hk,hlen,hQ,hst,hG⟩:=hrel.out;subst hv;have HQ:=qh hQ;have HPOS:=qh hQ.at_.rx.rd.pos;clear hQ hrel;by_cases h124:(zB s k).head? =some 124
  ·have hks:k<s.size:=Classical.byContradiction fun hn=>(by rw[zf s k (by omega)] at h124;cases h124);have HT:=qh (xy HQ.out.at_.rx.rd hs 124 h124);have HG2:=qh (show rwR (zB s i) [] []=rwR (zB s (k+1)) (all++ [zl 2 qs]) [] by
    rw[hG,Jt,if_neg (fun e=>by rcases e with e | e;(rw[e] at h124;cases h124);(rw[e] at h124;exact absurd (Option.some.inj h124) (by decide))),if_pos h124,zK])
   have HPK:=qh (HPC.out (k+1) (by omega) (by omega));clear h124 hst hG;go_wp2_with fail
   go_fit HT.out;rintro e w2 ⟨rfl,hr2,hk2⟩;have H3:=qh (HQ.out.move hk2 hr2);clear hr2 hk2;go_wp2_with fail
   go_fit (HPK.out _ H3.out.at_.rx);rintro e w4 ⟨hk4,⟨ps,j,x,rfl,⟨hns,u,rfl,hu⟩,hr4,hij,hj,hst,hG⟩ | ⟨rfl,hN⟩⟩;case inr=>
    exact⟨rfl,jZ (HG2.out.trans (hN _)) (H3.out.at_.kp.trans hk4)⟩
   obtain⟨uo,uc,rfl,_⟩:=hu.form;have H4:=qh (H3.out.move hk4 hr4);have HNS:=qh hns;have HU:=qh hu;have HG3:=qh (And.intro hst (HG2.out.trans (hG _)));have HOW:Hid (∀k,w2.heap.size≤k→B+1≤k∧v.ownBlock≠some k):=fun k hk=>⟨by have:=H3.out.at_.b.lt;omega,fun e=>by have:=(H3.out.out.lt k e).2;omega⟩;have HLL:(all++ [zl 2 qs]).length≤k+1:=(by rw[List.length_append,List.length_singleton];omega);clear hk4 hr4 hns hu hst hG HG2;obtain⟨n,hn⟩:∃n,zl 2 ps=n:=⟨_,rfl⟩;rw[hn] at HNS HU;simp only[hn];have HNN:=qh hn;clear hn;have hcr:=xr (n:=n) (boxN.new 116 w4 n.kind n.set (.slice uo n.kids.length uc));have hb5:=zA w4 (.cells #[.int .i64 n.kind,.int .u64 (n.set.1:Int),.int .u64 (n.set.2.1:Int),.int .u64 (n.set.2.2.1:Int),.int .u64 (n.set.2.2.2:Int),.slice uo n.kids.length uc] 116);obtain⟨v7,w8,hr,hW8⟩:=(H4.out.under hb5).push 111 111 Tryz.underlying111 hcr HNS.out (HU.out.under hb5) (fun k _ hk=>HOW.out k hk) (by omega);have HW8:=qh hW8;clear hcr hb5 hW8;unfold zG;go_wp2_with (at_builtin;refine qB (by rfl) _ _ 111 (by rfl) (by rfl) (by rfl) hr ?_)
   clear hr;go_roundw
   case rel=>exact⟨j,all++ [zl 2 qs],ps,_,rfl,by omega,hj,by omega,by rw[HNN.out];exact HW8.out,HG3.out.1,HG3.out.2⟩
   case measure=>(rw[HPOS.out,HW8.out.at_.rx.rd.pos];omega)
  ·have HT:=qh (qc HQ.out.at_.rx.rd hk 124 h124);have HE:=qh (show rwR (zB s i) [] []=some (zl 3 (all++ [zl 2 qs]),zB s k) by
    rw[hG,Jt,if_pos (by rcases hst with e | e | e;exact .inl e;exact .inr e;exact absurd e h124)])
   have HSZ:=qh (za s k hk);have HLL:(all++ [zl 2 qs]).length≤k+1:=(by rw[List.length_append,List.length_singleton];omega);clear h124 hst hG;obtain⟨L,hL⟩:∃L,all++ [zl 2 qs]=L:=⟨_,rfl⟩;rw[hL] at HQ HE HLL;clear hL;go_wp2_with fail
   go_fit HT.out;rintro e w4 ⟨rfl,_,hb⟩;have H4:=qh (HQ.out.under hb);clear hb;have HJ:=qh (YH (ok:=fun k=>B<k) 3 (L) v _ (H4.out.out.kids (by omega) |>.mono (fun k _ hk=>hk)) (by omega));go_wp2_with fail
   go_fit HJ.out;rintro e w8 ⟨x,rfl,⟨hns,u,rfl,hu⟩,hb⟩;obtain⟨uo,uc,rfl,_⟩:=hu.form;have HA:=qh ((H4.out.at_).below hb);have HNS:=qh hns;have HKI:=qh hu;obtain⟨J,hJ⟩:∃J,zl 3 (L)=J:=⟨_,rfl⟩;rw[hJ] at HNS HKI;simp only[hJ] at hu ⊢;have HJJ:=qh hJ;clear hu hns hb hJ;unfold zG;obtain⟨⟨b0,b1,b2,b3,b4,b5⟩,g0,g1,g2,g3,g4,g5⟩:=HA.out.b.cells;have hBlt:=HA.out.b.lt;have hF:=HA.out.fin J (.slice uo J.kids.length uc) HNS.out HKI.out;have HKP:=qh (And.intro hF.1 (And.intro hF.2.1 hF.2.2.2));obtain⟨⟨y0,y1,y2,y3,y4,y5⟩,_⟩:=hF.2.2.1.cells;unfold zS ze at y0 y1 y2 y3 y4 y5 HKP;have Y0:=qh y0;have Y1:=qh y1;have Y2:=qh y2;have Y3:=qh y3;have Y4:=qh y4;have Y5:=qh y5;clear hF y0 y1 y2 y3 y4 y5;go_wp2_with fail
   have y0:=Y0.out;have y1:=Y1.out;have y2:=Y2.out;have y3:=Y3.out;have y4:=Y4.out;have y5:=Y5.out;exact bodyPost_ret (v:=zG J (.slice uo J.kids.length uc)) (by simp[results,Tryz.results90,go_sem,zG,y0,y1,y2,y3,y4,y5]) rfl (j3 (by rw[HE.out,HJJ.out]) HSZ.out HKP.out.1 HKP.out.2.1 HKP.out.2.2)
theorem zJ4 (s:ByteArray) (R:Nat) (hs:s.size≤1000):∀(N i:Nat),i≤s.size→s.size-i≤N→(∀j,i≤j→j≤s.size→XF s R j)∧XE s R i
 | 0,i,hi,hN=>by
  have hA:∀j,i≤j→j≤s.size→XF s R j:=fun j hij hj=>VH s R j hj hs fun h=>by omega
  have hP:∀j,i≤j→j<s.size→pPieceC s R j:=fun j hij hj=>JJ s R j (by omega) hs (hA j hij (by omega));exact⟨hA,VB s R i hi hs fun k hk hks=>zAX s R k hks hs fun j hj hjs=>hP j (by omega) hjs⟩
 | N+1,i,hi,hN=>by
  have hA:∀j,i≤j→j≤s.size→XF s R j:=fun j hij hj=>VH s R j hj hs fun h=>(zJ4 s R hs N (j+1) (by omega) (by omega)).2;have hP:∀j,i≤j→j<s.size→pPieceC s R j:=fun j hij hj=>JJ s R j (by omega) hs (hA j hij (by omega));exact⟨hA,VB s R i hi hs fun k hk hks=>zAX s R k hks hs fun j hj hjs=>hP j (by omega) hjs⟩
theorem zAY (s:ByteArray) (R:Nat) (hs:s.size≤1000):XE s R 0:=(zJ4 s R hs _ 0 (Nat.zero_le _) (Nat.le_refl _)).2
def WhP (o:Option Nd) (w w':World) (e:Ending):Prop:=
 Below w.heap.size w w'∧match o with
 | some n=>∃x,e= .returned x∧ve (fun k=>w.heap.size≤k) w' n x
 | none=>e=Xq
theorem Xy {n R:Nat} {a b:World} (h:KeepW (fun k=>k≠R) a b) (hn:n≤a.heap.size) (hR:n≤R):Below n a b:=⟨h.os,h.tape,h.output,h.size,fun k hk=>h.same k (by omega) (by omega)⟩
theorem Vs (s:ByteArray) (w:World) (hs:s.size≤1000) (he:XG w):
  Calls Tryz.prog 83 #[.string s] w fun e w'=>WhP (yl (xM s)) w w' e:=by
 have hb1:=zA w (.cells #[.int .i64 0,.int .u64 0,.int .u64 0,.int .u64 0,.int .u64 0,.slice none 0 0] 116);have hc1:=boxN.new 116 w 0 noR (.slice none 0 0);have hz1:=zC w (.cells #[.int .i64 0,.int .u64 0,.int .u64 0,.int .u64 0,.int .u64 0,.slice none 0 0] 116);obtain⟨W0,hW0⟩:∃W0,w.alloc (.cells #[.int .i64 0,.int .u64 0,.int .u64 0,.int .u64 0,.int .u64 0,.slice none 0 0] 116)=W0:=⟨_,rfl⟩;have hc1':boxN 116 W0 w.heap.size 0 noR (.slice none 0 0):=by rw[←hW0];exact hc1
 rw[hW0] at hb1 hz1;have hb2:=zA W0 (.cells #[.string s,.int .i64 0] 169);have hr2:RdW (W0.alloc (.cells #[.string s,.int .i64 0] 169)) W0.heap.size s 0:=heap_alloc_new _ _;obtain⟨ev,hev,_⟩:=id he;have hg:=rlt hev
 have HB1:=qh (show RxW (W0.alloc (.cells #[.string s,.int .i64 0] 169)) (w.heap.size+1) s 0∧boxN 116 (W0.alloc (.cells #[.string s,.int .i64 0] 169)) w.heap.size 0 noR (.slice none 0 0)∧Below w.heap.size w (W0.alloc (.cells #[.string s,.int .i64 0] 169))∧(W0.alloc (.cells #[.string s,.int .i64 0] 169)).heap.size=w.heap.size+2 from
  ⟨⟨by rw[←hz1];exact hr2,(he.below hb1).below hb2,by intro e;rw[←e] at hg;simp only at hg;omega⟩,hc1'.below hb2,hb1.trans (hb2.mono (by omega)),by rw[zC];omega⟩)
 rw[←hW0] at HB1;clear hb1 hc1 hz1 hc1' hb2 hr2 hW0 hg hev;have HRU:=qh (fun R=>zAY s R hs);unfold XE at HRU;obtain⟨O,hO⟩:∃O,yl (xM s)=O:=⟨_,rfl⟩;have hpe:=kX (xM s);rw[hO] at hpe ⊢;rw[ZN s] at HRU;clear hO he;rcases hq:rwR (xM s) [] [] with _ | ⟨n,r⟩
 ·simp only[hq] at HRU hpe;have HE:=qh hpe;clear hq hpe;go_enter Tryz.func83,Tryz.ntmps83;go_wp2_with fail
  obtain⟨W1,hW1⟩:∃W1,(w.alloc (.cells #[.int .i64 0,.int .u64 0,.int .u64 0,.int .u64 0,.int .u64 0,.slice none 0 0] 116)).alloc (.cells #[.string s,.int .i64 0] 169)=W1:=⟨_,rfl⟩;(try rw[hW1]);rw[hW1] at HB1;clear hW1;obtain⟨B,hB⟩:∃B,w.heap.size=B:=⟨_,rfl⟩;(try rw[hB]);rw[hB] at HB1;have HBS:=qh hB;clear hB;go_fit (HRU.out _ _ HB1.out.1);rintro e w2 ⟨hk,rfl⟩;exact⟨rfl,by rw[HE.out];exact⟨by rw[HBS.out];exact HB1.out.2.2.1.trans (Xy hk (by have:=HB1.out.2.2.2;omega) (by omega)),rfl⟩⟩
 have hlen:=ZI hq;rw[xU] at hlen;obtain⟨j,rfl,hj⟩:∃j,r=zB s j∧j≤s.size:=⟨s.size-r.length,je s 0 (by rw[ZN];exact YI hq),by omega⟩;have HSZ:=qh (za s j hj);simp only[hq] at HRU hpe;by_cases hend:j=s.size
 ·have HE:Hid (O=some n):=by rw[hpe,hend,zf s _ (Nat.le_refl _)];exact rfl
  have HYES:=qh (fun W=>xn W);have HEN:=qh (fun W R (hr:RdW W R s j)=>yB hr true (decide_eq_true hend));clear hq hpe hlen hend;go_enter Tryz.func83,Tryz.ntmps83;go_wp2_with fail
  obtain⟨W1,hW1⟩:∃W1,(w.alloc (.cells #[.int .i64 0,.int .u64 0,.int .u64 0,.int .u64 0,.int .u64 0,.slice none 0 0] 116)).alloc (.cells #[.string s,.int .i64 0] 169)=W1:=⟨_,rfl⟩;(try rw[hW1]);rw[hW1] at HB1;clear hW1;obtain⟨B,hB⟩:∃B,w.heap.size=B:=⟨_,rfl⟩;(try rw[hB]);rw[hB] at HB1;have HBS:=qh hB;clear hB;go_fit (HRU.out _ _ HB1.out.1);rintro e w2 ⟨hk,x,rfl,⟨hns,u,rfl,hu⟩,hr⟩;rw[HSZ.out] at hr;obtain⟨uo,uc,rfl,_⟩:=hu.form;have hsz:=HB1.out.2.2.2
  have H2:=qh (show RdW w2 (B+1) s j∧boxN 116 w2 B 0 noR (.slice none 0 0)∧Below B w w2∧B+2≤w2.heap.size∧xR (fun k=>B+2≤k) w2 n.kids (.slice uo n.kids.length uc)∧OkR n.set from
   ⟨hr,HB1.out.2.1.keep hk (by omega),HB1.out.2.2.1.trans (Xy hk (by omega) (by omega)),by have:=hk.size;omega,hu.mono fun k _ hk=>by omega,hns⟩)
  clear hk hr hu hns HB1;unfold zG;have hb3:=zA w2 (.cells #[.int .i64 n.kind,.int .u64 (n.set.1:Int),.int .u64 (n.set.2.1:Int),.int .u64 (n.set.2.2.1:Int),.int .u64 (n.set.2.2.2:Int),.slice uo n.kids.length uc] 116);have hc3:=boxN.new 116 w2 n.kind n.set (.slice uo n.kids.length uc);have H3:=qh (And.intro hb3 hc3);clear hb3 hc3;go_wp2_with fail
  obtain⟨W3,hW3⟩:∃W3,w2.alloc (.cells #[.int .i64 n.kind,.int .u64 (n.set.1:Int),.int .u64 (n.set.2.1:Int),.int .u64 (n.set.2.2.1:Int),.int .u64 (n.set.2.2.2:Int),.slice uo n.kids.length uc] 116)=W3:=⟨_,rfl⟩;(try rw[hW3]);rw[hW3] at H3;clear hW3;obtain⟨C,hC⟩:∃C,w2.heap.size=C:=⟨_,rfl⟩;(try rw[hC]);rw[hC] at H3 H2;have HCS:=qh hC;clear hC;go_fit (HEN.out _ _ (H2.out.1.below (HCS.out.symm▸H3.out.1)));rintro e w4 ⟨rfl,hb⟩;have hb24:Below w2.heap.size w2 w4:=(HCS.out.symm▸H3.out.1:Below w2.heap.size w2 W3).trans (hb.mono (HCS.out.symm▸H3.out.1:Below w2.heap.size w2 W3).size)
  have H4:=qh (show boxN 116 w4 B 0 noR (.slice none 0 0)∧boxN 116 w4 C n.kind n.set (.slice uo n.kids.length uc)∧Below B w w4∧B+2≤w4.heap.size∧xR (fun k=>B+2≤k) w4 n.kids (.slice uo n.kids.length uc) from
   ⟨H2.out.2.1.below hb24,H3.out.2.below hb,H2.out.2.2.1.trans (hb24.mono (by have:=H2.out.2.2.2.1;have:=HCS.out;omega)),by have:=H2.out.2.2.2.1;have:=HCS.out;have:=hb24.size;omega,H2.out.2.2.2.2.1.under hb24⟩)
  clear hb hb24;obtain⟨⟨c0,c1,c2,c3,c4,c5⟩,_⟩:=H4.out.2.1.cells;obtain⟨⟨b0,b1,b2,b3,b4,b5⟩,g0,g1,g2,g3,g4,g5⟩:=H4.out.1.cells;have hBlt:=H4.out.1.lt;go_wp2_with fail
  go_fit (HYES.out _);rintro e w5 ⟨rfl,rfl⟩;have hk6:=zM w5 B n.kind n.set (.slice uo n.kids.length uc);have hF:=H4.out.1.set6 n.kind n.set (.slice uo n.kids.length uc)
  have HKP:=qh (show Below B w (zS w5 B n.kind n.set (.slice uo n.kids.length uc))∧ve (fun k=>B≤k) (zS w5 B n.kind n.set (.slice uo n.kids.length uc)) n (zG n (.slice uo n.kids.length uc)) from
   ⟨KeepW.below H4.out.2.2.1 hk6 (by omega) (fun k hk=>by omega),H2.out.2.2.2.2.2,_,rfl,(H4.out.2.2.2.2.keep hk6 (fun k _ hk=>by omega)).mono fun k _ hk=>by omega⟩)
  obtain⟨⟨y0,y1,y2,y3,y4,y5⟩,_⟩:=hF.cells;unfold zS ze at y0 y1 y2 y3 y4 y5 HKP;have Y0:=qh y0;have Y1:=qh y1;have Y2:=qh y2;have Y3:=qh y3;have Y4:=qh y4;have Y5:=qh y5;clear hF hk6 y0 y1 y2 y3 y4 y5;go_wp2_with fail
  have y0:=Y0.out;have y1:=Y1.out;have y2:=Y2.out;have y3:=Y3.out;have y4:=Y4.out;have y5:=Y5.out;exact bodyPost_ret (v:=zG n (.slice uo n.kids.length uc)) (by simp[results,Tryz.results83,go_sem,zG,y0,y1,y2,y3,y4,y5]) rfl (by rw[HE.out];exact⟨by rw[HBS.out];exact HKP.out.1,_,rfl,by rw[HBS.out];exact HKP.out.2⟩)
 ·have HE:Hid (O=none):=by rw[hpe,zH s j (by omega)];exact rfl
  have HNO:=qh (fun W=>jW W);have HEN:=qh (fun W R (hr:RdW W R s j)=>yB hr false (decide_eq_false hend));clear hq hpe hlen hend;go_enter Tryz.func83,Tryz.ntmps83;go_wp2_with fail
  obtain⟨W1,hW1⟩:∃W1,(w.alloc (.cells #[.int .i64 0,.int .u64 0,.int .u64 0,.int .u64 0,.int .u64 0,.slice none 0 0] 116)).alloc (.cells #[.string s,.int .i64 0] 169)=W1:=⟨_,rfl⟩;(try rw[hW1]);rw[hW1] at HB1;clear hW1;obtain⟨B,hB⟩:∃B,w.heap.size=B:=⟨_,rfl⟩;(try rw[hB]);rw[hB] at HB1;have HBS:=qh hB;clear hB;go_fit (HRU.out _ _ HB1.out.1);rintro e w2 ⟨hk,x,rfl,⟨hns,u,rfl,hu⟩,hr⟩;rw[HSZ.out] at hr;obtain⟨uo,uc,rfl,_⟩:=hu.form;have hsz:=HB1.out.2.2.2
  have H2:=qh (show RdW w2 (B+1) s j∧Below B w w2∧B+2≤w2.heap.size from
   ⟨hr,HB1.out.2.2.1.trans (Xy hk (by omega) (by omega)),by have:=hk.size;omega⟩)
  clear hk hr hu hns HB1;unfold zG;have H3:=qh (zA w2 (.cells #[.int .i64 n.kind,.int .u64 (n.set.1:Int),.int .u64 (n.set.2.1:Int),.int .u64 (n.set.2.2.1:Int),.int .u64 (n.set.2.2.2:Int),.slice uo n.kids.length uc] 116));go_wp2_with fail
  obtain⟨W3,hW3⟩:∃W3,w2.alloc (.cells #[.int .i64 n.kind,.int .u64 (n.set.1:Int),.int .u64 (n.set.2.1:Int),.int .u64 (n.set.2.2.1:Int),.int .u64 (n.set.2.2.2:Int),.slice uo n.kids.length uc] 116)=W3:=⟨_,rfl⟩;(try rw[hW3]);rw[hW3] at H3;clear hW3;go_fit (HEN.out _ _ (H2.out.1.below H3.out));rintro e w4 ⟨rfl,hb⟩;have H4:=qh (show Below B w w4 from (H2.out.2.1.trans (H3.out.mono (by have:=H2.out.2.2;omega))).trans (hb.mono (by have:=H2.out.2.2;have:=H3.out.size;omega)));clear hb;go_wp2_with fail
  go_fit (HNO.out _);rintro e w5 ⟨rfl,rfl⟩;exact⟨rfl,by rw[HE.out];exact⟨by rw[HBS.out];exact H4.out,rfl⟩⟩
theorem zE3 (w:World):(Instr.typeAssert (.iface 157 (.int .i64 10)) 20 157 false).run Tryz.prog w= .ok (.int .i64 10) w:=by kernel_rfl
set_option maxRecDepth 8000 in
theorem kP (p:Addr) (x:Int) (older:List PanicEntry) (w:World) (hc:w.cell? p=some (.int .i64 x)) (hz:w.frozen? p=false):
  CallsD Tryz.prog 82 #[.pointer (some p)] (.panicking ({v:= .iface 157 (.int .i64 10),recovered:=false}::older)) w fun e u' w'=>
   e= .returned (.tuple #[])∧u'= .panicking ({v:= .iface 157 (.int .i64 10),recovered:=true}::older)∧w'=w.setCell p (.int .i64 10):=by
 refine callsD_of_wpS Tryz.func82 rfl fun c₀ cs hu=> ?_;apply wpS_seq;apply wpS_region;simp[wpOpsS,go_sem,recoverD,hu,Tryz.ntmps82,Exit.thenS];apply wpS_seq;apply wpS_region;simp[wpOpsS,go_sem,Exit.thenS,Array.replicate];refine wpS_cond (t:=true) (by simp[Act.eval]) ?_;simp only[if_true];apply wpS_region;simp[wpOpsS,go_sem,zE3,hc,hz,bodyPostS,results,Tryz.results82]
set_option maxRecDepth 8000 in
theorem YG (p:Addr) (w:World):
  CallsD Tryz.prog 82 #[.pointer (some p)] .returning w fun e u' w'=>e= .returned (.tuple #[])∧u'= .returning∧w'=w:=by
 refine callsD_of_wpS Tryz.func82 rfl fun c₀ cs hu=> ?_;apply wpS_seq;apply wpS_region;simp[wpOpsS,go_sem,recoverD,hu,Tryz.ntmps82,Exit.thenS];apply wpS_seq;apply wpS_region;simp[wpOpsS,go_sem,Exit.thenS,Array.replicate];refine wpS_cond (t:=false) (by simp[Act.eval]) ?_;simp only[Bool.false_eq_true,if_false];refine wpS_of_wp (wp_skip ?_);cases c₀
 simp_all [bodyPostS,results,Tryz.results82]
def Xz (w:World) (B:Nat) (x:Int):Prop:=w.heap[B]? =some (.cells #[.int .i64 x] 26 (0,0))
section
variable {w w':World} {B:Nat} {x:Int}
theorem Xz.lt (h:Xz w B x):B<w.heap.size:=(Array.getElem?_eq_some_iff.1 h).1
theorem Xz.cells (h:Xz w B x):w.cell? ⟨B,0,none⟩=some (.int .i64 x)∧w.frozen? ⟨B,0,none⟩=false:=by
 unfold Xz at h;exact⟨by unfold World.cell?;rw[h];rfl,by unfold World.frozen?;rw[h];simp⟩
theorem Xz.below (h:Xz w B x) (hb:Below w.heap.size w w'):Xz w' B x:=(hb.block B h.lt).trans h
theorem Xz.keep {ok:Nat→Prop} (h:Xz w B x) (hk:KeepW ok w w') (ho:ok B):Xz w' B x:=(hk.same B h.lt ho).trans h
theorem Xz.set (h:Xz w B x) (y:Int):Xz (w.setCell ⟨B,0,none⟩ (.int .i64 y)) B y:=by
 unfold Xz at h ⊢;unfold World.setCell;simp only[Array.getElem?_modify,if_true,h,Option.map_some];rfl
end
def zn (s:ByteArray):Nd×Int:=if 200<s.size then (vx,3) else match yl (xM s) with
 | some n=>(n,0)
 | none=>(vx,10)
theorem Vt (s:ByteArray) (w:World) (he:XG w):
  Calls Tryz.prog 69 #[.string s] w fun e w'=>∃x,e= .returned (.tuple #[x,.int .i64 (zn s).2])∧ve (fun k=>w.heap.size≤k) w' (zn s).1 x∧Below w.heap.size w w':=by
 have hmf:∀(fn:Fn) (first cap:Array Value) (w:World),(Instr.makeFunc fn first cap).run Tryz.prog w= .ok (.func fn first cap) w:=fun _ _ _ _=>rfl;obtain⟨P,hP⟩:∃P,zn s=P:=⟨_,rfl⟩;rw[hP];unfold zn at hP;by_cases h200:200<s.size
 ·rw[if_pos h200] at hP;subst hP;have hi:(200:Int)<(s.size:Int):=by omega
  have HB:Hid (∀o p,Below w.heap.size w ((w.alloc o).alloc p)):=fun o p=>((Below.refl _ w).alloc (Nat.le_refl _) o).alloc (by rw[zC];omega) p;clear h200 he
  go_enter_defers Tryz.func69,Tryz.ntmps69
  go_wp2_with fail
  exact⟨.tuple #[.agg #[.int .i64 0,.int .u64 0,.int .u64 0,.int .u64 0,.int .u64 0,.slice none 0 0],.int .i64 3],by simp[results,Tryz.results69,go_sem],_,rfl,ve.leaf 0 noR ok_no,HB.out _ _⟩
 rw[if_neg h200] at hP;have hi:(s.size:Int)≤200:=by omega
 have HWH:=qh (fun W (h:XG W)=>Vs s W (by omega) h);have hb1:=zA w (.cells #[.int .i64 0,.int .u64 0,.int .u64 0,.int .u64 0,.int .u64 0,.slice none 0 0] 116);have hc1:=boxN.new 116 w 0 noR (.slice none 0 0);have hz1:=zC w (.cells #[.int .i64 0,.int .u64 0,.int .u64 0,.int .u64 0,.int .u64 0,.slice none 0 0] 116);obtain⟨W0,hW0⟩:∃W0,w.alloc (.cells #[.int .i64 0,.int .u64 0,.int .u64 0,.int .u64 0,.int .u64 0,.slice none 0 0] 116)=W0:=⟨_,rfl⟩;have hc1':boxN 116 W0 w.heap.size 0 noR (.slice none 0 0):=by rw[←hW0];exact hc1
 rw[hW0] at hb1 hz1;have hb2:=zA W0 (.cells #[.int .i64 0] 26);have hr2:Xz (W0.alloc (.cells #[.int .i64 0] 26)) W0.heap.size 0:=heap_alloc_new _ _
 have HB1:=qh (show boxN 116 (W0.alloc (.cells #[.int .i64 0] 26)) w.heap.size 0 noR (.slice none 0 0)∧Xz (W0.alloc (.cells #[.int .i64 0] 26)) (w.heap.size+1) 0∧Below w.heap.size w (W0.alloc (.cells #[.int .i64 0] 26))∧XG (W0.alloc (.cells #[.int .i64 0] 26))∧(W0.alloc (.cells #[.int .i64 0] 26)).heap.size=w.heap.size+2 from
  ⟨hc1'.below hb2,by rw[←hz1];exact hr2,hb1.trans (hb2.mono (by omega)),(he.below hb1).below hb2,by rw[zC];omega⟩)
 rw[←hW0] at HB1;clear hb1 hc1 hz1 hc1' hb2 hr2 hW0 he h200;unfold WhP at HWH;rcases hq:yl (xM s) with _ | n
 ·simp only[hq] at HWH hP;subst hP;clear hq
  go_enter_defers Tryz.func69,Tryz.ntmps69
  go_wp2_with fail
  obtain⟨W1,hW1⟩:∃W1,(w.alloc (.cells #[.int .i64 0,.int .u64 0,.int .u64 0,.int .u64 0,.int .u64 0,.slice none 0 0] 116)).alloc (.cells #[.int .i64 0] 26)=W1:=⟨_,rfl⟩;(try rw[hW1]);rw[hW1] at HB1;clear hW1;obtain⟨B,hB⟩:∃B,w.heap.size=B:=⟨_,rfl⟩;(try rw[hB]);rw[hB] at HB1;have HBS:=qh hB;clear hB;go_fit (HWH.out _ HB1.out.2.2.2.1);rintro e w2 ⟨hb,rfl⟩
  have H2:=qh (show boxN 116 w2 B 0 noR (.slice none 0 0)∧Xz w2 (B+1) 0∧Below B w w2∧B+2≤w2.heap.size from
   ⟨HB1.out.1.below hb,HB1.out.2.1.below hb,HB1.out.2.2.1.trans (hb.mono (by have:=HB1.out.2.2.2.2;omega)),by have:=HB1.out.2.2.2.2;have:=hb.size;omega⟩)
  clear hb;refine leaves_cons (f:=82) (args:= #[.pointer (some ⟨B+1,0,none⟩)]) (by simp) (by simp[go_sem]) ?_;refine (kP ⟨B+1,0,none⟩ 0 [] w2 H2.out.2.1.cells.1 H2.out.2.1.cells.2).mono ?_;rintro e u' w'' ⟨rfl,rfl,rfl⟩;have hk:=zE (ok:=fun k=>k≠B+1) (B+1) 0 none (.int .i64 10) w2 (by simp);have hN:=H2.out.1.keep hk (by omega);have hE:=H2.out.2.1.set 10;obtain⟨⟨y0,y1,y2,y3,y4,y5⟩,_⟩:=hN.cells;have z0:=hE.cells.1;have h22:=H2.out.2.2.2;have hF:=KeepW.below H2.out.2.2.1 hk (by omega) (fun k hk=>by omega);refine⟨.tuple #[.agg #[.int .i64 0,.int .u64 0,.int .u64 0,.int .u64 0,.int .u64 0,.slice none 0 0],.int .i64 10],?_,_,rfl,ve.leaf 0 noR ok_no,by rw[HBS.out];exact hF⟩;simp[results,Tryz.results69,go_sem,y0,y1,y2,y3,y4,y5,z0,noR]
 ·simp only[hq] at HWH hP;subst hP;clear hq
  go_enter_defers Tryz.func69,Tryz.ntmps69
  go_wp2_with fail
  obtain⟨W1,hW1⟩:∃W1,(w.alloc (.cells #[.int .i64 0,.int .u64 0,.int .u64 0,.int .u64 0,.int .u64 0,.slice none 0 0] 116)).alloc (.cells #[.int .i64 0] 26)=W1:=⟨_,rfl⟩;(try rw[hW1]);rw[hW1] at HB1;clear hW1;obtain⟨B,hB⟩:∃B,w.heap.size=B:=⟨_,rfl⟩;(try rw[hB]);rw[hB] at HB1;have HBS:=qh hB;clear hB;go_fit (HWH.out _ HB1.out.2.2.2.1);rintro e w2 ⟨hb,x,rfl,hns,u,rfl,hu⟩;obtain⟨uo,uc,rfl,_⟩:=hu.form
  have H2:=qh (show boxN 116 w2 B 0 noR (.slice none 0 0)∧Xz w2 (B+1) 0∧Below B w w2∧B+2≤w2.heap.size∧xR (fun k=>B+2≤k) w2 n.kids (.slice uo n.kids.length uc) from
   ⟨HB1.out.1.below hb,HB1.out.2.1.below hb,HB1.out.2.2.1.trans (hb.mono (by have:=HB1.out.2.2.2.2;omega)),by have:=HB1.out.2.2.2.2;have:=hb.size;omega,hu.mono fun k _ hk=>by have:=HB1.out.2.2.2.2;omega⟩)
  have HNS:=qh hns;clear hb hu hns HB1;unfold zG;obtain⟨⟨b0,b1,b2,b3,b4,b5⟩,g0,g1,g2,g3,g4,g5⟩:=H2.out.1.cells;obtain⟨e0,f0⟩:=H2.out.2.1.cells;have hBlt:=H2.out.1.lt;have hElt:=H2.out.2.1.lt;have hk6:=zM w2 B n.kind n.set (.slice uo n.kids.length uc);have hk7:=zE (ok:=fun k=>k≠B+1) (B+1) 0 none (.int .i64 0) (zS w2 B n.kind n.set (.slice uo n.kids.length uc)) (by simp);have hN:=(H2.out.1.set6 n.kind n.set (.slice uo n.kids.length uc)).keep hk7 (by omega);have hE:=(H2.out.2.1.keep hk6 (by omega)).set 0
  have HF:=qh (show Below B w ((zS w2 B n.kind n.set (.slice uo n.kids.length uc)).setCell ⟨B+1,0,none⟩ (.int .i64 0))∧ve (fun k=>B≤k) ((zS w2 B n.kind n.set (.slice uo n.kids.length uc)).setCell ⟨B+1,0,none⟩ (.int .i64 0)) n (zG n (.slice uo n.kids.length uc)) from
   ⟨KeepW.below (KeepW.below H2.out.2.2.1 hk6 (by omega) (fun k hk=>by omega)) hk7 (by have:=hk6.size;omega) (fun k hk=>by omega),HNS.out,_,rfl,((H2.out.2.2.2.2.keep hk6 (fun k _ hk=>by omega)).keep hk7 (fun k _ hk=>by omega)).mono fun k _ hk=>by omega⟩)
  obtain⟨⟨y0,y1,y2,y3,y4,y5⟩,_⟩:=hN.cells;have z0:=hE.cells.1;unfold zS ze at y0 y1 y2 y3 y4 y5 z0 HF;have Y0:=qh y0;have Y1:=qh y1;have Y2:=qh y2;have Y3:=qh y3;have Y4:=qh y4;have Y5:=qh y5;have Z0:=qh z0;clear y0 y1 y2 y3 y4 y5 z0 hN hE hk6 hk7;go_wp2_with fail
  refine leaves_cons (f:=82) (args:= #[.pointer (some ⟨B+1,0,none⟩)]) (by simp) (by simp[go_sem]) ?_;refine (YG ⟨B+1,0,none⟩ _).mono ?_;rintro e u' w'' ⟨rfl,rfl,rfl⟩;have y0:=Y0.out;have y1:=Y1.out;have y2:=Y2.out;have y3:=Y3.out;have y4:=Y4.out;have y5:=Y5.out;have z0:=Z0.out;refine⟨.tuple #[zG n (.slice uo n.kids.length uc),.int .i64 0],?_,_,rfl,by rw[HBS.out];exact HF.out.2,by rw[HBS.out];exact HF.out.1⟩;simp[results,Tryz.results69,go_sem,zG,y0,y1,y2,y3,y4,y5,z0]
theorem Vu (s:ByteArray) (w:World):
  Calls Tryz.prog 29 #[.string s] w fun e w'=>∃x,e= .returned (.tuple #[x,.int .i64 (zn s).2])∧zV (fun k=>w.heap.size≤k) w' (zn s).1 x∧Below w.heap.size w w':=by
 obtain⟨P,hP⟩:∃P,zn s=P:=⟨_,rfl⟩;rw[hP];unfold zn at hP;have HB:Hid (∀o,Below w.heap.size w (w.alloc o)):=fun o=>zA w o;by_cases h200:200<s.size
 ·rw[if_pos h200] at hP;subst hP;have hi:(200:Int)<(s.size:Int):=by omega
  clear h200;go_enter Tryz.func29,Tryz.ntmps29;go_wp2_with fail
  exact bodyPost_ret (v:= .tuple #[.agg #[.int .i64 0,.int .u64 0,.int .u64 0,.int .u64 0,.int .u64 0,.slice none 0 0],.int .i64 3]) (by simp[results,Tryz.results29,go_sem]) rfl ⟨_,rfl,zV.leaf 0 noR ok_no,HB.out _⟩
 rw[if_neg h200,kX] at hP;have hi:(s.size:Int)≤200:=by omega
 have HRW:=qh (fun W=>zB1 s (by omega) 0 (Nat.zero_le _) W);rw[ZN] at HRW
 have HB1:=qh (show boxN 77 (w.alloc (.cells #[.int .i64 0,.int .u64 0,.int .u64 0,.int .u64 0,.int .u64 0,.slice none 0 0] 77)) w.heap.size 0 noR (.slice none 0 0)∧Below w.heap.size w (w.alloc (.cells #[.int .i64 0,.int .u64 0,.int .u64 0,.int .u64 0,.int .u64 0,.slice none 0 0] 77))∧(w.alloc (.cells #[.int .i64 0,.int .u64 0,.int .u64 0,.int .u64 0,.int .u64 0,.slice none 0 0] 77)).heap.size=w.heap.size+1 from
  ⟨boxN.new 77 w 0 noR (.slice none 0 0),HB.out _,zC _ _⟩)
 clear HB;rcases hq:rwR (xM s) [] [] with _ | ⟨n,r⟩
 ·simp only[hq,QA] at HRW hP;subst hP;have hne:((-1:Int)==(s.size:Int))=false:=beq_eq_false_iff_ne.2 (by omega);clear hq h200;go_enter Tryz.func29,Tryz.ntmps29;go_wp2_with fail
  obtain⟨W1,hW1⟩:∃W1,w.alloc (.cells #[.int .i64 0,.int .u64 0,.int .u64 0,.int .u64 0,.int .u64 0,.slice none 0 0] 77)=W1:=⟨_,rfl⟩;(try rw[hW1]);rw[hW1] at HB1;clear hW1;obtain⟨B,hB⟩:∃B,w.heap.size=B:=⟨_,rfl⟩;(try rw[hB]);rw[hB] at HB1;have HBS:=qh hB;clear hB;go_fit (HRW.out _);rintro e w2 ⟨⟨n,x,rfl,hns,u,rfl,hu⟩,hb⟩;obtain⟨uo,uc,rfl,_⟩:=hu.form;have H2:=qh (show boxN 77 w2 B 0 noR (.slice none 0 0)∧Below B w w2∧B<w2.heap.size from⟨HB1.out.1.below hb,HB1.out.2.1.trans (hb.mono (by have:=HB1.out.2.2;omega)),(HB1.out.1.below hb).lt⟩);clear hb hu hns;unfold zG;obtain⟨⟨b0,b1,b2,b3,b4,b5⟩,g0,g1,g2,g3,g4,g5⟩:=H2.out.1.cells;have hBlt:=H2.out.2.2;go_wp2_with fail
  have hk6:=zM w2 B 0 noR (.slice none 0 0);have hF:=(H2.out.1.set6 0 noR (.slice none 0 0)).below (zA _ (.cells #[.int .i64 n.kind,.int .u64 (n.set.1:Int),.int .u64 (n.set.2.1:Int),.int .u64 (n.set.2.2.1:Int),.int .u64 (n.set.2.2.2:Int),.slice uo n.kids.length uc] 77));have hb6:=(KeepW.below H2.out.2.1 hk6 (Nat.le_of_lt H2.out.2.2) (fun k hk=>by omega)).trans ((zA (zS w2 B 0 noR (.slice none 0 0)) (.cells #[.int .i64 n.kind,.int .u64 (n.set.1:Int),.int .u64 (n.set.2.1:Int),.int .u64 (n.set.2.2.1:Int),.int .u64 (n.set.2.2.2:Int),.slice uo n.kids.length uc] 77)).mono (by have:=hk6.size;have:=H2.out.2.2;omega));obtain⟨⟨y0,y1,y2,y3,y4,y5⟩,_⟩:=hF.cells;unfold zS ze at y0 y1 y2 y3 y4 y5 hb6;exact bodyPost_ret (v:= .tuple #[.agg #[.int .i64 0,.int .u64 0,.int .u64 0,.int .u64 0,.int .u64 0,.slice none 0 0],.int .i64 10]) (by simp only[show ((noR.1:Nat):Int)=0 from rfl,show ((noR.2.1:Nat):Int)=0 from rfl,show ((noR.2.2.1:Nat):Int)=0 from rfl,show ((noR.2.2.2:Nat):Int)=0 from rfl] at y0 y1 y2 y3 y4 y5;simp[results,Tryz.results29,go_sem,y0,y1,y2,y3,y4,y5]) rfl ⟨_,rfl,zV.leaf 0 noR ok_no,by rw[HBS.out];exact hb6⟩
 have hlen:=ZI hq;rw[xU] at hlen;simp only[hq,QA] at HRW hP;by_cases hr:r= []
 ·subst hr;simp only at hP;subst hP;rw[show s.size-([]:List Nat).length=s.size from Nat.sub_zero _] at HRW;clear hq h200 hlen;go_enter Tryz.func29,Tryz.ntmps29;go_wp2_with fail
  obtain⟨W1,hW1⟩:∃W1,w.alloc (.cells #[.int .i64 0,.int .u64 0,.int .u64 0,.int .u64 0,.int .u64 0,.slice none 0 0] 77)=W1:=⟨_,rfl⟩;(try rw[hW1]);rw[hW1] at HB1;clear hW1;obtain⟨B,hB⟩:∃B,w.heap.size=B:=⟨_,rfl⟩;(try rw[hB]);rw[hB] at HB1;have HBS:=qh hB;clear hB;go_fit (HRW.out _);rintro e w2 ⟨⟨x,rfl,hns,u,rfl,hu⟩,hb⟩;obtain⟨uo,uc,rfl,_⟩:=hu.form;have H2:=qh (show boxN 77 w2 B 0 noR (.slice none 0 0)∧Below B w w2∧B<w2.heap.size∧zW (fun k=>B+1≤k) w2 n.kids (.slice uo n.kids.length uc)∧OkR n.set from⟨HB1.out.1.below hb,HB1.out.2.1.trans (hb.mono (by have:=HB1.out.2.2;omega)),(HB1.out.1.below hb).lt,hu.mono fun k _ hk=>by have:=HB1.out.2.2;omega,hns⟩);clear hb hu hns;unfold zG;obtain⟨⟨b0,b1,b2,b3,b4,b5⟩,g0,g1,g2,g3,g4,g5⟩:=H2.out.1.cells;have hBlt:=H2.out.2.2.1;go_wp2_with fail
  have hk6:=zM w2 B n.kind n.set (.slice uo n.kids.length uc);have hF:=(H2.out.1.set6 n.kind n.set (.slice uo n.kids.length uc)).below (zA _ (.cells #[.int .i64 n.kind,.int .u64 (n.set.1:Int),.int .u64 (n.set.2.1:Int),.int .u64 (n.set.2.2.1:Int),.int .u64 (n.set.2.2.2:Int),.slice uo n.kids.length uc] 77));have hb6:=(KeepW.below H2.out.2.1 hk6 (Nat.le_of_lt H2.out.2.2.1) (fun k hk=>by omega)).trans ((zA (zS w2 B n.kind n.set (.slice uo n.kids.length uc)) (.cells #[.int .i64 n.kind,.int .u64 (n.set.1:Int),.int .u64 (n.set.2.1:Int),.int .u64 (n.set.2.2.1:Int),.int .u64 (n.set.2.2.2:Int),.slice uo n.kids.length uc] 77)).mono (by have:=hk6.size;have:=H2.out.2.2.1;omega));have hn6:zV (fun k=>B≤k) ((zS w2 B n.kind n.set (.slice uo n.kids.length uc)).alloc (.cells #[.int .i64 n.kind,.int .u64 (n.set.1:Int),.int .u64 (n.set.2.1:Int),.int .u64 (n.set.2.2.1:Int),.int .u64 (n.set.2.2.2:Int),.slice uo n.kids.length uc] 77)) n (zG n (.slice uo n.kids.length uc)):=⟨H2.out.2.2.2.2,_,rfl,((H2.out.2.2.2.1.keep hk6 (fun k _ hk=>by omega)).mono fun k _ hk=>by omega).under (zA _ _)⟩;obtain⟨⟨y0,y1,y2,y3,y4,y5⟩,_⟩:=hF.cells;unfold zS ze at y0 y1 y2 y3 y4 y5 hb6 hn6;exact bodyPost_ret (v:= .tuple #[zG n (.slice uo n.kids.length uc),.int .i64 0]) (by simp[results,Tryz.results29,go_sem,zG,y0,y1,y2,y3,y4,y5]) rfl ⟨_,rfl,by rw[HBS.out];exact hn6,by rw[HBS.out];exact hb6⟩
 ·have hpos:0<r.length:=List.length_pos_iff.2 hr;have hP2:P=(vx,10):=by
   rw[←hP]
   match r,hr with
   | c::t,_=>rfl
  clear hP;subst hP2;obtain⟨m,hm⟩:∃m,s.size-r.length=m:=⟨_,rfl⟩;rw[hm] at HRW;have hne:((m:Int)==(s.size:Int))=false:=beq_eq_false_iff_ne.2 (by omega);clear hq h200 hlen hr hpos hm;go_enter Tryz.func29,Tryz.ntmps29;go_wp2_with fail
  obtain⟨W1,hW1⟩:∃W1,w.alloc (.cells #[.int .i64 0,.int .u64 0,.int .u64 0,.int .u64 0,.int .u64 0,.slice none 0 0] 77)=W1:=⟨_,rfl⟩;(try rw[hW1]);rw[hW1] at HB1;clear hW1;obtain⟨B,hB⟩:∃B,w.heap.size=B:=⟨_,rfl⟩;(try rw[hB]);rw[hB] at HB1;have HBS:=qh hB;clear hB;go_fit (HRW.out _);rintro e w2 ⟨⟨x,rfl,hns,u,rfl,hu⟩,hb⟩;obtain⟨uo,uc,rfl,_⟩:=hu.form;have H2:=qh (show boxN 77 w2 B 0 noR (.slice none 0 0)∧Below B w w2∧B<w2.heap.size from⟨HB1.out.1.below hb,HB1.out.2.1.trans (hb.mono (by have:=HB1.out.2.2;omega)),(HB1.out.1.below hb).lt⟩);clear hb hu hns;unfold zG;obtain⟨⟨b0,b1,b2,b3,b4,b5⟩,g0,g1,g2,g3,g4,g5⟩:=H2.out.1.cells;have hBlt:=H2.out.2.2;go_wp2_with fail
  have hk6:=zM w2 B 0 noR (.slice none 0 0);have hF:=(H2.out.1.set6 0 noR (.slice none 0 0)).below (zA _ (.cells #[.int .i64 n.kind,.int .u64 (n.set.1:Int),.int .u64 (n.set.2.1:Int),.int .u64 (n.set.2.2.1:Int),.int .u64 (n.set.2.2.2:Int),.slice uo n.kids.length uc] 77));have hb6:=(KeepW.below H2.out.2.1 hk6 (Nat.le_of_lt H2.out.2.2) (fun k hk=>by omega)).trans ((zA (zS w2 B 0 noR (.slice none 0 0)) (.cells #[.int .i64 n.kind,.int .u64 (n.set.1:Int),.int .u64 (n.set.2.1:Int),.int .u64 (n.set.2.2.1:Int),.int .u64 (n.set.2.2.2:Int),.slice uo n.kids.length uc] 77)).mono (by have:=hk6.size;have:=H2.out.2.2;omega));obtain⟨⟨y0,y1,y2,y3,y4,y5⟩,_⟩:=hF.cells;unfold zS ze at y0 y1 y2 y3 y4 y5 hb6;exact bodyPost_ret (v:= .tuple #[.agg #[.int .i64 0,.int .u64 0,.int .u64 0,.int .u64 0,.int .u64 0,.slice none 0 0],.int .i64 10]) (by simp only[show ((noR.1:Nat):Int)=0 from rfl,show ((noR.2.1:Nat):Int)=0 from rfl,show ((noR.2.2.1:Nat):Int)=0 from rfl,show ((noR.2.2.2:Nat):Int)=0 from rfl] at y0 y1 y2 y3 y4 y5;simp[results,Tryz.results29,go_sem,y0,y1,y2,y3,y4,y5]) rfl ⟨_,rfl,zV.leaf 0 noR ok_no,by rw[HBS.out];exact hb6⟩
end Go.Proofs.YtjeomlickkpebaaGreatDoor
