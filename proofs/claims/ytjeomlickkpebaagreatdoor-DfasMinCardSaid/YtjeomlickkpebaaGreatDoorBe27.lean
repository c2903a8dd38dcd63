/-
  regs' reader: atom: what it returns, or how it ends, where rule does as it should from the next place on.
-/
import Derived.Test.YtjeomlickkpebaaGreatDoorBe24
import Derived.Test.YtjeomlickkpebaaGreatDoorBe26
namespace Go.Proofs.YtjeomlickkpebaaGreatDoor
open Go.RowKit
def NdP (s:ByteArray) (R:Nat) (w w':World) (o:Option (Nd×List Nat)) (e:Ending):Prop:=
 KeepW (fun k=>k≠R) w w'∧match o with
 | some (n,r)=>∃x,e= .returned x∧ve (fun k=>w.heap.size≤k) w' n x∧RdW w' R s (s.size-r.length)
 | none=>e=Xq
def XE (s:ByteArray) (R i:Nat):Prop:=∀w,RxW w R s i→Calls Tryz.prog 90 #[.pointer (some ⟨R,0,none⟩)] w fun e w'=>NdP s R w w' (rwR (zB s i) [] []) e
def XF (s:ByteArray) (R i:Nat):Prop:=∀w,RxW w R s i→Calls Tryz.prog 113 #[.pointer (some ⟨R,0,none⟩)] w fun e w'=>NdP s R w w' (atR (zB s i)) e
theorem zGO:j5 (addR noR 10) 256=zT (zT noR 0 10) 11 245:=by
 refine Kj _ _ (vw _ 256 (Nat.le_refl _)) (ok_with _ _ _ (by decide) (ok_with _ _ _ (by decide) ok_no)) fun b hb=> ?_;rw[Xg _ b hb 256 (Nat.le_refl _),Jq _ _ _ (by decide) hb,has_with _ _ _ hb _ (by decide),has_with _ _ _ hb _ (by decide),zFE,Bool.false_or,Bool.false_or,decide_eq_true hb,Bool.true_and,←Bool.decide_or,←decide_not];exact decide_eq_decide.2 (by omega)
theorem zGP (c:Nat) (t:List Nat) (h:c=45∨c=94):letR false (c::t)=some (c,t):=by
 rcases h with rfl | rfl<;>rfl
theorem zE8 (l:List Nat) (h1:l.head? ≠some 45) (h2:l.head? ≠some 94):letR false l=letR true l:=by
 match l,h1,h2 with
 | [],_,_=>rfl
 | c::t,h1,h2=>
  have e1:c≠45:=fun e=>h1 (by rw[e];rfl);have e2:c≠94:=fun e=>h2 (by rw[e];rfl);simp only[letR];simp[e1,e2]
structure AtW (w0 w:World) (R:Nat) (s:ByteArray) (j B:Nat):Prop where
 rx:RxW w R s j
 b:boxN 116 w B 0 noR (.slice none 0 0)
 kp:KeepW (fun k=>k≠R) w0 w
 ge:w0.heap.size≤B
 rl:R<B
 gl:4<B
section
variable {w0 w w':World} {R:Nat} {s:ByteArray} {j k B:Nat}
theorem AtW.move (h:AtW w0 w R s j B) (hk:KeepW (fun k=>k≠R) w w') (hr:RdW w' R s k):AtW w0 w' R s k B:=
 have h1:=h.rl
 ⟨h.rx.move hk hr,h.b.keep hk (by omega),h.kp.trans hk,h.ge,h.rl,h.gl⟩
theorem AtW.below (h:AtW w0 w R s j B) (hb:Below w.heap.size w w'):AtW w0 w' R s j B:=h.move (keep_below _ hb) (h.rx.rd.below hb)
theorem AtW.new {w:World} {i:Nat} (h:RxW w R s i):AtW w (w.alloc (.cells #[.int .i64 0,.int .u64 0,.int .u64 0,.int .u64 0,.int .u64 0,.slice none 0 0] 116)) R s i w.heap.size:=by
 have hb:=zA w (.cells #[.int .i64 0,.int .u64 0,.int .u64 0,.int .u64 0,.int .u64 0,.slice none 0 0] 116);obtain⟨ev,he,_⟩:=h.err;exact⟨h.below hb,boxN.new 116 w 0 noR (.slice none 0 0),keep_below _ hb,Nat.le_refl _,h.rd.lt,rlt he⟩
theorem AtW.fin (h:AtW w0 w R s j B) (n:Nd) (u:Value) (hn:OkR n.set) (hu:xR (fun k=>B<k) w n.kids u):KeepW (fun k=>k≠R) w0 (zS w B n.kind n.set u)∧RdW (zS w B n.kind n.set u) R s j∧boxN 116 (zS w B n.kind n.set u) B n.kind n.set u∧ve (fun k=>w0.heap.size≤k) (zS w B n.kind n.set u) n (zG n u):=
 have h1:=h.rl;have h2:=h.ge;have hk:=zM w B n.kind n.set u
 ⟨qj h.kp hk fun k hk _=>by omega,h.rx.rd.keep hk (by omega),h.b.set6 n.kind n.set u,hn,u,rfl,(hu.mono (ok':=fun k=>B<k∧w0.heap.size≤k) (fun k _ hk=>⟨hk,by omega⟩)).keep hk (fun k _ hk=>by omega) |>.mono fun k _ hk=>hk.2⟩
end
theorem jZ {s:ByteArray} {R:Nat} {w w':World} {o:Option (Nd×List Nat)} (h:o=none) (hk:KeepW (fun k=>k≠R) w w'):NdP s R w w' o Xq:=by
 rw[h];exact⟨hk,rfl⟩
theorem j3 {s:ByteArray} {R:Nat} {w w':World} {o:Option (Nd×List Nat)} {n:Nd} {r:List Nat} {j:Nat} {x:Value} (h:o=some (n,r)) (hj:s.size-r.length=j) (hk:KeepW (fun k=>k≠R) w w') (hr:RdW w' R s j) (hn:ve (fun k=>w.heap.size≤k) w' n x):NdP s R w w' o (.returned x):=by
 rw[h];exact⟨hk,x,rfl,hn,by rw[hj];exact hr⟩
set_option maxHeartbeats 16000000 in
theorem VH (s:ByteArray) (R i:Nat) (hi:i≤s.size) (hs:s.size≤1000) (HR:i<s.size→XE s R (i+1)):XF s R i:=by
 intro w h;have H0:=qh (AtW.new h);have hat:=Kk (zB s i);obtain⟨O,hO⟩:∃O,atR (zB s i)=O:=⟨_,rfl⟩;rw[hO] at hat ⊢;clear hO h;have HLT:Hid (∀c,(zB s i).head? =some c→i<s.size):=fun c hc=>Classical.byContradiction fun hn=>by rw[zf s i (by omega)] at hc;cases hc
 have HTN:=qh (fun b (hb:(zB s i).head? ≠some b) W (hr:RdW W R s i)=>qc hr hi b hb);have HTY:=qh (fun b (hb:(zB s i).head? =some b) W (hr:RdW W R s i)=>xy hr hs b hb);by_cases h40:(zB s i).head? =some 40
 ·have his:=HLT.out _ h40;rw[if_pos h40,zK] at hat;have HT40:=qh (HTY.out 40 h40);have HRU:=qh (HR his);unfold XE at HRU;rcases hq:rwR (zB s (i+1)) [] [] with _ | ⟨n,r⟩
  ·rw[hq] at hat HRU;have HE:=qh hat;clear hq hat HTN HTY HLT HR h40;go_enter Tryz.func113,Tryz.ntmps113;go_wp2_with fail
   obtain⟨W0,hW0⟩:∃W0,w.alloc (.cells #[.int .i64 0,.int .u64 0,.int .u64 0,.int .u64 0,.int .u64 0,.slice none 0 0] 116)=W0:=⟨_,rfl⟩;(try rw[hW0]);rw[hW0] at H0;clear hW0;obtain⟨B,hB⟩:∃B,w.heap.size=B:=⟨_,rfl⟩;(try rw[hB]);rw[hB] at H0;clear hB;go_fit (HT40.out _ H0.out.rx.rd);rintro e w1 ⟨rfl,hr,hk⟩;have H1:=qh (H0.out.move hk hr);clear hr hk;go_wp2_with fail
   go_fit (HRU.out _ H1.out.rx);rintro e w2 ⟨hk,rfl⟩;exact⟨rfl,jZ HE.out (H1.out.kp.trans hk)⟩
  ·have hlen:=ZI hq;rw[rest_len] at hlen;obtain⟨j,rfl,hj,hji⟩:∃j,r=zB s j∧j≤s.size∧i<j:=⟨s.size-r.length,je s (i+1) (YI hq),by omega,by omega⟩;rw[hq] at hat HRU;simp only at hat;have HSZ:=qh (za s j hj);clear hq hlen HTN HTY HLT HR h40;by_cases h41:(zB s j).head? =some 41
   ·rw[if_pos h41,zK] at hat;have hjs:j<s.size:=Classical.byContradiction fun hn=>(by rw[zf s j (by omega)] at h41;cases h41);have HT41:=qh (fun W (hr:RdW W R s j)=>xy hr hs 41 h41);have HE:=qh hat;have HSZ1:=qh (za s (j+1) (by omega));have HYES:=qh (fun W=>xn W);clear h41 hat;go_enter Tryz.func113,Tryz.ntmps113;go_wp2_with fail
    obtain⟨W0,hW0⟩:∃W0,w.alloc (.cells #[.int .i64 0,.int .u64 0,.int .u64 0,.int .u64 0,.int .u64 0,.slice none 0 0] 116)=W0:=⟨_,rfl⟩;(try rw[hW0]);rw[hW0] at H0;clear hW0;obtain⟨B,hB⟩:∃B,w.heap.size=B:=⟨_,rfl⟩;(try rw[hB]);rw[hB] at H0;clear hB;go_fit (HT40.out _ H0.out.rx.rd);rintro e w1 ⟨rfl,hr,hk⟩;have H1:=qh (H0.out.move hk hr);clear hr hk;go_wp2_with fail
    go_fit (HRU.out _ H1.out.rx);rintro e w2 ⟨hk,x,rfl,hn,hr⟩;rw[HSZ.out] at hr;obtain⟨hns,u,rfl,hu⟩:=hn;obtain⟨uo,uc,rfl,_⟩:=hu.form;have HU:=qh (hu.mono (ok':=fun k=>B<k) fun k _ hk=>by have:=H1.out.b.lt;omega);have HNS:=qh hns;have H2:=qh (H1.out.move hk hr);clear hr hk hu hns;unfold zG;have hb3:=zA w2 (.cells #[.int .i64 n.kind,.int .u64 (n.set.1:Int),.int .u64 (n.set.2.1:Int),.int .u64 (n.set.2.2.1:Int),.int .u64 (n.set.2.2.2:Int),.slice uo n.kids.length uc] 116);have hc3:=boxN.new 116 w2 n.kind n.set (.slice uo n.kids.length uc);have H3:=qh (And.intro (H2.out.below hb3) (And.intro hc3 (HU.out.under hb3)));have HCR:=qh (show w2.heap.size≠R by have:=H2.out.rx.rd.lt;omega);clear hb3 hc3;go_wp2_with fail
    obtain⟨W3,hW3⟩:∃W3,w2.alloc (.cells #[.int .i64 n.kind,.int .u64 (n.set.1:Int),.int .u64 (n.set.2.1:Int),.int .u64 (n.set.2.2.1:Int),.int .u64 (n.set.2.2.2:Int),.slice uo n.kids.length uc] 116)=W3:=⟨_,rfl⟩;(try rw[hW3]);rw[hW3] at H3;clear hW3;obtain⟨C,hC⟩:∃C,w2.heap.size=C:=⟨_,rfl⟩;(try rw[hC]);rw[hC] at H3 HCR;clear hC;go_fit (HT41.out _ H3.out.1.rx.rd);rintro e w4 ⟨rfl,hr,hk⟩;have H4:=qh (And.intro (H3.out.1.move hk hr) (And.intro (H3.out.2.1.keep hk HCR.out) ((H3.out.2.2.mono (ok':=fun k=>B<k∧k≠R) (fun k _ hk=>⟨hk,by have:=H3.out.1.rl;omega⟩)).keep hk (fun k _ hk=>hk.2) |>.mono fun k _ hk=>hk.1)));clear hr hk;obtain⟨⟨c0,c1,c2,c3,c4,c5⟩,_⟩:=H4.out.2.1.cells;go_wp2_with fail
    go_fit (HYES.out _);rintro e w5 ⟨rfl,rfl⟩;obtain⟨⟨b0,b1,b2,b3,b4,b5⟩,g0,g1,g2,g3,g4,g5⟩:=(H4.out.1).b.cells;have hBlt:=(H4.out.1).b.lt;have hF:=(H4.out.1).fin (n) (.slice uo n.kids.length uc) (HNS.out) (H4.out.2.2);have HKP:=qh (And.intro hF.1 (And.intro hF.2.1 hF.2.2.2));obtain⟨⟨y0,y1,y2,y3,y4,y5⟩,_⟩:=hF.2.2.1.cells;unfold zS ze at y0 y1 y2 y3 y4 y5 HKP;have Y0:=qh y0;have Y1:=qh y1;have Y2:=qh y2;have Y3:=qh y3;have Y4:=qh y4;have Y5:=qh y5;clear hF y0 y1 y2 y3 y4 y5;go_wp2_with fail
    have y0:=Y0.out;have y1:=Y1.out;have y2:=Y2.out;have y3:=Y3.out;have y4:=Y4.out;have y5:=Y5.out;exact bodyPost_ret (v:=zG (n) (.slice uo n.kids.length uc)) (by simp[results,Tryz.results113,go_sem,zG,y0,y1,y2,y3,y4,y5]) rfl (j3 HE.out HSZ1.out HKP.out.1 HKP.out.2.1 HKP.out.2.2)
   ·rw[if_neg h41] at hat;have HT41:=qh (fun W (hr:RdW W R s j)=>qc hr hj 41 h41);have HE:=qh hat;have HNO:=qh (fun W=>jW W);clear h41 hat;go_enter Tryz.func113,Tryz.ntmps113;go_wp2_with fail
    obtain⟨W0,hW0⟩:∃W0,w.alloc (.cells #[.int .i64 0,.int .u64 0,.int .u64 0,.int .u64 0,.int .u64 0,.slice none 0 0] 116)=W0:=⟨_,rfl⟩;(try rw[hW0]);rw[hW0] at H0;clear hW0;obtain⟨B,hB⟩:∃B,w.heap.size=B:=⟨_,rfl⟩;(try rw[hB]);rw[hB] at H0;clear hB;go_fit (HT40.out _ H0.out.rx.rd);rintro e w1 ⟨rfl,hr,hk⟩;have H1:=qh (H0.out.move hk hr);clear hr hk;go_wp2_with fail
    go_fit (HRU.out _ H1.out.rx);rintro e w2 ⟨hk,x,rfl,hn,hr⟩;rw[HSZ.out] at hr;obtain⟨hns,u,rfl,hu⟩:=hn;obtain⟨uo,uc,rfl,_⟩:=hu.form;have H2:=qh (H1.out.move hk hr);clear hr hk hu hns;unfold zG;have hb3:=zA w2 (.cells #[.int .i64 n.kind,.int .u64 (n.set.1:Int),.int .u64 (n.set.2.1:Int),.int .u64 (n.set.2.2.1:Int),.int .u64 (n.set.2.2.2:Int),.slice uo n.kids.length uc] 116);have H3:=qh (H2.out.below hb3);clear hb3;go_wp2_with fail
    obtain⟨W3,hW3⟩:∃W3,w2.alloc (.cells #[.int .i64 n.kind,.int .u64 (n.set.1:Int),.int .u64 (n.set.2.1:Int),.int .u64 (n.set.2.2.1:Int),.int .u64 (n.set.2.2.2:Int),.slice uo n.kids.length uc] 116)=W3:=⟨_,rfl⟩;(try rw[hW3]);rw[hW3] at H3;clear hW3;go_fit (HT41.out _ H3.out.rx.rd);rintro e w4 ⟨rfl,hr,hk⟩;have H4:=qh (H3.out.below hk);clear hr hk;go_wp2_with fail
    go_fit (HNO.out _);rintro e w5 ⟨rfl,rfl⟩;exact⟨rfl,jZ HE.out H4.out.kp⟩
 rw[if_neg h40] at hat;have HT40:=qh (HTN.out 40 h40);clear h40 HR;by_cases h91:(zB s i).head? =some 91
 ·have his:=HLT.out _ h91;rw[if_pos h91,zK,ZV] at hat;have HT91:=qh (HTY.out 91 h91);have HSP:=qh (fun W (hx:RxW W R s (i+1))=>Vv hx (by omega) hs);have hbg:=fun {n:Nd} {r:List Nat} (h:zh (zB s (i+1))=some (n,r))=>(kG (Jw s (i+1)) h);have hbl:=fun {n:Nd} {r:List Nat} (h:zh (zB s (i+1))=some (n,r))=>And.intro (bracket_len h) (bracket_drop h);rw[ZV] at hbg hbl;rcases hq:zGR (zB s (i+1)) with _ | ⟨S,r⟩
  ·rw[hq] at hat;simp only[hq] at HSP;have HE:Hid (O=none):=hat;clear hq hat HTN HTY HLT h91 hbg hbl;go_enter Tryz.func113,Tryz.ntmps113;go_wp2_with fail
   obtain⟨W0,hW0⟩:∃W0,w.alloc (.cells #[.int .i64 0,.int .u64 0,.int .u64 0,.int .u64 0,.int .u64 0,.slice none 0 0] 116)=W0:=⟨_,rfl⟩;(try rw[hW0]);rw[hW0] at H0;clear hW0;obtain⟨B,hB⟩:∃B,w.heap.size=B:=⟨_,rfl⟩;(try rw[hB]);rw[hB] at H0;clear hB;go_fit (HT40.out _ H0.out.rx.rd);rintro e w1 ⟨rfl,hr,hk⟩;have H1:=qh (H0.out.below hk);clear hr hk;go_wp2_with fail
   go_fit (HT91.out _ H1.out.rx.rd);rintro e w2 ⟨rfl,hr,hk⟩;have H2:=qh (H1.out.move hk hr);clear hr hk;go_wp2_with fail
   go_fit (HSP.out _ H2.out.rx);rintro e w3 ⟨hk,rfl⟩;exact⟨rfl,jZ HE.out (H2.out.kp.trans hk)⟩
  ·rw[hq] at hat hbg hbl;simp only[hq] at HSP;obtain⟨S',hS',hn⟩:=hbg rfl;obtain⟨hlen,hdr⟩:=hbl rfl;obtain rfl:S=S':=(by cases hn;rfl);rw[rest_len] at hlen;obtain⟨j,rfl,hj⟩:∃j,r=zB s j∧j≤s.size:=⟨s.size-r.length,je s (i+1) hdr,by omega⟩;have HSZ:=qh (za s j hj);have HE:Hid (O=some (.mk 1 S [],zB s j)):=hat;have HOK:=qh hS';clear hq hat HTN HTY HLT h91 hbg hbl hlen hdr hn hS';go_enter Tryz.func113,Tryz.ntmps113;go_wp2_with fail
   obtain⟨W0,hW0⟩:∃W0,w.alloc (.cells #[.int .i64 0,.int .u64 0,.int .u64 0,.int .u64 0,.int .u64 0,.slice none 0 0] 116)=W0:=⟨_,rfl⟩;(try rw[hW0]);rw[hW0] at H0;clear hW0;obtain⟨B,hB⟩:∃B,w.heap.size=B:=⟨_,rfl⟩;(try rw[hB]);rw[hB] at H0;clear hB;go_fit (HT40.out _ H0.out.rx.rd);rintro e w1 ⟨rfl,hr,hk⟩;have H1:=qh (H0.out.below hk);clear hr hk;go_wp2_with fail
   go_fit (HT91.out _ H1.out.rx.rd);rintro e w2 ⟨rfl,hr,hk⟩;have H2:=qh (H1.out.move hk hr);clear hr hk;go_wp2_with fail
   go_fit (HSP.out _ H2.out.rx);rintro e w3 ⟨hk,rfl,hr⟩;rw[HSZ.out] at hr;unfold xW;have H3:=qh (H2.out.move hk hr);clear hr hk;obtain⟨⟨b0,b1,b2,b3,b4,b5⟩,g0,g1,g2,g3,g4,g5⟩:=(H3.out).b.cells;have hBlt:=(H3.out).b.lt;have hF:=(H3.out).fin (.mk 1 S []) (.slice none 0 0) (HOK.out) (xR.nil _ _);have HKP:=qh (And.intro hF.1 (And.intro hF.2.1 hF.2.2.2));obtain⟨⟨y0,y1,y2,y3,y4,y5⟩,_⟩:=hF.2.2.1.cells;simp only[Nd.kind,Nd.set] at y0 y1 y2 y3 y4 y5 HKP;unfold zS ze at y0 y1 y2 y3 y4 y5 HKP;have Y0:=qh y0;have Y1:=qh y1;have Y2:=qh y2;have Y3:=qh y3;have Y4:=qh y4;have Y5:=qh y5;clear hF y0 y1 y2 y3 y4 y5;go_wp2_with fail
   have y0:=Y0.out;have y1:=Y1.out;have y2:=Y2.out;have y3:=Y3.out;have y4:=Y4.out;have y5:=Y5.out;exact bodyPost_ret (v:=zG (.mk 1 S []) (.slice none 0 0)) (by simp[results,Tryz.results113,go_sem,zG,Nd.kind,Nd.set,y0,y1,y2,y3,y4,y5]) rfl (j3 HE.out HSZ.out HKP.out.1 HKP.out.2.1 HKP.out.2.2)
 rw[if_neg h91] at hat;have HT91:=qh (HTN.out 91 h91);clear h91;by_cases h46:(zB s i).head? =some 46
 ·have his:=HLT.out _ h46;rw[if_pos h46,zK] at hat;have HT46:=qh (HTY.out 46 h46);have HSZ:=qh (za s (i+1) (by omega));have HA:=qh (fun W=>jh noR 10 W ok_no (by decide));have HB:=qh (fun W=>ji (addR noR 10) W (Qd _ _ (by decide) ok_no));rw[zGO] at HB;have HE:Hid (O=some (.mk 1 (zT (zT noR 0 10) 11 245) [],zB s (i+1))):=hat;have HOK:=qh (show OkR (zT (zT noR 0 10) 11 245) from ok_with _ _ _ (by decide) (ok_with _ _ _ (by decide) ok_no));obtain⟨S0,hS0⟩:∃S0,addR noR 10=S0:=⟨_,rfl⟩;obtain⟨S,hS⟩:∃S,zT (zT noR 0 10) 11 245=S:=⟨_,rfl⟩;simp only[hS0] at HA HB;simp only[hS] at HB HE HOK;unfold xW at HA HB;simp only[show ((noR.1:Nat):Int)=0 from rfl,show ((noR.2.1:Nat):Int)=0 from rfl,show ((noR.2.2.1:Nat):Int)=0 from rfl,show ((noR.2.2.2:Nat):Int)=0 from rfl] at HA;clear hat HTN HTY HLT h46 hS0 hS;go_enter Tryz.func113,Tryz.ntmps113;go_wp2_with fail
  obtain⟨W0,hW0⟩:∃W0,w.alloc (.cells #[.int .i64 0,.int .u64 0,.int .u64 0,.int .u64 0,.int .u64 0,.slice none 0 0] 116)=W0:=⟨_,rfl⟩;(try rw[hW0]);rw[hW0] at H0;clear hW0;obtain⟨B,hB⟩:∃B,w.heap.size=B:=⟨_,rfl⟩;(try rw[hB]);rw[hB] at H0;clear hB;go_fit (HT40.out _ H0.out.rx.rd);rintro e w1 ⟨rfl,hr,hk⟩;have H1:=qh (H0.out.below hk);clear hr hk;go_wp2_with fail
  go_fit (HT91.out _ H1.out.rx.rd);rintro e w2 ⟨rfl,hr,hk⟩;have H2:=qh (H1.out.below hk);clear hr hk;go_wp2_with fail
  go_fit (HT46.out _ H2.out.rx.rd);rintro e w3 ⟨rfl,hr,hk⟩;have H3:=qh (H2.out.move hk hr);clear hr hk;go_wp2_with fail
  go_fit (HA.out _);rintro e w4 ⟨rfl,hb⟩;have H4:=qh (H3.out.below hb);clear hb;go_wp2_with fail
  go_fit (HB.out _);rintro e w5 ⟨rfl,hb⟩;have H5:=qh (H4.out.below hb);clear hb;obtain⟨⟨b0,b1,b2,b3,b4,b5⟩,g0,g1,g2,g3,g4,g5⟩:=(H5.out).b.cells;have hBlt:=(H5.out).b.lt;have hF:=(H5.out).fin (.mk 1 S []) (.slice none 0 0) (HOK.out) (xR.nil _ _);have HKP:=qh (And.intro hF.1 (And.intro hF.2.1 hF.2.2.2));obtain⟨⟨y0,y1,y2,y3,y4,y5⟩,_⟩:=hF.2.2.1.cells;simp only[Nd.kind,Nd.set] at y0 y1 y2 y3 y4 y5 HKP;unfold zS ze at y0 y1 y2 y3 y4 y5 HKP;have Y0:=qh y0;have Y1:=qh y1;have Y2:=qh y2;have Y3:=qh y3;have Y4:=qh y4;have Y5:=qh y5;clear hF y0 y1 y2 y3 y4 y5;go_wp2_with fail
  have y0:=Y0.out;have y1:=Y1.out;have y2:=Y2.out;have y3:=Y3.out;have y4:=Y4.out;have y5:=Y5.out;exact bodyPost_ret (v:=zG (.mk 1 S []) (.slice none 0 0)) (by simp[results,Tryz.results113,go_sem,zG,Nd.kind,Nd.set,y0,y1,y2,y3,y4,y5]) rfl (j3 HE.out HSZ.out HKP.out.1 HKP.out.2.1 HKP.out.2.2)
 rw[if_neg h46] at hat;have HT46:=qh (HTN.out 46 h46);clear h46;have HSE:=qh (fun W (hr:RdW W R s i) v hv=>Xr hr hi ⟨#[45,94]⟩ v hv);by_cases h2:(zB s i).head? =some 45∨(zB s i).head? =some 94
 ·have his:i<s.size:=by rcases h2 with h | h<;>exact HLT.out _ h
  have hc:=zH s i his;have hc256:=j6 s i;have hsee:jg s i ⟨#[45,94]⟩=true:=by
   rw[hc] at h2;unfold jg;rw[zAA _ hc256,decide_eq_true his,decide_eq_true (by rcases h2 with h | h<;>(have:=Option.some.inj h;omega))];rfl
  have HSE1:=qh (fun W (hr:RdW W R s i)=>HSE.out W hr true hsee);have HN:=qh (fun W (hr:RdW W R s i)=>jI hr his hs);have HSZ:=qh (za s (i+1) (by omega));have hl2:letR false (zB s i)=some (bR s i,zB s (i+1)):=by
   rw[hc] at h2 ⊢;exact zGP _ _ (by rcases h2 with h | h<;>(have:=Option.some.inj h;omega))
  rw[hl2] at hat;obtain⟨c,hcc⟩:∃c,bR s i=c:=⟨_,rfl⟩;rw[hcc] at hat hc256;simp only[hcc] at HN;have HE:Hid (O=some (.mk 1 (addR noR c) [],zB s (i+1))):=hat;have HOK:=qh (Qd noR c hc256 ok_no);have HA:=qh (fun W=>jh noR c W ok_no hc256);obtain⟨S,hS⟩:∃S,addR noR c=S:=⟨_,rfl⟩;simp only[hS] at HA HE HOK;unfold xW at HA;simp only[show ((noR.1:Nat):Int)=0 from rfl,show ((noR.2.1:Nat):Int)=0 from rfl,show ((noR.2.2.1:Nat):Int)=0 from rfl,show ((noR.2.2.2:Nat):Int)=0 from rfl] at HA;clear hat HTN HTY HLT h2 hS hl2 hsee hc hcc HSE;go_enter Tryz.func113,Tryz.ntmps113;go_wp2_with fail
  obtain⟨W0,hW0⟩:∃W0,w.alloc (.cells #[.int .i64 0,.int .u64 0,.int .u64 0,.int .u64 0,.int .u64 0,.slice none 0 0] 116)=W0:=⟨_,rfl⟩;(try rw[hW0]);rw[hW0] at H0;clear hW0;obtain⟨B,hB⟩:∃B,w.heap.size=B:=⟨_,rfl⟩;(try rw[hB]);rw[hB] at H0;clear hB;go_fit (HT40.out _ H0.out.rx.rd);rintro e w1 ⟨rfl,hr,hk⟩;have H1:=qh (H0.out.below hk);clear hr hk;go_wp2_with fail
  go_fit (HT91.out _ H1.out.rx.rd);rintro e w2 ⟨rfl,hr,hk⟩;have H2:=qh (H1.out.below hk);clear hr hk;go_wp2_with fail
  go_fit (HT46.out _ H2.out.rx.rd);rintro e w3 ⟨rfl,hr,hk⟩;have H3:=qh (H2.out.below hk);clear hr hk;go_wp2_with fail
  go_fit (HSE1.out _ H3.out.rx.rd);rintro e w4 ⟨rfl,hb⟩;have H4:=qh (H3.out.below hb);clear hb;go_wp2_with fail
  go_fit (HN.out _ H4.out.rx.rd);rintro e w5 ⟨rfl,hr,hk⟩;have H5:=qh (H4.out.move hk hr);clear hr hk;go_wp2_with fail
  go_fit (HA.out _);rintro e w6 ⟨rfl,hb⟩;have H6:=qh (H5.out.below hb);clear hb;obtain⟨⟨b0,b1,b2,b3,b4,b5⟩,g0,g1,g2,g3,g4,g5⟩:=(H6.out).b.cells;have hBlt:=(H6.out).b.lt;have hF:=(H6.out).fin (.mk 1 S []) (.slice none 0 0) (HOK.out) (xR.nil _ _);have HKP:=qh (And.intro hF.1 (And.intro hF.2.1 hF.2.2.2));obtain⟨⟨y0,y1,y2,y3,y4,y5⟩,_⟩:=hF.2.2.1.cells;simp only[Nd.kind,Nd.set] at y0 y1 y2 y3 y4 y5 HKP;unfold zS ze at y0 y1 y2 y3 y4 y5 HKP;have Y0:=qh y0;have Y1:=qh y1;have Y2:=qh y2;have Y3:=qh y3;have Y4:=qh y4;have Y5:=qh y5;clear hF y0 y1 y2 y3 y4 y5;go_wp2_with fail
  have y0:=Y0.out;have y1:=Y1.out;have y2:=Y2.out;have y3:=Y3.out;have y4:=Y4.out;have y5:=Y5.out;exact bodyPost_ret (v:=zG (.mk 1 S []) (.slice none 0 0)) (by simp[results,Tryz.results113,go_sem,zG,Nd.kind,Nd.set,y0,y1,y2,y3,y4,y5]) rfl (j3 HE.out HSZ.out HKP.out.1 HKP.out.2.1 HKP.out.2.2)
 ·have hsee:jg s i ⟨#[45,94]⟩=false:=by
   unfold jg;by_cases his:i<s.size
   ·rw[zAA _ (j6 s i)];rw[zH s i his] at h2;rw[decide_eq_false (p:=bR s i=45∨bR s i=94) (fun e=>h2 (by rcases e with e | e<;>rw[e]<;>simp)),Bool.and_false]
   ·rw[decide_eq_false his];rfl
  have HSE1:=qh (fun W (hr:RdW W R s i)=>HSE.out W hr false hsee);have HL:=qh (fun W (hx:RxW W R s i)=>yd hx hi hs);rw[zE8 _ (fun h=>h2 (.inl h)) (fun h=>h2 (.inr h))] at hat;rcases hl:letR true (zB s i) with _ | ⟨c,r⟩
  ·rw[hl] at hat;simp only[hl] at HL;have HE:Hid (O=none):=hat;clear hat HTN HTY HLT h2 hl hsee HSE;go_enter Tryz.func113,Tryz.ntmps113;go_wp2_with fail
   obtain⟨W0,hW0⟩:∃W0,w.alloc (.cells #[.int .i64 0,.int .u64 0,.int .u64 0,.int .u64 0,.int .u64 0,.slice none 0 0] 116)=W0:=⟨_,rfl⟩;(try rw[hW0]);rw[hW0] at H0;clear hW0;obtain⟨B,hB⟩:∃B,w.heap.size=B:=⟨_,rfl⟩;(try rw[hB]);rw[hB] at H0;clear hB;go_fit (HT40.out _ H0.out.rx.rd);rintro e w1 ⟨rfl,hr,hk⟩;have H1:=qh (H0.out.below hk);clear hr hk;go_wp2_with fail
   go_fit (HT91.out _ H1.out.rx.rd);rintro e w2 ⟨rfl,hr,hk⟩;have H2:=qh (H1.out.below hk);clear hr hk;go_wp2_with fail
   go_fit (HT46.out _ H2.out.rx.rd);rintro e w3 ⟨rfl,hr,hk⟩;have H3:=qh (H2.out.below hk);clear hr hk;go_wp2_with fail
   go_fit (HSE1.out _ H3.out.rx.rd);rintro e w4 ⟨rfl,hb⟩;have H4:=qh (H3.out.below hb);clear hb;go_wp2_with fail
   go_fit (HL.out _ H4.out.rx);rintro e w5 ⟨hk,rfl⟩;exact⟨rfl,jZ HE.out (H4.out.kp.trans hk)⟩
  ·obtain⟨j,hij,hj,rfl,_,hc256⟩:=qi hl;rw[hl] at hat;simp only[hl] at HL;have HSZ:=qh (za s j hj);have HE:Hid (O=some (.mk 1 (addR noR c) [],zB s j)):=hat;have HOK:=qh (Qd noR c hc256 ok_no);have HA:=qh (fun W=>jh noR c W ok_no hc256);obtain⟨S,hS⟩:∃S,addR noR c=S:=⟨_,rfl⟩;simp only[hS] at HA HE HOK;unfold xW at HA;simp only[show ((noR.1:Nat):Int)=0 from rfl,show ((noR.2.1:Nat):Int)=0 from rfl,show ((noR.2.2.1:Nat):Int)=0 from rfl,show ((noR.2.2.2:Nat):Int)=0 from rfl] at HA;clear hat HTN HTY HLT h2 hl hsee HSE hS;go_enter Tryz.func113,Tryz.ntmps113;go_wp2_with fail
   obtain⟨W0,hW0⟩:∃W0,w.alloc (.cells #[.int .i64 0,.int .u64 0,.int .u64 0,.int .u64 0,.int .u64 0,.slice none 0 0] 116)=W0:=⟨_,rfl⟩;(try rw[hW0]);rw[hW0] at H0;clear hW0;obtain⟨B,hB⟩:∃B,w.heap.size=B:=⟨_,rfl⟩;(try rw[hB]);rw[hB] at H0;clear hB;go_fit (HT40.out _ H0.out.rx.rd);rintro e w1 ⟨rfl,hr,hk⟩;have H1:=qh (H0.out.below hk);clear hr hk;go_wp2_with fail
   go_fit (HT91.out _ H1.out.rx.rd);rintro e w2 ⟨rfl,hr,hk⟩;have H2:=qh (H1.out.below hk);clear hr hk;go_wp2_with fail
   go_fit (HT46.out _ H2.out.rx.rd);rintro e w3 ⟨rfl,hr,hk⟩;have H3:=qh (H2.out.below hk);clear hr hk;go_wp2_with fail
   go_fit (HSE1.out _ H3.out.rx.rd);rintro e w4 ⟨rfl,hb⟩;have H4:=qh (H3.out.below hb);clear hb;go_wp2_with fail
   go_fit (HL.out _ H4.out.rx);rintro e w5 ⟨hk,rfl,hr⟩;rw[HSZ.out] at hr;have H5:=qh (H4.out.move hk hr);clear hr hk;go_wp2_with fail
   go_fit (HA.out _);rintro e w6 ⟨rfl,hb⟩;have H6:=qh (H5.out.below hb);clear hb;obtain⟨⟨b0,b1,b2,b3,b4,b5⟩,g0,g1,g2,g3,g4,g5⟩:=(H6.out).b.cells;have hBlt:=(H6.out).b.lt;have hF:=(H6.out).fin (.mk 1 S []) (.slice none 0 0) (HOK.out) (xR.nil _ _);have HKP:=qh (And.intro hF.1 (And.intro hF.2.1 hF.2.2.2));obtain⟨⟨y0,y1,y2,y3,y4,y5⟩,_⟩:=hF.2.2.1.cells;simp only[Nd.kind,Nd.set] at y0 y1 y2 y3 y4 y5 HKP;unfold zS ze at y0 y1 y2 y3 y4 y5 HKP;have Y0:=qh y0;have Y1:=qh y1;have Y2:=qh y2;have Y3:=qh y3;have Y4:=qh y4;have Y5:=qh y5;clear hF y0 y1 y2 y3 y4 y5;go_wp2_with fail
   have y0:=Y0.out;have y1:=Y1.out;have y2:=Y2.out;have y3:=Y3.out;have y4:=Y4.out;have y5:=Y5.out;exact bodyPost_ret (v:=zG (.mk 1 S []) (.slice none 0 0)) (by simp[results,Tryz.results113,go_sem,zG,Nd.kind,Nd.set,y0,y1,y2,y3,y4,y5]) rfl (j3 HE.out HSZ.out HKP.out.1 HKP.out.2.1 HKP.out.2.2)
end Go.Proofs.YtjeomlickkpebaaGreatDoor
