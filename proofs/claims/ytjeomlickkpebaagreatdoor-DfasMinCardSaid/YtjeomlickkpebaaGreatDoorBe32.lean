/-
  limnerref11.Rule.Step: what it returns.
-/
import Derived.Test.YtjeomlickkpebaaGreatDoorBe15
namespace Go.Proofs.YtjeomlickkpebaaGreatDoor
open Go.RowKit
structure Z2 (w0 w:World) (G m:Nat) (h:Nat→Bool):Prop where
 m:∃M,yP w G M∧M.length=m∧∀j,j<m→M.getD j false=h j
 b:Below w0.heap.size w0 w
 g:w0.heap.size≤G
section
variable {w0 w w':World} {G m i:Nat} {h:Nat→Bool}
theorem Z2.row (hW:Z2 w0 w G m h) (hm:0<m):zCL w (.slice (some ⟨G,0,none⟩) m m) m h:=by
 obtain⟨⟨M,h1,h2,h3⟩,_,_⟩:=hW;exact BolO.of_blk h1 h2 hm (fun e=>e) h3
theorem Z2.rowN (hW:Z2 w0 w G m h) (hm:0<m):BolO (fun k=>k<w0.heap.size) w (.slice (some ⟨G,0,none⟩) m m) m h:=by
 obtain⟨⟨M,h1,h2,h3⟩,_,hG⟩:=hW;exact BolO.of_blk h1 h2 hm (fun e=>by omega) h3
theorem Z2.under (hW:Z2 w0 w G m h) (hb:Below w.heap.size w w'):Z2 w0 w' G m h:=by
 obtain⟨⟨M,h1,h2,h3⟩,h4,h5⟩:=hW;exact⟨⟨M,h1.keep (keep_below (fun _=>True) hb) trivial,h2,h3⟩,h4.trans (hb.mono h4.size),h5⟩
theorem Z2.congr {f:Nat→Bool} (hW:Z2 w0 w G m h) (he:∀j,j<m→h j=f j):Z2 w0 w G m f:=by
 obtain⟨⟨M,h1,h2,h3⟩,h4,h5⟩:=hW;exact⟨⟨M,h1,h2,fun j hj=>by rw[h3 j hj,he j hj]⟩,h4,h5⟩
theorem Z2.store (hW:Z2 w0 w G m h) (hi:i<m) (b:Bool):(w.cell? ⟨G,i,none⟩=some (.bool (h i)))∧w.frozen? ⟨G,i,none⟩=false∧G<w.heap.size∧Z2 w0 (w.setCell ⟨G,i,none⟩ (.bool b)) G m (fun j=>if j=i then b else h j):=by
 obtain⟨⟨M,h1,h2,h3⟩,h4,h5⟩:=hW;have hk:KeepW (fun k=>k≠G) w (w.setCell ⟨G,i,none⟩ (.bool b)):=zE G i none _ w fun h=>h rfl;refine⟨by rw[h1.at_ (by omega) false,h3 i hi],h1.frozen i,h1.lt,⟨M.set i b,h1.set i b,by rw[List.length_set];exact h2,fun j hj=> ?_⟩,KeepW.below h4 hk h4.size fun k hk=>by omega,h5⟩;rw[Qt b (by omega)];split
 ·rfl
 ·exact h3 j hj
end
def zC0 (r:RuN) (f:Nat→Bool) (b q:Nat):Nat→Bool:=fun j=>if j<q then qI r f b j else QO r f r.m j
theorem VU (r:RuN) (f:Nat→Bool) (b q:Nat) (y:Bool) (h:y=qI r f b q) (j:Nat):(if j=q then y else zC0 r f b q j)=zC0 r f b (q+1) j:=by
 unfold zC0;by_cases e:j=q
 ·subst e;rw[if_pos rfl,if_pos (by omega),h]
 ·rw[if_neg e];by_cases e2:j<q
  ·rw[if_pos e2,if_pos (by omega)]
  ·rw[if_neg e2,if_neg (by omega)]
section
variable {w:World} {v u:Value} {r:RuN} {f:Nat→Bool}
theorem RuO.rowAt {old:Nat→Prop} (h:RuO old w v r) {k:Nat} (hk:k<r.m):∃R g cap y,v= .pointer (some ⟨R,0,none⟩)∧w.cell? ⟨R,1,none⟩=some (.slice (some ⟨g,0,none⟩) r.m cap)∧r.m≤cap∧w.cell? ⟨g,k,none⟩=some y∧zCL w y r.m (r.behind k):=by
 obtain⟨_,_,_,R,sv,bv,lv,hv,_,c1,_,_,_,⟨g,cap,rfl,hc,_,hr⟩,_⟩:=h;obtain⟨y,h4,h5⟩:=hr k hk;exact⟨R,g,cap,y,hv,c1,hc,h4,h5.read⟩
theorem RuO.setAt {old:Nat→Prop} (h:RuO old w v r) {k:Nat} {s:St4} (hk:r.sets[k]? =some s):∃R g o cap,v= .pointer (some ⟨R,0,none⟩)∧w.cell? ⟨R,0,none⟩=some (.slice (some ⟨g,o,none⟩) r.m cap)∧r.m≤cap∧∀(j:Nat) x,j<4→(set4C s)[j]? =some x→w.cell? ⟨g,o+(k*4+j),none⟩=some x:=by
 obtain⟨_,_,_,R,sv,bv,lv,hv,c0,_,_,⟨ao,cap,rfl,hn,hc⟩,_⟩:=h;obtain⟨g,o,rfl,_⟩:=hc (k*4+0) _ (by rw[Xj r.sets k s hk 0 (by decide)];rfl);refine⟨R,g,o,cap,hv,c0,hn,fun j x hj hx=> ?_⟩;obtain⟨g',o',e,_,hg⟩:=hc (k*4+j) x (by rw[Xj r.sets k s hk j hj];exact hx);cases e;exact hg
set_option maxRecDepth 4000 in
set_option maxHeartbeats 8000000 in
theorem zC1 (h:RuR w v r) (hs:∀s,s∈r.sets→OkR s) (hu:zCL w u r.m f) (b:Nat) (hb:b<256):
  Calls Tryz.prog 41 #[v,u,.int .u8 (b:Int)] w fun e w'=>∃G,e= .returned (.slice (some ⟨G,0,none⟩) r.m r.m)∧BolO (fun k=>k<w.heap.size) w' (.slice (some ⟨G,0,none⟩) r.m r.m) r.m (qI r f b)∧Below w.heap.size w w':=by
 have HV:=qh h;have HU:=qh (fun (W:World) (hb:Below w.heap.size w W)=>hu.below hb);have HS:=qh hs;have HH:=qh (fun (s:St4) (hs:OkR s) (W:World)=>Xn s b W hs hb);have hpos:=h.pos;have hfew:=h.few;have HLN:=qh h.len;obtain⟨_,gu,cu,rfl,hcu,_,_⟩:=hu;obtain⟨_,_,_,R,_,_,_,rfl,_⟩:=h;have hmk:=yr r.m (by omega) w;have H0:Hid (Z2 w (w.alloc (.cells (boolC (noneB r.m)).toArray 4)) w.heap.size r.m (QO r f 0)):=qh ⟨⟨noneB r.m,blkM_new w r.m,zi r.m,fun j _=>noneB_get r.m j⟩,zA _ _,Nat.le_refl _⟩;obtain⟨m,hm⟩:∃m,r.m=m:=⟨_,rfl⟩;have HM:=qh hm;rw[hm] at hpos hfew hcu hmk H0 ⊢;clear hm hs;go_enter Tryz.func41,Tryz.ntmps41;go_wp2_with fail
 obtain⟨W1,hW1⟩:∃W1,w.alloc (.cells (boolC (noneB m)).toArray 4)=W1:=⟨_,rfl⟩;(try rw[hW1]);rw[hW1] at H0;clear hW1 hmk;obtain⟨G0,hG0⟩:∃G0,w.heap.size=G0:=⟨_,rfl⟩;(try rw[hG0]);have H1:Hid (Z2 w W1 G0 m (QO r f 0)):=qh (by rw[←hG0];exact H0.out);clear hG0 H0;go_loopw [7,8] (fun s7 s8 wr=>∃p G:Nat,s8= .int .i64 (p:Int)∧p≤m∧s7= .slice (some ⟨G,0,none⟩) m m∧Hid (Z2 w wr G m (QO r f p))) (fun _ s8 _=>m-(intOf s8).toNat)
 case atStart=>exact⟨0,G0,rfl,Nat.zero_le _,rfl,H1⟩
 case round=>
  obtain⟨p,G,rfl,hp,rfl,HQ⟩:=hrel;clear H1;have i0:(0:Int)≤(p:Int):=by omega
  have ib:(p:Int)≤1000:=by omega
  by_cases hlt:p<m
  ·have hli:(p:Int)<(m:Int):=(by omega);obtain⟨_,gu',cu',hue,_,_,huc⟩:=HU.out wr HQ.out.b;injection hue with e1 e2 e3
   injection e1 with e1
   injection e1 with e1
   subst e1;have x0:=huc p (by rw[HM.out];exact hlt);clear huc e2 e3;rcases hf:f p with _ | _
   ·rw[hf] at x0;have H2:Hid (Z2 w wr G m (QO r f (p+1))):=qh (HQ.out.congr fun j _=>by rw[QO,if_neg (by rw[hf];decide)]);clear hf;go_wp2_with fail
    go_roundw
    case rel=>exact⟨p+1,G,by go_num,hlt,rfl,H2⟩
    case measure=>simp[intOf]<;>omega
   ·rw[hf] at x0;obtain⟨R',g,cap,y,hv,c1,hcap,c2,hy⟩:=(HV.out.below HQ.out.b).rowAt (k:=p) (by rw[HM.out];exact hlt);cases hv;rw[HM.out] at c1 hcap hy;have HO:=qh (zDC (HQ.out.row hpos) hy (by omega));have HE:Hid (∀j,orF (QO r f p) (r.behind p) j=QO r f (p+1) j):=qh fun j=>(by rw[QO,if_pos hf]);clear hf hy;go_wp2_with fail
    go_fit HO.out;rintro e w2 ⟨G2,rfl,hg2,hM2,hb2⟩;have H2:Hid (Z2 w w2 G2 m (QO r f (p+1))):=qh (Z2.congr ⟨hM2,HQ.out.b.trans (hb2.mono HQ.out.b.size),Nat.le_trans HQ.out.b.size hg2⟩ fun j _=>HE.out j);clear hg2 hM2 hb2 HO;go_wp2_with fail
    go_roundw
    case rel=>exact⟨p+1,G2,by go_num,hlt,rfl,H2⟩
    case measure=>simp[intOf]<;>omega
  ·have hli:¬(p:Int)<(m:Int):=(by omega);have hpm:p=m:=(by omega);have H2:Hid (Z2 w wr G m (zC0 r f b 0)):=qh (HQ.out.congr fun j _=>by unfold zC0;rw[if_neg (by omega),HM.out,hpm]);clear hpm HQ;go_wp2_with fail
   obtain⟨wo,hwo⟩:∃wo:World,wr=wo:=⟨_,rfl⟩;rw[hwo] at H2;(try rw[hwo]);clear hwo hp hlt hli i0 ib;go_loopw [9] (fun s9 wr=>∃q:Nat,s9= .int .i64 (q:Int)∧q≤m∧Hid (Z2 w wr G m (zC0 r f b q))) (fun s9 _=>m-(intOf s9).toNat)
   case atStart=>exact⟨0,rfl,Nat.zero_le _,H2⟩
   case round=>
    obtain⟨q,rfl,hq,HQ⟩:=hrel;clear H2;have i0:(0:Int)≤(q:Int):=(by omega);have ib:(q:Int)≤1000:=(by omega);by_cases hlt:q<m
    ·have hli:(q:Int)<(m:Int):=(by omega);have hmid:zC0 r f b q q=QO r f r.m q:=(by unfold zC0;rw[if_neg (by omega)]);have HST:Hid (qI r f b q=(QO r f r.m q&&(decide (0<q)&&xf (setAt r.sets q) b))):=qh rfl;obtain⟨x0,x1,x2,hst⟩:=HQ.out.store hlt false;rw[hmid] at x0;obtain⟨a,ha⟩:∃a,QO r f r.m q=a:=⟨_,rfl⟩;rw[ha] at x0 HST;by_cases hno:a=false∨q=0
     ·have H3:Hid (Z2 w (wr.setCell ⟨G,q,none⟩ (.bool false)) G m (zC0 r f b (q+1))):=qh (hst.congr fun j _=>VU r f b q false (by
       rw[HST.out];rcases hno with e | e
       ·rw[e];rfl
       ·rw[e];simp) j)
      clear hmid ha hst HST;rcases a with _ | _
      ·clear hno;go_wp2_with fail
       go_roundw
       case rel=>exact⟨q+1,by go_num,hlt,H3⟩
       case measure=>simp[intOf]<;>omega
      ·have hq0:q=0:=hno.resolve_left (by decide);subst hq0;clear hno;go_wp2_with fail
       go_roundw
       case rel=>exact⟨0+1,by go_num,hlt,H3⟩
       case measure=>simp[intOf]<;>omega
     ·have hat:a=true:=by
       rcases a with _ | _
       ·exact absurd (.inl rfl) hno
       ·rfl
      have hqp:0<q:=(by omega);subst hat;obtain⟨s,hs⟩:∃s,r.sets[q]? =some s:=⟨_,List.getElem?_eq_getElem (by rw[HLN.out,HM.out];exact hlt)⟩;obtain⟨R',g,o,cap,hv,c0,hcap,hcell⟩:=(HV.out.below HQ.out.b).setAt hs;cases hv;rw[HM.out] at c0 hcap;have d0:=hcell 0 _ (by decide) rfl;have d1:=hcell 1 _ (by decide) rfl;have d2:=hcell 2 _ (by decide) rfl;have d3:=hcell 3 _ (by decide) rfl;simp only[Nat.add_zero,←Nat.add_assoc] at d0 d1 d2 d3;have HA:=qh (HH.out s (HS.out s (List.mem_of_getElem? hs)) wr);have hsa:Hid (qI r f b q=xf s b):=qh (by
       rw[HST.out,decide_eq_true hqp];have e:setAt r.sets q=s:=(by unfold setAt;rw[List.getD_eq_getElem?_getD,hs];rfl);rw[e];simp)
      obtain⟨y,hy⟩:∃y,xf s b=y:=⟨_,rfl⟩;rw[hy] at HA hsa;have hqi:(q:Int)>0:=(by omega);have hqi2:(0:Int)<(q:Int):=(by omega);unfold xW at HA;clear hmid ha hst HST hno hcell hs hy x1 x2;go_wp2_with fail
      go_fit HA.out;rintro e w2 ⟨rfl,hb2⟩;have H2:=qh (HQ.out.under hb2);obtain⟨z0,z1,z2,hst⟩:=H2.out.store hlt y;have H3:Hid (Z2 w (w2.setCell ⟨G,q,none⟩ (.bool y)) G m (zC0 r f b (q+1))):=qh (hst.congr fun j _=>VU r f b q y hsa.out.symm j);clear hst hb2 HA H2;go_wp2_with fail
      go_roundw
      case rel=>exact⟨q+1,by go_num,hlt,H3⟩
      case measure=>simp[intOf]<;>omega
    ·have hli:¬(q:Int)<(m:Int):=(by omega);have HF:=qh (show BolO (fun k=>k<w.heap.size) wr (.slice (some ⟨G,0,none⟩) m m) m (qI r f b)∧Below w.heap.size w wr from⟨(HQ.out.congr (f:=qI r f b) fun j hj=>by unfold zC0;rw[if_pos (by omega)]).rowN hpos,HQ.out.b⟩);clear HQ;go_wp2_with fail
     go_ret
     exact⟨G,rfl,HF.out⟩
end
end Go.Proofs.YtjeomlickkpebaaGreatDoor
