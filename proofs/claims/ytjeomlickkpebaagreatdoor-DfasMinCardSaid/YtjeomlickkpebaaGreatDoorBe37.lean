/-
  Texts of this proof, one behind the other; each begins with its own remark.
-/
import Derived.Test.YtjeomlickkpebaaGreatDoorBe31
namespace Go.Proofs.YtjeomlickkpebaaGreatDoor
open Go.RowKit
def staD (s:List Int×Int):List Value:=s.1.map (Value.int .i64)++ [.int .i64 s.2]
def vN:List (List Int×Int)→List Value
 | []=> []
 | s::q=>staD s++vN q
def zIZ (q:List (List Int×Int)):Prop:=∀s,s∈q→s.1.length=256
theorem qC {s:List Int×Int} (h:s.1.length=256):(staD s).length=257:=by
 unfold staD;rw[List.length_append,List.length_map,h];rfl
theorem J7:∀q r,vN (q++r)=vN q++vN r
 | [],r=>rfl
 | s::q,r=>by rw[List.cons_append,vN,vN,J7 q r,List.append_assoc]
theorem V0:∀(q:List (List Int×Int)) (i:Nat) (s:List Int×Int),zIZ q→q[i]? =some s→∀j,j<257→(vN q)[i*257+j]? =(staD s)[j]?
 | t::q,0,s,hw,h,j,hj=>by
  cases h;rw[vN,Nat.zero_mul,Nat.zero_add,List.getElem?_append_left (by rw[qC (hw t (by simp))];exact hj)]
 | t::q,i+1,s,hw,h,j,hj=>by
  have hl:=qC (hw t (by simp));rw[vN,List.getElem?_append_right (by rw[hl];omega),hl,show (i+1)*257+j-257=i*257+j by omega];exact V0 q i s (fun t ht=>hw t (by simp[ht])) h j hj
theorem zCB {s:List Int×Int} {j:Nat} {a:Int} (h:s.1[j]? =some a):(staD s)[j]? =some (.int .i64 a):=by
 unfold staD;rw[List.getElem?_append_left (by rw[List.length_map];exact (List.getElem?_eq_some_iff.1 h).1),List.getElem?_map,h];rfl
theorem Z3 {s:List Int×Int} (h:s.1.length=256):(staD s)[256]? =some (.int .i64 s.2):=by
 unfold staD;rw[List.getElem?_append_right (by rw[List.length_map,h];exact Nat.le_refl _),List.length_map,h];rfl
theorem QK {s:List Int×Int}:∀x,x∈staD s→x.oneCell'=true:=fun x hx=>by
 unfold staD at hx;rcases List.mem_append.1 hx with hx | hx
 ·obtain⟨a,_,rfl⟩:=List.mem_map.1 hx;rfl
 ·rw[List.mem_singleton.1 hx];rfl
structure DfV (w:World) (v:Value) (d:Dfa):Prop where
 few:d.n≤2000
 len:d.rule.length=d.n
 row:∀r,r∈d.next→r.length=256
 low:∀r,r∈d.next→∀x,x∈r→ -1≤x
 alow:∀x,x∈d.rule→ -1≤x
 at_:(v= .pointer none∧d.n=0)∨∃B sv,v= .pointer (some ⟨B,0,none⟩)∧w.cell? ⟨B,0,none⟩=some sv∧jO (fun _=>True) w sv d.n (vN (d.next.zip d.rule))
section
variable {w w':World} {v:Value} {d:Dfa}
theorem DfV.below (h:DfV w v d) (hb:Below w.heap.size w w'):DfV w' v d:=by
 obtain⟨h1,h2,h3,h4,h5,h6⟩:=h;have hk:=keep_below (fun _=>True) hb;refine⟨h1,h2,h3,h4,h5,?_⟩;rcases h6 with h6 | ⟨B,sv,hv,c0,hs⟩
 ·exact .inl h6
 ·exact .inr ⟨B,sv,hv,hk.cell c0 trivial,hs.keep hk fun _ _ h=>h⟩
theorem zHE (h:∀r,r∈d.next→r.length=256):zIZ (d.next.zip d.rule):=fun s hs=>h s.1 (List.of_mem_zip hs).1
theorem DfV.to_low (h:DfV w v d) (q:Int) (b:Nat): -1≤d.to q b:=by
 unfold Dfa.to;split
 ·by_cases hq:q.toNat<d.next.length
  ·rw[zj (List.getElem?_eq_getElem hq)];by_cases hb:b<(d.next[q.toNat]).length
   ·rw[zj (List.getElem?_eq_getElem hb)];exact h.low _ (List.getElem_mem hq) _ (List.getElem_mem hb)
   ·rw[xx (by omega)];exact Int.le_refl _
  ·rw[xx (l:=d.next) (by omega)];exact Int.le_refl _
 ·exact Int.le_refl _
theorem DfV.acc_low (h:DfV w v d) (q:Int): -1≤d.acc q:=by
 unfold Dfa.acc;split
 ·by_cases hq:q.toNat<d.rule.length
  ·rw[zj (List.getElem?_eq_getElem hq)];exact h.alow _ (List.getElem_mem hq)
  ·rw[xx (by omega)];exact Int.le_refl _
 ·exact Int.le_refl _
theorem zIF {q:Int} (h:¬(0≤q∧q<(d.n:Int))) (b:Nat):d.to q b= -1:=by
 unfold Dfa.to;split
 ·rename_i h0;rw[xx (l:=d.next) (by have:¬q<(d.next.length:Int):=fun e=>h ⟨h0,e⟩;omega)];rfl
 ·rfl
theorem zHF (hl:d.rule.length=d.n) {q:Int} (h:¬(0≤q∧q<(d.n:Int))):d.acc q= -1:=by
 unfold Dfa.acc;split
 ·rw[xx (by omega)]
 ·rfl
theorem DfV.sta (h:DfV w v d) {k:Nat} (hk:k<d.n):∃B g o cap,v= .pointer (some ⟨B,0,none⟩)∧w.cell? ⟨B,0,none⟩=some (.slice (some ⟨g,o,none⟩) d.n cap)∧d.n≤cap ∧
  (∀b,b<256→w.cell? ⟨g,o+(k*257+b),none⟩=some (.int .i64 (d.to k b)))∧w.cell? ⟨g,o+(k*257+256),none⟩=some (.int .i64 (d.acc k))∧∃r,r.length=256∧(∀b,b<256→r[b]? =some (d.to k b))∧w.rangeAt g (o+k*257) (staD (r,d.acc k)):=by
 have hkn:k<d.next.length:=hk;obtain⟨h1,h2,h3,h4,h5,h6⟩:=h;rcases h6 with ⟨_,h6⟩ | ⟨B,sv,hv,c0,⟨ao,cap,rfl,hn,hc⟩⟩
 ·omega
 have hz:(d.next.zip d.rule)[k]? =some (d.next[k],d.rule[k]'(by omega)):=by
  rw[List.getElem?_eq_getElem (by rw[List.length_zip,h2];unfold Dfa.n at *;omega),List.getElem_zip]
 have h256:=h3 _ (List.getElem_mem hkn);have hto:∀b,b<256→d.next[k][b]? =some (d.to k b):=fun b hb=>by
  unfold Dfa.to;rw[if_pos (by omega),Int.toNat_natCast,zj (List.getElem?_eq_getElem hkn),List.getElem?_eq_getElem (by omega),zj (List.getElem?_eq_getElem (by omega))]
 have hacc:d.rule[k]'(by omega)=d.acc k:=by
  unfold Dfa.acc;rw[if_pos (by omega),Int.toNat_natCast,zj (List.getElem?_eq_getElem (by omega))]
 have hat:=fun j hj=>V0 _ k _ (zHE h3) hz j hj;rw[hacc] at hat;obtain⟨g,o,rfl,_⟩:=hc (k*257+256) _ (by rw[hat 256 (by decide)];exact Z3 h256);have hcell:∀j x,j<257→(staD (d.next[k],d.acc k))[j]? =some x→w.cell? ⟨g,o+(k*257+j),none⟩=some x:=fun j x hj hx=>by
  obtain⟨g',o',e,_,hg⟩:=hc (k*257+j) x (by rw[hat j hj];exact hx);cases e;exact hg
 refine⟨B,g,o,cap,hv,c0,hn,fun b hb=>hcell b _ (by omega) (zCB (hto b hb)),hcell 256 _ (by decide) (Z3 h256),d.next[k],h256,hto,fun j x hx=> ?_⟩;rw[Nat.add_assoc];exact hcell j x (by have:=(List.getElem?_eq_some_iff.1 hx).1;rw[qC h256] at this;exact this) hx
end
def DfW (w:World) (v:Value) (d:Dfa):Prop:=DfV w v d∧OkD d∧∀x,x∈d.rule→x≤100000
section
variable {w w':World} {v:Value} {d:Dfa}
theorem DfW.below (h:DfW w v d) (hb:Below w.heap.size w w'):DfW w' v d:=⟨h.1.below hb,h.2⟩
theorem DfW.ok (h:DfW w v d):OkD d:=h.2.1
theorem DfW.high (h:DfW w v d) (q:Int):d.acc q≤100000:=by
 unfold Dfa.acc;split
 ·by_cases hq:q.toNat<d.rule.length
  ·rw[zj (List.getElem?_eq_getElem hq)];exact h.2.2 _ (List.getElem_mem hq)
  ·rw[xx (by omega)];decide
 ·decide
theorem DfW.few (h:DfW w v d):d.n≤2000:=h.1.few
end
section
variable {w:World} {v:Value} {d:Dfa}
theorem jr (h:DfV w v d):Calls Tryz.prog 16 #[v] w fun e w'=>e= .returned (.int .i64 (d.n:Int))∧w'=w:=by
 have hfew:=h.few;rcases h.at_ with ⟨rfl,h0⟩ | ⟨B,sv,rfl,c0,⟨ao,cap,rfl,hn,hc⟩⟩
 ·rw[h0];clear h h0 hfew;go_enter Tryz.func16,Tryz.ntmps16;go_wp2_with fail
  go_ret
  exact⟨rfl,rfl⟩
 ·obtain⟨n,hnn⟩:∃n,d.n=n:=⟨_,rfl⟩;rw[hnn] at c0 hn ⊢;clear h hc hnn hfew;go_enter Tryz.func16,Tryz.ntmps16;go_wp2_with fail
  go_ret
  exact⟨rfl,rfl⟩
theorem J8 (h:DfV w v d) (k:Int):Calls Tryz.prog 37 #[v,.int .i64 k] w fun e w'=>e= .returned (.bool (decide (0≤k∧k<(d.n:Int))))∧w'=w:=by
 have HS:=qh (jr h);clear h;by_cases h0:0≤k
 ·by_cases h1:k<(d.n:Int)
  ·rw[decide_eq_true ⟨h0,h1⟩];go_enter Tryz.func37,Tryz.ntmps37;go_wp2_with fail
   go_fit HS.out;rintro e w2 ⟨rfl,rfl⟩;go_wp2_with fail
   go_ret
   exact⟨rfl,rfl⟩
  ·rw[decide_eq_false fun e=>h1 e.2];have hd:decide (k<(d.n:Int))=false:=decide_eq_false h1;go_enter Tryz.func37,Tryz.ntmps37;go_wp2_with fail
   go_fit HS.out;rintro e w2 ⟨rfl,rfl⟩;go_wp2_with fail
   go_ret
   exact⟨by first | rfl | (rw[←hd];rfl),rfl⟩
 ·rw[decide_eq_false fun e=>h0 e.1];go_enter Tryz.func37,Tryz.ntmps37;go_wp2_with fail
  go_ret
  exact⟨rfl,rfl⟩
theorem XT (h:DfV w v d) (k:Int) (b:Nat) (hb:b<256):Calls Tryz.prog 17 #[v,.int .i64 k,.int .u8 (b:Int)] w fun e w'=>e= .returned (.int .i64 (d.to k b))∧w'=w:=by
 have HH:=qh (J8 h k);by_cases hk:0≤k∧k<(d.n:Int)
 ·rw[decide_eq_true hk] at HH;obtain⟨m,rfl⟩:∃m:Nat,k=m:=⟨k.toNat,by omega⟩;obtain⟨B,g,o,cap,rfl,c0,hn,c1,_,_⟩:=h.sta (k:=m) (by omega);have c2:=c1 b hb;rw[←Nat.add_assoc] at c2;obtain⟨n,hnn⟩:∃n,d.n=n:=⟨_,rfl⟩;rw[hnn] at c0 hn hk;obtain⟨x,hx⟩:∃x,d.to m b=x:=⟨_,rfl⟩;rw[hx] at c2 ⊢;obtain⟨k0,k1⟩:=hk;have hmn:m<n:=by omega
  have hb2:(b:Int)<256:=by omega
  clear h hnn c1 hx;go_enter Tryz.func17,Tryz.ntmps17;go_wp2_with fail
  go_fit HH.out;rintro e w2 ⟨rfl,rfl⟩;go_wp2_with fail
  go_ret
  exact⟨rfl,rfl⟩
 ·rw[decide_eq_false hk] at HH;rw[zIF hk];clear h hk;go_enter Tryz.func17,Tryz.ntmps17;go_wp2_with fail
  go_fit HH.out;rintro e w2 ⟨rfl,rfl⟩;go_wp2_with fail
  go_ret
  exact⟨rfl,rfl⟩
theorem J9 (h:DfV w v d) (k:Int):Calls Tryz.prog 18 #[v,.int .i64 k] w fun e w'=>e= .returned (.int .i64 (d.acc k))∧w'=w:=by
 have HH:=qh (J8 h k);by_cases hk:0≤k∧k<(d.n:Int)
 ·rw[decide_eq_true hk] at HH;obtain⟨m,rfl⟩:∃m:Nat,k=m:=⟨k.toNat,by omega⟩;obtain⟨B,g,o,cap,rfl,c0,hn,_,c2,_⟩:=h.sta (k:=m) (by omega);rw[←Nat.add_assoc] at c2;obtain⟨n,hnn⟩:∃n,d.n=n:=⟨_,rfl⟩;rw[hnn] at c0 hn hk;obtain⟨x,hx⟩:∃x,d.acc m=x:=⟨_,rfl⟩;rw[hx] at c2 ⊢;obtain⟨k0,k1⟩:=hk;have hmn:m<n:=by omega
  clear h hnn hx;go_enter Tryz.func18,Tryz.ntmps18;go_wp2_with fail
  go_fit HH.out;rintro e w2 ⟨rfl,rfl⟩;go_wp2_with fail
  go_ret
  exact⟨rfl,rfl⟩
 ·rw[decide_eq_false hk] at HH;rw[zHF h.len hk];clear h hk;go_enter Tryz.func18,Tryz.ntmps18;go_wp2_with fail
  go_fit HH.out;rintro e w2 ⟨rfl,rfl⟩;go_wp2_with fail
  go_ret
  exact⟨rfl,rfl⟩
theorem KS (h:DfV w v d) (s:ByteArray) (hs:s.size≤1000) (a:Nat) (ha:a≤s.size):
  Calls Tryz.prog 20 #[v,.string s,.int .i64 (a:Int)] w fun e w'=>e= .returned (.tuple #[.int .i64 (j4 d (zB s a)).1,.int .i64 (j4 d (zB s a)).2.1,.int .i64 (j4 d (zB s a)).2.2])∧Below w.heap.size w w':=by
 have HSP:=qh (fun (W:World) (hb:Below w.heap.size w W) (k:Int) (b:Nat) (hb2:b<256)=>XT (h.below hb) k b hb2);have HAC:=qh (fun (W:World) (hb:Below w.heap.size w W) (k:Int)=>J9 (h.below hb) k);have HLO:=qh (And.intro h.to_low h.acc_low);have ha1:¬(a:Int)<0:=by omega
 have ha2:¬(a:Int)>(s.size:Int):=by omega
 have ha3:(a:Int)≤1000:=by omega
 have hd1:decide ((a:Int)<0)=false:=decide_eq_false ha1;have hd2:decide ((s.size:Int)<(a:Int))=false:=decide_eq_false (by omega);have HA0:=qh (HAC.out w (Below.refl _ _) 0);obtain⟨r0,hr0⟩:∃r0,d.acc 0=r0:=⟨_,rfl⟩;have H0:Hid (zFW d (zB s (a+0)) 0 0 0 r0=j4 d (zB s a)∧Below w.heap.size w w):=qh ⟨by rw[←hr0];rfl,Below.refl _ _⟩;rw[hr0] at HA0;clear h hr0;go_enter Tryz.func20,Tryz.ntmps20;go_wp2_with fail
 go_fit HA0.out;rintro e w1 ⟨rfl,rfl⟩;clear HA0;go_wp2_with fail
 go_loopw [6,7,8,9] (fun s6 s7 s8 s9 wr=>∃(j:Nat) (lg ru q:Int),s8= .int .i64 (j:Int)∧a+j≤s.size∧s6= .int .i64 lg∧s7= .int .i64 ru∧s9= .int .i64 q∧Hid (zFW d (zB s (a+j)) q j lg ru=j4 d (zB s a)∧Below w1.heap.size w1 wr)) (fun _ _ s8 _ _=>s.size-(intOf s8).toNat)
 case atStart=>exact⟨0,0,r0,0,rfl,ha,rfl,rfl,rfl,H0⟩
 case round=>
  obtain⟨j,lg,ru,q,rfl,hj,rfl,rfl,rfl,HX⟩:=hrel;clear H0;have i0:(0:Int)≤(j:Int):=by omega
  have ib:(a:Int)+(j:Int)≤1000:=by omega
  have a0:(0:Int)≤(a:Int):=by omega
  by_cases hlt:a+j<s.size
  ·have hli:(a:Int)+(j:Int)<(s.size:Int):=(by omega);have hb:=zCN s (a+j) hlt;have hb2:=j6 s (a+j);have h5:=HX.out.1;rw[zH s (a+j) hlt,zFW] at h5;obtain⟨c,hc⟩:∃c,bR s (a+j)=c:=⟨_,rfl⟩;rw[hc] at hb hb2 h5;have H4:=qh (HSP.out wr HX.out.2 q c hb2);obtain⟨t,ht⟩:∃t,d.to q c=t:=⟨_,rfl⟩;have htl:=HLO.out.1 q c;rw[ht] at H4 h5 htl;have HB:=qh HX.out.2;have ej:((a+j:Nat):Int)=(a:Int)+(j:Int):=(by omega);have hX2:=HX.out.2;clear HX ht hc;by_cases ht0:t<0
   ·have htb:t= -1:=(by omega);subst htb;rw[if_pos (by decide)] at h5;have HE:Hid (lg=(j4 d (zB s a)).1∧ru=(j4 d (zB s a)).2.1∧(j:Int)=(j4 d (zB s a)).2.2):=qh ⟨by rw[←h5],by rw[←h5],by rw[←h5]⟩;clear h5 HSP HAC hX2;go_wp2_with fail
    go_fit H4.out;rintro e w4 ⟨rfl,rfl⟩;go_wp2_with fail
    go_ret3
    exact⟨by rw[←HE.out.1,←HE.out.2.1,←HE.out.2.2];rfl,HB.out⟩
   ·have htb:(t== -1)=false:=beq_eq_false_iff_ne.2 (by omega);rw[if_neg ht0] at h5;have H6:=qh (HAC.out wr hX2 t);obtain⟨r,hr⟩:∃r,d.acc t=r:=⟨_,rfl⟩;have hrl:=HLO.out.2 t;rw[hr] at H6 h5 hrl;clear hX2 hr;by_cases hr0:r<0
    ·have hrb:r= -1:=(by omega);subst hrb;rw[if_pos (by decide)] at h5;have HG:=qh h5;clear h5;go_wp2_with fail
     go_fit H4.out;rintro e w4 ⟨rfl,rfl⟩;go_wp2_with fail
     go_fit H6.out;rintro e w5 ⟨rfl,rfl⟩;go_wp2_with fail
     go_roundw
     case rel=>exact⟨j+1,lg,ru,t,by go_num,by omega,rfl,rfl,rfl,qh ⟨by rw[←HG.out];rfl,HB.out⟩⟩
     case measure=>simp[intOf]<;>omega
    ·have hrb:(r== -1)=false:=beq_eq_false_iff_ne.2 (by omega);have hrb2:(r != -1)=true:=bne_iff_ne.2 (by omega);rw[if_neg hr0] at h5;have HG:=qh h5;clear h5;go_wp2_with fail
     go_fit H4.out;rintro e w4 ⟨rfl,rfl⟩;go_wp2_with fail
     go_fit H6.out;rintro e w5 ⟨rfl,rfl⟩;go_wp2_with fail
     go_roundw
     case rel=>exact⟨j+1,(j:Int)+1,r,t,by go_num,by omega,by go_num,rfl,rfl,qh ⟨by rw[←HG.out];rfl,HB.out⟩⟩
     case measure=>simp[intOf]<;>omega
  ·have hli:¬(a:Int)+(j:Int)<(s.size:Int):=(by omega);have HE:Hid (lg=(j4 d (zB s a)).1∧ru=(j4 d (zB s a)).2.1∧(j:Int)=(j4 d (zB s a)).2.2∧Below w1.heap.size w1 wr):=by
    have h5:=HX.out.1;rw[show zB s (a+j)= [] from List.length_eq_zero_iff.1 (by rw[rest_len];omega),zFW] at h5;exact qh ⟨by rw[←h5],by rw[←h5],by rw[←h5],HX.out.2⟩
   clear HX HSP HAC;go_wp2_with fail
   go_ret3
   exact⟨by rw[←HE.out.1,←HE.out.2.1,←HE.out.2.2.1];rfl,HE.out.2.2.2⟩
theorem YX (s:ByteArray) (a:Int) (ha:a<0∨(s.size:Int)<a) (v:Value) (w:World):
  Calls Tryz.prog 20 #[v,.string s,.int .i64 a] w fun e w'=>e= .returned (.tuple #[.int .i64 0,.int .i64 (-1),.int .i64 0])∧w'=w:=by
 by_cases h0:a<0
 ·have hd1:decide (a<0)=true:=decide_eq_true h0;go_enter Tryz.func20,Tryz.ntmps20;go_wp2_with fail
  go_ret3
  exact⟨rfl,rfl⟩
 ·have hd1:decide (a<0)=false:=decide_eq_false h0;have hd2:decide ((s.size:Int)<a)=true:=decide_eq_true (by omega);have h1:(s.size:Int)<a:=by omega
  go_enter Tryz.func20,Tryz.ntmps20;go_wp2_with fail
  go_ret3
  exact⟨rfl,rfl⟩
theorem YY (h:DfV w v d) (s:ByteArray) (hs:s.size≤1000) (a:Int):
  Calls Tryz.prog 20 #[v,.string s,.int .i64 a] w fun e w'=>e= .returned (.tuple #[.int .i64 (qr d s a).1,.int .i64 (qr d s a).2.1,.int .i64 (qr d s a).2.2])∧Below w.heap.size w w':=by
 unfold qr;by_cases ha:a<0∨(s.size:Int)<a
 ·rw[if_pos ha];exact (YX s a ha v w).mono fun e w' ⟨he,hw⟩=>⟨he,by rw[hw];exact Below.refl _ _⟩
 ·rw[if_neg ha];obtain⟨m,rfl⟩:∃m:Nat,a=m:=⟨a.toNat,by omega⟩;rw[Int.toNat_natCast];exact KS h s hs m (by omega)
end
end Go.Proofs.YtjeomlickkpebaaGreatDoor
