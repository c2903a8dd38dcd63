/-
  Texts of this proof, one behind the other; each begins with its own remark.
-/
import Derived.Deep.CutRange
import Derived.Test.YtjeomlickkpebaaGreatDoorBe23
set_option maxHeartbeats 16000000
namespace Go.Proofs.YtjeomlickkpebaaGreatDoor
open Go.RowKit
def StP (s:ByteArray) (R:Nat) (w w':World) (o:Option (St4×List Nat)) (e:Ending):Prop:=
 KeepW (fun k=>k≠R) w w'∧match o with
 | some (t,r)=>e= .returned (xW t)∧RdW w' R s (s.size-r.length)
 | none=>e=Xq
def VI (S:St4) (l:List Nat):Option (St4×List Nat):=
 match letR true l with
 | none=>none
 | some (a,r)=>
  if r.head? =some 45 then
   match letR true r.tail with
   | none=>none
   | some (b,u)=>if b<a then none else some (zT S a (b+1-a),u)
  else some (zT S a 1,r)
structure SpW (w0 w:World) (R:Nat) (s:ByteArray) (j B:Nat) (T:St4):Prop where
 rx:RxW w R s j
 a:xv w B T
 b:xv w (B+1) noR
 kp:KeepW (fun k=>k≠R) w0 w
 ge:w0.heap.size≤B
 rl:R<B
 gl:4<B
section
variable {w0 w w':World} {R:Nat} {s:ByteArray} {j k B:Nat} {T:St4}
theorem SpW.move (h:SpW w0 w R s j B T) (hk:KeepW (fun k=>k≠R) w w') (hr:RdW w' R s k):SpW w0 w' R s k B T:=
 have h1:=h.rl
 ⟨h.rx.move hk hr,h.a.keep hk (by omega),h.b.keep hk (by omega),h.kp.trans hk,h.ge,h.rl,h.gl⟩
theorem SpW.below (h:SpW w0 w R s j B T) (hb:Below w.heap.size w w'):SpW w0 w' R s j B T:=h.move (keep_below _ hb) (h.rx.rd.below hb)
theorem qj {ok ok2:Nat→Prop} {a b c:World} (h:KeepW ok a b) (g:KeepW ok2 b c) (hm:∀k,k<a.heap.size→ok k→ok2 k):KeepW ok a c:=
 ⟨g.os.trans h.os,g.tape.trans h.tape,g.output.trans h.output,Nat.le_trans h.size g.size,fun k hk ho=>(g.same k (Nat.lt_of_lt_of_le hk h.size) (hm k hk ho)).trans (h.same k hk ho)⟩
theorem SpW.put (h:SpW w0 w R s j B T) (U:St4):SpW w0 (set4 w B U) R s j B U:=
 have h1:=h.rl;have h2:=h.gl;have h3:=h.ge
 ⟨h.rx.keep (zp w B U) (by omega) (by omega),h.a.all U,h.b.keep (zp w B U) (by omega),qj h.kp (zp w B U) fun k hk _=>by omega,h.ge,h.rl,h.gl⟩
end
theorem SpW.new {w:World} {R:Nat} {s:ByteArray} {i:Nat} (h:RxW w R s i) (S:St4):SpW w ((w.alloc (.cells #[.int .u64 (S.1:Int),.int .u64 (S.2.1:Int),.int .u64 (S.2.2.1:Int),.int .u64 (S.2.2.2:Int)] 51)).alloc (.cells #[.int .u64 0,.int .u64 0,.int .u64 0,.int .u64 0] 51)) R s i w.heap.size S:=by
 have hb1:=zA w (.cells #[.int .u64 (S.1:Int),.int .u64 (S.2.1:Int),.int .u64 (S.2.2.1:Int),.int .u64 (S.2.2.2:Int)] 51);have hb2:=(Below.refl w.heap.size w).alloc (Nat.le_refl _) (.cells #[.int .u64 (S.1:Int),.int .u64 (S.2.1:Int),.int .u64 (S.2.2.1:Int),.int .u64 (S.2.2.2:Int)] 51) |>.alloc (by rw[zC];omega) (.cells #[.int .u64 0,.int .u64 0,.int .u64 0,.int .u64 0] 51)
 have hs:=xv.new (w.alloc (.cells #[.int .u64 (S.1:Int),.int .u64 (S.2.1:Int),.int .u64 (S.2.2.1:Int),.int .u64 (S.2.2.2:Int)] 51)) noR;rw[zC] at hs;obtain⟨ev,he,_⟩:=h.err;exact⟨h.below hb2,(xv.new w S).below (zA _ _),hs,keep_below _ hb2,Nat.le_refl _,h.rd.lt,rlt he⟩
section
variable {w:World} {R:Nat} {s:ByteArray} {i:Nat}
theorem zB4 (S:St4) (hS:OkR S) (h:RxW w R s i) (hi:i≤s.size) (hs:s.size≤1000):
  Calls Tryz.prog 123 #[.pointer (some ⟨R,0,none⟩),xW S] w fun e w'=>StP s R w w' (VI S (zB s i)) e:=by
 have H0:=qh (SpW.new h S);have HL:=qh (fun (W:World) (hx:RxW W R s i)=>yd hx hi hs);obtain⟨O,hO⟩:∃O,VI S (zB s i)=O:=⟨_,rfl⟩;rw[hO];have HO:=qh hO;unfold xW;clear hO h;rcases hl:letR true (zB s i) with _ | ⟨a,r⟩
 ·simp only[hl] at HL;have HE:Hid (O=none):=by rw[←HO.out];unfold VI;rw[hl];exact rfl
  clear hl HO;go_enter Tryz.func123,Tryz.ntmps123;go_wp2_with fail
  obtain⟨W0,hW0⟩:∃W0,((w.alloc (.cells #[.int .u64 (S.1:Int),.int .u64 (S.2.1:Int),.int .u64 (S.2.2.1:Int),.int .u64 (S.2.2.2:Int)] 51)).alloc (.cells #[.int .u64 0,.int .u64 0,.int .u64 0,.int .u64 0] 51))=W0:=⟨_,rfl⟩;(try rw[hW0]);rw[hW0] at H0;clear hW0;obtain⟨B,hB⟩:∃B,w.heap.size=B:=⟨_,rfl⟩;rw[hB] at H0;(try rw[hB]);clear hB;go_fit (HL.out _ H0.out.rx);rintro e w1 ⟨hk,rfl⟩;exact⟨rfl,by rw[HE.out];exact⟨H0.out.kp.trans hk,rfl⟩⟩
 obtain⟨j,hij,hj,rfl,_,ha⟩:=qi hl;simp only[hl] at HL;have HSZ:=qh (za s j hj)
 have HO1:=qh (show (if (zB s j).head? =some 45 then (match letR true (zB s j).tail with
   | none=>none
   | some (b,u)=>if b<a then none else some (zT S a (b+1-a),u))
  else some (zT S a 1,zB s j))=O by rw[←HO.out];unfold VI;rw[hl])
 have a0:(0:Int)≤(a:Int):=by omega
 have a255:(a:Int)≤255:=by omega
 clear hl HO;by_cases h45:(zB s j).head? =some 45;case neg=>
  have HT:=qh (fun (W:World) (hr:RdW W R s j)=>qc hr hj 45 h45);have HE:Hid (O=some (zT S a 1,zB s j)):=by rw[←HO1.out,if_neg h45];exact rfl
  have HYES:=qh (fun W=>xn W);clear h45 HO1;go_enter Tryz.func123,Tryz.ntmps123;go_wp2_with fail
  obtain⟨W0,hW0⟩:∃W0,((w.alloc (.cells #[.int .u64 (S.1:Int),.int .u64 (S.2.1:Int),.int .u64 (S.2.2.1:Int),.int .u64 (S.2.2.2:Int)] 51)).alloc (.cells #[.int .u64 0,.int .u64 0,.int .u64 0,.int .u64 0] 51))=W0:=⟨_,rfl⟩;(try rw[hW0]);rw[hW0] at H0;clear hW0;obtain⟨B,hB⟩:∃B,w.heap.size=B:=⟨_,rfl⟩;rw[hB] at H0;(try rw[hB]);clear hB;go_fit (HL.out _ H0.out.rx);rintro e w1 ⟨hk,rfl,hr⟩;rw[HSZ.out] at hr;have H1:=qh (H0.out.move hk hr);clear hk hr;go_wp2_with fail
  go_fit (HT.out _ H1.out.rx.rd);rintro e w2 ⟨rfl,hr,hb⟩;have H2:=qh (H1.out.below hb);clear hr hb;go_wp2_with fail
  go_fit (HYES.out _);rintro e w3 ⟨rfl,rfl⟩;have HS4:Hid (SpW w w3 R s j B (zT S a 0)):=H2.out;clear H2;go_wp2_with fail
  go_loopw [7] (fun s7 wr=>∃n:Nat,s7= .int .i64 ((a+n:Nat):Int)∧n≤a+1-a∧Hid (SpW w wr R s j B (zT S a n))) (fun s7 _=>a+1-(intOf s7).toNat)
  case atStart=>exact⟨0,rfl,Nat.zero_le _,HS4⟩
  case round=>
   obtain⟨n,rfl,hn,HI⟩:=hrel;clear HS4;obtain⟨c,hc⟩:∃c,a+n=c:=⟨_,rfl⟩;have c0:(0:Int)≤(c:Int):=(by omega);rw[hc];by_cases hlt:c≤a
   ·have hlt':(c:Int)≤(a:Int):=(by omega);have hc255:(c:Int)≤255:=(by omega);have HOK:=qh (ok_with S a n (by omega) hS);have HN:=qh (show addR (zT S a n) c=zT S a (n+1) by rw[zT,hc]);obtain⟨T,hT⟩:∃T,zT S a n=T:=⟨_,rfl⟩;rw[hT] at HI HOK HN;have HW:=qh (fun W=>jh T c W HOK.out (by omega));unfold xW at HW;obtain⟨⟨x0,x1,x2,x3⟩,f0,f1,f2,f3⟩:=HI.out.a.cells;clear hT;go_wp2_with fail
    go_fit (HW.out _);rintro e w8 ⟨rfl,hb⟩;have HI2:=qh (HI.out.below hb);have HI3:=qh (HI2.out.put (addR T c));obtain⟨⟨y0,y1,y2,y3⟩,g0,g1,g2,g3⟩:=HI2.out.a.cells;have hBlt:=HI2.out.a.lt;unfold set4 at HI3;rw[HN.out] at HI3;rw[HN.out];clear hb x0 x1 x2 x3 f0 f1 f2 f3 HI;go_wp2_with fail
    go_roundw
    case rel=>exact⟨n+1,by rw[←hc];go_num,by omega,HI3⟩
    case measure=>simp[intOf];omega
   ·have hlt':(a:Int)<(c:Int):=(by omega);have hnn:n=a+1-a:=(by omega);have HV:=qh (show zT S a n=zT S a 1 by rw[hnn];rw[show a+1-a=1 by omega]);obtain⟨T,hT⟩:∃T,zT S a n=T:=⟨_,rfl⟩;rw[hT] at HI HV;have HF:=qh HI.out;obtain⟨⟨x0,x1,x2,x3⟩,f0,f1,f2,f3⟩:=HI.out.a.cells;obtain⟨⟨r0,r1,r2,r3⟩,g0,g1,g2,g3⟩:=HI.out.b.cells;have hBlt:=HI.out.b.lt;have hBlt1:=HI.out.a.lt;have hY:=HI.out.b.all T;have HKP:=qh (show KeepW (fun k=>k≠R) w (set4 wr (B+1) T)∧RdW (set4 wr (B+1) T) R s j from⟨qj HI.out.kp (zp wr (B+1) T) fun k hk _=>by have:=HI.out.ge;omega,HI.out.rx.rd.keep (zp wr (B+1) T) (by have:=HI.out.rl;omega)⟩);obtain⟨⟨y0,y1,y2,y3⟩,_⟩:=hY.cells;unfold set4 at y0 y1 y2 y3 HKP;have Y0:=qh y0;have Y1:=qh y1;have Y2:=qh y2;have Y3:=qh y3;clear HI hY y0 y1 y2 y3 hT;go_wp2_with fail
    have y0:=Y0.out;have y1:=Y1.out;have y2:=Y2.out;have y3:=Y3.out;exact bodyPost_ret (v:=xW T) (by simp[results,Tryz.results123,go_sem,xW,y0,y1,y2,y3]) rfl ⟨HKP.out.1,by rw[HE.out,←HV.out];exact⟨rfl,by rw[HSZ.out];exact HKP.out.2⟩⟩
 case pos=>
  have hjs:j<s.size:=Classical.byContradiction fun hn=>by rw[zf s j (by omega)] at h45;cases h45
  have HT:=qh (fun (W:World) (hr:RdW W R s j)=>xy hr hs 45 h45)
  have HO2:=qh (show (match letR true (zB s (j+1)) with
   | none=>none
   | some (b,u)=>if b<a then none else some (zT S a (b+1-a),u))=O by rw[←HO1.out,if_pos h45,zK])
  have HL2:=qh (fun (W:World) (hx:RxW W R s (j+1))=>yd hx (by omega) hs);clear h45 HO1;rcases hl:letR true (zB s (j+1)) with _ | ⟨b,u⟩
  ·simp only[hl] at HL2;have HE:Hid (O=none):=(by rw[←HO2.out,hl];exact rfl);clear hl HO2;go_enter Tryz.func123,Tryz.ntmps123;go_wp2_with fail
   obtain⟨W0,hW0⟩:∃W0,((w.alloc (.cells #[.int .u64 (S.1:Int),.int .u64 (S.2.1:Int),.int .u64 (S.2.2.1:Int),.int .u64 (S.2.2.2:Int)] 51)).alloc (.cells #[.int .u64 0,.int .u64 0,.int .u64 0,.int .u64 0] 51))=W0:=⟨_,rfl⟩;(try rw[hW0]);rw[hW0] at H0;clear hW0;obtain⟨B,hB⟩:∃B,w.heap.size=B:=⟨_,rfl⟩;rw[hB] at H0;(try rw[hB]);clear hB;go_fit (HL.out _ H0.out.rx);rintro e w1 ⟨hk,rfl,hr⟩;rw[HSZ.out] at hr;have H1:=qh (H0.out.move hk hr);clear hk hr;go_wp2_with fail
   go_fit (HT.out _ H1.out.rx.rd);rintro e w2 ⟨rfl,hr,hk⟩;have H2:=qh (H1.out.move hk hr);clear hr hk;go_wp2_with fail
   go_fit (HL2.out _ H2.out.rx);rintro e w3 ⟨hk,rfl⟩;exact⟨rfl,by rw[HE.out];exact⟨H2.out.kp.trans hk,rfl⟩⟩
  obtain⟨m,hjm,hm,rfl,_,hb⟩:=qi hl;simp only[hl] at HL2;have HSM:=qh (za s m hm);have b0:(0:Int)≤(b:Int):=by omega
  have b255:(b:Int)≤255:=by omega
  have HO3:=qh (show (if b<a then none else some (zT S a (b+1-a),zB s m))=O by rw[←HO2.out,hl]);clear hl HO2;by_cases hba:b<a
  ·have HE:Hid (O=none):=(by rw[←HO3.out,if_pos hba];exact rfl);have HNO:=qh (fun W=>jW W);have hle:decide (a≤b)=false:=decide_eq_false (by omega);clear HO3 hba;go_enter Tryz.func123,Tryz.ntmps123;go_wp2_with fail
   obtain⟨W0,hW0⟩:∃W0,((w.alloc (.cells #[.int .u64 (S.1:Int),.int .u64 (S.2.1:Int),.int .u64 (S.2.2.1:Int),.int .u64 (S.2.2.2:Int)] 51)).alloc (.cells #[.int .u64 0,.int .u64 0,.int .u64 0,.int .u64 0] 51))=W0:=⟨_,rfl⟩;(try rw[hW0]);rw[hW0] at H0;clear hW0;obtain⟨B,hB⟩:∃B,w.heap.size=B:=⟨_,rfl⟩;rw[hB] at H0;(try rw[hB]);clear hB;go_fit (HL.out _ H0.out.rx);rintro e w1 ⟨hk,rfl,hr⟩;rw[HSZ.out] at hr;have H1:=qh (H0.out.move hk hr);clear hk hr;go_wp2_with fail
   go_fit (HT.out _ H1.out.rx.rd);rintro e w2 ⟨rfl,hr,hk⟩;have H2:=qh (H1.out.move hk hr);clear hr hk;go_wp2_with fail
   go_fit (HL2.out _ H2.out.rx);rintro e w3 ⟨hk,rfl,hr⟩;have H3:=qh (H2.out.move hk hr);clear hr hk;go_wp2_with fail
   go_fit (HNO.out _);rintro e w4 ⟨rfl,rfl⟩;exact⟨rfl,by rw[HE.out];exact⟨H3.out.kp,rfl⟩⟩
  ·have HE:Hid (O=some (zT S a (b+1-a),zB s m)):=(by rw[←HO3.out,if_neg hba];exact rfl);have HYES:=qh (fun W=>xn W);have hle:(a:Int)≤(b:Int):=(by omega);clear HO3 hba;go_enter Tryz.func123,Tryz.ntmps123;go_wp2_with fail
   obtain⟨W0,hW0⟩:∃W0,((w.alloc (.cells #[.int .u64 (S.1:Int),.int .u64 (S.2.1:Int),.int .u64 (S.2.2.1:Int),.int .u64 (S.2.2.2:Int)] 51)).alloc (.cells #[.int .u64 0,.int .u64 0,.int .u64 0,.int .u64 0] 51))=W0:=⟨_,rfl⟩;(try rw[hW0]);rw[hW0] at H0;clear hW0;obtain⟨B,hB⟩:∃B,w.heap.size=B:=⟨_,rfl⟩;rw[hB] at H0;(try rw[hB]);clear hB;go_fit (HL.out _ H0.out.rx);rintro e w1 ⟨hk,rfl,hr⟩;rw[HSZ.out] at hr;have H1:=qh (H0.out.move hk hr);clear hk hr;go_wp2_with fail
   go_fit (HT.out _ H1.out.rx.rd);rintro e w2 ⟨rfl,hr,hk⟩;have H2:=qh (H1.out.move hk hr);clear hr hk;go_wp2_with fail
   go_fit (HL2.out _ H2.out.rx);rintro e w3 ⟨hk,rfl,hr⟩;rw[HSM.out] at hr;have H3:=qh (H2.out.move hk hr);clear hr hk;go_wp2_with fail
   go_fit (HYES.out _);rintro e w4 ⟨rfl,rfl⟩;have HS4:Hid (SpW w w4 R s m B (zT S a 0)):=H3.out;clear H3;go_wp2_with fail
   go_loopw [7] (fun s7 wr=>∃n:Nat,s7= .int .i64 ((a+n:Nat):Int)∧n≤b+1-a∧Hid (SpW w wr R s m B (zT S a n))) (fun s7 _=>b+1-(intOf s7).toNat)
   case atStart=>exact⟨0,rfl,Nat.zero_le _,HS4⟩
   case round=>
    obtain⟨n,rfl,hn,HI⟩:=hrel;clear HS4;obtain⟨c,hc⟩:∃c,a+n=c:=⟨_,rfl⟩;have c0:(0:Int)≤(c:Int):=(by omega);rw[hc];by_cases hlt:c≤b
    ·have hlt':(c:Int)≤(b:Int):=(by omega);have hc255:(c:Int)≤255:=(by omega);have HOK:=qh (ok_with S a n (by omega) hS);have HN:=qh (show addR (zT S a n) c=zT S a (n+1) by rw[zT,hc]);obtain⟨T,hT⟩:∃T,zT S a n=T:=⟨_,rfl⟩;rw[hT] at HI HOK HN;have HW:=qh (fun W=>jh T c W HOK.out (by omega));unfold xW at HW;obtain⟨⟨x0,x1,x2,x3⟩,f0,f1,f2,f3⟩:=HI.out.a.cells;clear hT;go_wp2_with fail
     go_fit (HW.out _);rintro e w8 ⟨rfl,hb⟩;have HI2:=qh (HI.out.below hb);have HI3:=qh (HI2.out.put (addR T c));obtain⟨⟨y0,y1,y2,y3⟩,g0,g1,g2,g3⟩:=HI2.out.a.cells;have hBlt:=HI2.out.a.lt;unfold set4 at HI3;rw[HN.out] at HI3;rw[HN.out];clear hb x0 x1 x2 x3 f0 f1 f2 f3 HI;go_wp2_with fail
     go_roundw
     case rel=>exact⟨n+1,by rw[←hc];go_num,by omega,HI3⟩
     case measure=>simp[intOf];omega
    ·have hlt':(b:Int)<(c:Int):=(by omega);have hnn:n=b+1-a:=(by omega);have HV:=qh (show zT S a n=zT S a (b+1-a) by rw[hnn]);obtain⟨T,hT⟩:∃T,zT S a n=T:=⟨_,rfl⟩;rw[hT] at HI HV;have HF:=qh HI.out;obtain⟨⟨x0,x1,x2,x3⟩,f0,f1,f2,f3⟩:=HI.out.a.cells;obtain⟨⟨r0,r1,r2,r3⟩,g0,g1,g2,g3⟩:=HI.out.b.cells;have hBlt:=HI.out.b.lt;have hBlt1:=HI.out.a.lt;have hY:=HI.out.b.all T;have HKP:=qh (show KeepW (fun k=>k≠R) w (set4 wr (B+1) T)∧RdW (set4 wr (B+1) T) R s m from⟨qj HI.out.kp (zp wr (B+1) T) fun k hk _=>by have:=HI.out.ge;omega,HI.out.rx.rd.keep (zp wr (B+1) T) (by have:=HI.out.rl;omega)⟩);obtain⟨⟨y0,y1,y2,y3⟩,_⟩:=hY.cells;unfold set4 at y0 y1 y2 y3 HKP;have Y0:=qh y0;have Y1:=qh y1;have Y2:=qh y2;have Y3:=qh y3;clear HI hY y0 y1 y2 y3 hT;go_wp2_with fail
     have y0:=Y0.out;have y1:=Y1.out;have y2:=Y2.out;have y3:=Y3.out;exact bodyPost_ret (v:=xW T) (by simp[results,Tryz.results123,go_sem,xW,y0,y1,y2,y3]) rfl ⟨HKP.out.1,by rw[HE.out,←HV.out];exact⟨rfl,by rw[HSM.out];exact HKP.out.2⟩⟩
end
theorem vD {S:St4} {s:ByteArray} {i:Nat} {t:St4} {r:List Nat} (hS:OkR S) (h:VI S (zB s i)=some (t,r)):∃k,i<k∧k≤s.size∧r=zB s k∧OkR t:=by
 unfold VI at h;rcases hl:letR true (zB s i) with _ | ⟨a,q⟩
 ·rw[hl] at h;cases h
 rw[hl] at h;obtain⟨j,hij,hj,rfl,_,ha⟩:=qi hl;simp only at h;split at h
 ·rw[zK] at h;rcases hl2:letR true (zB s (j+1)) with _ | ⟨b,u⟩
  ·rw[hl2] at h;cases h
  rw[hl2] at h;obtain⟨m,hjm,hm,rfl,_,hb⟩:=qi hl2;simp only at h;split at h
  ·cases h
  ·cases h;exact⟨m,by omega,hm,rfl,ok_with _ _ _ (by omega) hS⟩
 ·cases h;exact⟨j,hij,hj,rfl,ok_with _ _ _ (by omega) hS⟩
theorem sq_one (f:Nat) (S:St4) (l:List Nat):spansR (f+1) true S l=match VI S l with
  | none=>none
  | some (t,r)=>spansR f false t r:=by
 simp only[spansR,VI];rw[if_neg (by simp)];rcases letR true l with _ | ⟨a,r⟩
 ·rfl
 simp only;split
 ·rcases letR true r.tail with _ | ⟨b,u⟩
  ·rfl
  simp only;split<;>rfl
 ·rfl
theorem zB5 (f:Nat) (S:St4) (l:List Nat) (h:l.head? ≠some 93):spansR (f+1) false S l=match VI S l with
  | none=>none
  | some (t,r)=>spansR f false t r:=by
 simp only[spansR,VI];rw[if_neg (fun e=>h e.2)];rcases letR true l with _ | ⟨a,r⟩
 ·rfl
 simp only;split
 ·rcases letR true r.tail with _ | ⟨b,u⟩
  ·rfl
  simp only;split<;>rfl
 ·rfl
theorem zB6 (f:Nat) (S:St4) (l:List Nat) (h:l.head? =some 93):spansR (f+1) false S l=some (S,l.tail):=by
 simp only[spansR];rw[if_pos ⟨trivial,h⟩]
def zGQ (w:World) (R:Nat):Nat:=match w.cell? ⟨R,1,none⟩ with
 | some (.int _ n)=>n.toNat
 | _=>0
theorem RdW.pos {w:World} {R:Nat} {s:ByteArray} {i:Nat} (h:RdW w R s i):zGQ w R=i:=by
 unfold zGQ;rw[h.cells.1.2];simp
structure SqW (w0 w:World) (R:Nat) (s:ByteArray) (j B C:Nat) (T:St4):Prop where
 rx:RxW w R s j
 b:xv w B noR
 c:xv w C T
 kp:KeepW (fun k=>k≠R) w0 w
 ge:w0.heap.size≤B
 bc:B<C
 rl:R<B
 gl:4<B
structure SrW (w0 w:World) (R:Nat) (s:ByteArray) (j B:Nat):Prop where
 rx:RxW w R s j
 b:xv w B noR
 kp:KeepW (fun k=>k≠R) w0 w
 ge:w0.heap.size≤B
 rl:R<B
 gl:4<B
section
variable {w0 w w':World} {R:Nat} {s:ByteArray} {j k B C:Nat} {T:St4}
theorem SrW.move (h:SrW w0 w R s j B) (hk:KeepW (fun k=>k≠R) w w') (hr:RdW w' R s k):SrW w0 w' R s k B:=
 have h1:=h.rl
 ⟨h.rx.move hk hr,h.b.keep hk (by omega),h.kp.trans hk,h.ge,h.rl,h.gl⟩
theorem SrW.below (h:SrW w0 w R s j B) (hb:Below w.heap.size w w'):SrW w0 w' R s j B:=h.move (keep_below _ hb) (h.rx.rd.below hb)
theorem SqW.move (h:SqW w0 w R s j B C T) (hk:KeepW (fun k=>k≠R) w w') (hr:RdW w' R s k):SqW w0 w' R s k B C T:=
 have h1:=h.rl;have h2:=h.bc
 ⟨h.rx.move hk hr,h.b.keep hk (by omega),h.c.keep hk (by omega),h.kp.trans hk,h.ge,h.bc,h.rl,h.gl⟩
theorem SqW.below (h:SqW w0 w R s j B C T) (hb:Below w.heap.size w w'):SqW w0 w' R s j B C T:=h.move (keep_below _ hb) (h.rx.rd.below hb)
theorem SqW.put (h:SqW w0 w R s j B C T) (U:St4):SqW w0 (set4 w C U) R s j B C U:=
 have h1:=h.rl;have h2:=h.gl;have h3:=h.ge;have h4:=h.bc
 ⟨h.rx.keep (zp w C U) (by omega) (by omega),h.b.keep (zp w C U) (by omega),h.c.all U,qj h.kp (zp w C U) fun k hk _=>by omega,h.ge,h.bc,h.rl,h.gl⟩
theorem SrW.new {w:World} {R:Nat} {s:ByteArray} {i:Nat} (h:RxW w R s i):SrW w (w.alloc (.cells #[.int .u64 0,.int .u64 0,.int .u64 0,.int .u64 0] 51)) R s i w.heap.size:=by
 have hb:=zA w (.cells #[.int .u64 0,.int .u64 0,.int .u64 0,.int .u64 0] 51);obtain⟨ev,he,_⟩:=h.err;exact⟨h.below hb,xv.new w noR,keep_below _ hb,Nat.le_refl _,h.rd.lt,rlt he⟩
theorem SrW.box (h:SrW w0 w R s j B) (U:St4):SqW w0 (w.alloc (.cells #[.int .u64 (U.1:Int),.int .u64 (U.2.1:Int),.int .u64 (U.2.2.1:Int),.int .u64 (U.2.2.2:Int)] 51)) R s j B w.heap.size U:=by
 have hb:=zA w (.cells #[.int .u64 (U.1:Int),.int .u64 (U.2.1:Int),.int .u64 (U.2.2.1:Int),.int .u64 (U.2.2.2:Int)] 51);have h2:=h.below hb;exact⟨h2.rx,h2.b,xv.new w U,h2.kp,h2.ge,h.b.lt,h2.rl,h2.gl⟩
theorem SqW.fin (h:SqW w0 w R s j B C T) (U:St4):KeepW (fun k=>k≠R) w0 (set4 w B U)∧RdW (set4 w B U) R s j∧xv (set4 w B U) B U:=
 have h1:=h.rl;have h2:=h.ge
 ⟨qj h.kp (zp w B U) fun k hk _=>by omega,h.rx.rd.keep (zp w B U) (by omega),h.b.all U⟩
end
def zGR (l:List Nat):Option (St4×List Nat):=
 if l.head? =some 94 then (spansR (l.length+1) true noR l.tail).map fun x=>(j5 x.1 256,x.2)
 else spansR (l.length+1) true noR l
theorem ZV (l:List Nat):zh l=(zGR l).map fun x=>(.mk 1 x.1 [],x.2):=by
 unfold zh zGR;split
 ·rcases spansR (l.length+1) true noR l.tail with _ | x<;>rfl
 ·rfl
section
variable {w:World} {R:Nat} {s:ByteArray} {i:Nat}
theorem Vv (h:RxW w R s i) (hi:i≤s.size) (hs:s.size≤1000):
  Calls Tryz.prog 118 #[.pointer (some ⟨R,0,none⟩)] w fun e w'=>StP s R w w' (zGR (zB s i)) e:=by
 have H0:=qh (SrW.new h);have HSP:=qh (fun S j W (hS:OkR S) (hx:RxW W R s j) (hj:j≤s.size)=>zB4 S hS hx hj hs);obtain⟨O,hO⟩:∃O,zGR (zB s i)=O:=⟨_,rfl⟩;rw[hO];have HO:=qh hO;clear hO h;by_cases h94:(zB s i).head? =some 94;case pos=>
  have his:i<s.size:=Classical.byContradiction fun hn=>by rw[zf s i (by omega)] at h94;cases h94
  have HO1:=qh (show (spansR ((zB s i).length+1) true noR (zB s (i+1))).map (fun x=>(j5 x.1 256,x.2))=O by rw[←HO.out];unfold zGR;rw[if_pos h94,zK]);have HT:=qh (fun (W:World) (hr:RdW W R s i)=>xy hr hs 94 h94);rw[sq_one] at HO1;clear HO h94;have HS1:=qh (fun W (hx:RxW W R s (i+1))=>HSP.out noR (i+1) W ok_no hx (by omega));rcases h1:VI noR (zB s (i+1)) with _ | ⟨t,r⟩
  ·simp only[h1] at HS1;have HE:Hid (O=none):=(by rw[←HO1.out,h1];exact rfl);clear h1 HO1;unfold xW at HS1;simp only[show ((noR.1:Nat):Int)=0 from rfl,show ((noR.2.1:Nat):Int)=0 from rfl,show ((noR.2.2.1:Nat):Int)=0 from rfl,show ((noR.2.2.2:Nat):Int)=0 from rfl] at HS1;go_enter Tryz.func118,Tryz.ntmps118;go_wp2_with fail
   obtain⟨W0,hW0⟩:∃W0,w.alloc (.cells #[.int .u64 0,.int .u64 0,.int .u64 0,.int .u64 0] 51)=W0:=⟨_,rfl⟩;(try rw[hW0]);rw[hW0] at H0;clear hW0;obtain⟨B,hB⟩:∃B,w.heap.size=B:=⟨_,rfl⟩;rw[hB] at H0;(try rw[hB]);clear hB;go_fit (HT.out _ H0.out.rx.rd);rintro e w1 ⟨rfl,hr,hk⟩;have H1:=qh (H0.out.move hk hr);clear hr hk;go_wp2_with fail
   go_fit (HS1.out _ H1.out.rx);rintro e w2 ⟨hk,rfl⟩;exact⟨rfl,by rw[HE.out];exact⟨H1.out.kp.trans hk,rfl⟩⟩
  obtain⟨j,hij,hj,rfl,ht⟩:=vD ok_no h1;simp only[h1] at HS1;have HF:Hid (∃f,s.size-j<f∧O=(spansR f false t (zB s j)).map (fun x=>(j5 x.1 256,x.2))):=⟨(zB s i).length,by rw[rest_len];omega,by rw[←HO1.out,h1]⟩;have HSZ:=qh (za s j hj);have HWO:=qh (fun T W (hT:OkR T)=>ji T W hT);unfold xW at HS1 HWO;simp only[show ((noR.1:Nat):Int)=0 from rfl,show ((noR.2.1:Nat):Int)=0 from rfl,show ((noR.2.2.1:Nat):Int)=0 from rfl,show ((noR.2.2.2:Nat):Int)=0 from rfl] at HS1;clear h1 HO1;go_enter Tryz.func118,Tryz.ntmps118;go_wp2_with fail
  obtain⟨W0,hW0⟩:∃W0,w.alloc (.cells #[.int .u64 0,.int .u64 0,.int .u64 0,.int .u64 0] 51)=W0:=⟨_,rfl⟩;(try rw[hW0]);rw[hW0] at H0;clear hW0;obtain⟨B,hB⟩:∃B,w.heap.size=B:=⟨_,rfl⟩;rw[hB] at H0;(try rw[hB]);clear hB;go_fit (HT.out _ H0.out.rx.rd);rintro e w1 ⟨rfl,hr,hk⟩;have H1:=qh (H0.out.move hk hr);clear hr hk;go_wp2_with fail
  go_fit (HS1.out _ H1.out.rx);rintro e w2 ⟨hk,rfl,hr⟩;unfold xW;rw[HSZ.out] at hr;have H2:=qh ((H1.out.move hk hr).box t);clear hk hr H1;go_wp2_with fail
  obtain⟨W3,hW3⟩:∃W3,w2.alloc (.cells #[.int .u64 (t.1:Int),.int .u64 (t.2.1:Int),.int .u64 (t.2.2.1:Int),.int .u64 (t.2.2.2:Int)] 51)=W3:=⟨_,rfl⟩;(try rw[hW3]);rw[hW3] at H2;clear hW3;obtain⟨C,hC⟩:∃C,w2.heap.size=C:=⟨_,rfl⟩;(try rw[hC]);rw[hC] at H2;clear hC;have HST:Hid (∃j T,j≤s.size∧OkR T∧SqW w W3 R s j B C T∧∃f,s.size-j<f∧O=(spansR f false T (zB s j)).map (fun x=>(j5 x.1 256,x.2))):=⟨j,t,hj,ht,H2.out,HF.out⟩;clear H2 HF;go_loopw [] (fun wr=>Hid (∃j T,j≤s.size∧OkR T∧SqW w wr R s j B C T∧∃f,s.size-j<f∧O=(spansR f false T (zB s j)).map (fun x=>(j5 x.1 256,x.2)))) (fun wr=>s.size+1-zGQ wr R)
  case atStart=>exact HST
  case round=>
   clear HST HSZ;obtain⟨j,T,hj,hT,hSQ,f,hf,hOf⟩:=hrel.out;have HQ:=qh hSQ;have HPOS:=qh hSQ.rx.rd.pos;obtain⟨f,rfl⟩:∃m,f=m+1:=⟨f-1,by omega⟩;have HOF:=qh hOf;clear hSQ hOf hrel;by_cases h93:(zB s j).head? =some 93
   ·have hjs:j<s.size:=Classical.byContradiction fun hn=>(by rw[zf s j (by omega)] at h93;cases h93);have HE:Hid (O=some (j5 T 256,zB s (j+1))):=(by rw[HOF.out,zB6 f T _ h93,zK];exact rfl);have HTY:=qh (xy HQ.out.rx.rd hs 93 h93);have HSZ:=qh (za s (j+1) (by omega));clear HOF h93;go_wp2_with fail
    go_fit HTY.out;rintro e w4 ⟨rfl,hr,hk⟩;have H4:=qh (HQ.out.move hk hr);clear hr hk HQ;obtain⟨⟨x0,x1,x2,x3⟩,_⟩:=H4.out.c.cells;have HW2:=qh (fun W=>HWO.out T W hT);go_wp2_with fail
    go_fit (HW2.out _);rintro e w6 ⟨rfl,hb⟩;have H6:=qh (H4.out.below hb);clear hb;obtain⟨⟨r0,r1,r2,r3⟩,g0,g1,g2,g3⟩:=H6.out.b.cells;have hBlt:=H6.out.b.lt;have hF:=H6.out.fin (j5 T 256);obtain⟨⟨y0,y1,y2,y3⟩,_⟩:=hF.2.2.cells;have HKP:=qh (And.intro hF.1 hF.2.1);unfold set4 at y0 y1 y2 y3 HKP;have Y0:=qh y0;have Y1:=qh y1;have Y2:=qh y2;have Y3:=qh y3;clear hF y0 y1 y2 y3;go_wp2_with fail
    have y0:=Y0.out;have y1:=Y1.out;have y2:=Y2.out;have y3:=Y3.out;exact bodyPost_ret (v:=xW (j5 T 256)) (by simp[results,Tryz.results118,go_sem,xW,y0,y1,y2,y3]) rfl ⟨HKP.out.1,by rw[HE.out];exact⟨rfl,by rw[HSZ.out];exact HKP.out.2⟩⟩
   ·have HTN:=qh (qc HQ.out.rx.rd hj 93 h93);have HOF2:=qh (HOF.out.trans (congrArg (fun x=>x.map (fun x=>(j5 x.1 256,x.2))) (zB5 f T _ h93)));have HSN:=qh (fun W (hx:RxW W R s j)=>HSP.out T j W hT hx hj);unfold xW at HSN;clear h93 HOF;rcases h1:VI T (zB s j) with _ | ⟨U,r⟩
    ·simp only[h1] at HSN;have HE:Hid (O=none):=(by rw[HOF2.out,h1];exact rfl);clear HOF2 h1;go_wp2_with fail
     go_fit HTN.out;rintro e w4 ⟨rfl,hr,hk⟩;have H4:=qh (HQ.out.below hk);clear hr hk HQ;obtain⟨⟨x0,x1,x2,x3⟩,_⟩:=H4.out.c.cells;go_wp2_with fail
     go_fit (HSN.out _ H4.out.rx);rintro e w5 ⟨hk,rfl⟩;exact⟨rfl,by rw[HE.out];exact⟨H4.out.kp.trans hk,rfl⟩⟩
    ·obtain⟨m,hjm,hm,rfl,hU⟩:=vD hT h1;simp only[h1] at HSN;have HOF3:Hid (O=(spansR f false U (zB s m)).map (fun x=>(j5 x.1 256,x.2))):=(by rw[HOF2.out,h1];exact rfl);have HSZ:=qh (za s m hm);clear HOF2 h1;go_wp2_with fail
     go_fit HTN.out;rintro e w4 ⟨rfl,hr,hk⟩;have H4:=qh (HQ.out.below hk);clear hr hk HQ;obtain⟨⟨x0,x1,x2,x3⟩,_⟩:=H4.out.c.cells;go_wp2_with fail
     go_fit (HSN.out _ H4.out.rx);rintro e w5 ⟨hk,rfl,hr⟩;unfold xW;rw[HSZ.out] at hr;have H5:=qh (H4.out.move hk hr);clear hr hk;have H6:=qh (H5.out.put U);obtain⟨⟨c0,c1,c2,c3⟩,d0,d1,d2,d3⟩:=H5.out.c.cells;have hClt:=H5.out.c.lt;unfold set4 at H6;clear x0 x1 x2 x3;go_wp2_with fail
     go_roundw
     case rel=>exact⟨m,U,hm,hU,H6.out,f,by omega,HOF3.out⟩
     case measure=>(rw[HPOS.out,H6.out.rx.rd.pos];omega)
 case neg=>
  have HO1:=qh (show spansR ((zB s i).length+1) true noR (zB s i)=O by rw[←HO.out];unfold zGR;rw[if_neg h94]);have HT:=qh (fun (W:World) (hr:RdW W R s i)=>qc hr hi 94 h94);rw[sq_one] at HO1;clear HO h94;have HS1:=qh (fun W (hx:RxW W R s i)=>HSP.out noR i W ok_no hx hi);rcases h1:VI noR (zB s (i)) with _ | ⟨t,r⟩
  ·simp only[h1] at HS1;have HE:Hid (O=none):=(by rw[←HO1.out,h1];exact rfl);clear h1 HO1;unfold xW at HS1;simp only[show ((noR.1:Nat):Int)=0 from rfl,show ((noR.2.1:Nat):Int)=0 from rfl,show ((noR.2.2.1:Nat):Int)=0 from rfl,show ((noR.2.2.2:Nat):Int)=0 from rfl] at HS1;go_enter Tryz.func118,Tryz.ntmps118;go_wp2_with fail
   obtain⟨W0,hW0⟩:∃W0,w.alloc (.cells #[.int .u64 0,.int .u64 0,.int .u64 0,.int .u64 0] 51)=W0:=⟨_,rfl⟩;(try rw[hW0]);rw[hW0] at H0;clear hW0;obtain⟨B,hB⟩:∃B,w.heap.size=B:=⟨_,rfl⟩;rw[hB] at H0;(try rw[hB]);clear hB;go_fit (HT.out _ H0.out.rx.rd);rintro e w1 ⟨rfl,hr,hk⟩;have H1:=qh (H0.out.below hk);clear hr hk;go_wp2_with fail
   go_fit (HS1.out _ H1.out.rx);rintro e w2 ⟨hk,rfl⟩;exact⟨rfl,by rw[HE.out];exact⟨H1.out.kp.trans hk,rfl⟩⟩
  obtain⟨j,hij,hj,rfl,ht⟩:=vD ok_no h1;simp only[h1] at HS1;have HF:Hid (∃f,s.size-j<f∧O=(spansR f false t (zB s j))):=⟨(zB s i).length,by rw[rest_len];omega,by rw[←HO1.out,h1]⟩;have HSZ:=qh (za s j hj);have HWO:=qh (fun T W (hT:OkR T)=>ji T W hT);unfold xW at HS1 HWO;simp only[show ((noR.1:Nat):Int)=0 from rfl,show ((noR.2.1:Nat):Int)=0 from rfl,show ((noR.2.2.1:Nat):Int)=0 from rfl,show ((noR.2.2.2:Nat):Int)=0 from rfl] at HS1;clear h1 HO1;go_enter Tryz.func118,Tryz.ntmps118;go_wp2_with fail
  obtain⟨W0,hW0⟩:∃W0,w.alloc (.cells #[.int .u64 0,.int .u64 0,.int .u64 0,.int .u64 0] 51)=W0:=⟨_,rfl⟩;(try rw[hW0]);rw[hW0] at H0;clear hW0;obtain⟨B,hB⟩:∃B,w.heap.size=B:=⟨_,rfl⟩;rw[hB] at H0;(try rw[hB]);clear hB;go_fit (HT.out _ H0.out.rx.rd);rintro e w1 ⟨rfl,hr,hk⟩;have H1:=qh (H0.out.below hk);clear hr hk;go_wp2_with fail
  go_fit (HS1.out _ H1.out.rx);rintro e w2 ⟨hk,rfl,hr⟩;unfold xW;rw[HSZ.out] at hr;have H2:=qh ((H1.out.move hk hr).box t);clear hk hr H1;go_wp2_with fail
  obtain⟨W3,hW3⟩:∃W3,w2.alloc (.cells #[.int .u64 (t.1:Int),.int .u64 (t.2.1:Int),.int .u64 (t.2.2.1:Int),.int .u64 (t.2.2.2:Int)] 51)=W3:=⟨_,rfl⟩;(try rw[hW3]);rw[hW3] at H2;clear hW3;obtain⟨C,hC⟩:∃C,w2.heap.size=C:=⟨_,rfl⟩;(try rw[hC]);rw[hC] at H2;clear hC;have HST:Hid (∃j T,j≤s.size∧OkR T∧SqW w W3 R s j B C T∧∃f,s.size-j<f∧O=(spansR f false T (zB s j))):=⟨j,t,hj,ht,H2.out,HF.out⟩;clear H2 HF;go_loopw [] (fun wr=>Hid (∃j T,j≤s.size∧OkR T∧SqW w wr R s j B C T∧∃f,s.size-j<f∧O=(spansR f false T (zB s j)))) (fun wr=>s.size+1-zGQ wr R)
  case atStart=>exact HST
  case round=>
   clear HST HSZ;obtain⟨j,T,hj,hT,hSQ,f,hf,hOf⟩:=hrel.out;have HQ:=qh hSQ;have HPOS:=qh hSQ.rx.rd.pos;obtain⟨f,rfl⟩:∃m,f=m+1:=⟨f-1,by omega⟩;have HOF:=qh hOf;clear hSQ hOf hrel;by_cases h93:(zB s j).head? =some 93
   ·have hjs:j<s.size:=Classical.byContradiction fun hn=>(by rw[zf s j (by omega)] at h93;cases h93);have HE:Hid (O=some (T,zB s (j+1))):=(by rw[HOF.out,zB6 f T _ h93,zK];exact rfl);have HTY:=qh (xy HQ.out.rx.rd hs 93 h93);have HSZ:=qh (za s (j+1) (by omega));clear HOF h93;go_wp2_with fail
    go_fit HTY.out;rintro e w4 ⟨rfl,hr,hk⟩;have H4:=qh (HQ.out.move hk hr);clear hr hk HQ;obtain⟨⟨x0,x1,x2,x3⟩,_⟩:=H4.out.c.cells;have H6:=H4;obtain⟨⟨r0,r1,r2,r3⟩,g0,g1,g2,g3⟩:=H6.out.b.cells;have hBlt:=H6.out.b.lt;have hF:=H6.out.fin (T);obtain⟨⟨y0,y1,y2,y3⟩,_⟩:=hF.2.2.cells;have HKP:=qh (And.intro hF.1 hF.2.1);unfold set4 at y0 y1 y2 y3 HKP;have Y0:=qh y0;have Y1:=qh y1;have Y2:=qh y2;have Y3:=qh y3;clear hF y0 y1 y2 y3;go_wp2_with fail
    have y0:=Y0.out;have y1:=Y1.out;have y2:=Y2.out;have y3:=Y3.out;exact bodyPost_ret (v:=xW (T)) (by simp[results,Tryz.results118,go_sem,xW,y0,y1,y2,y3]) rfl ⟨HKP.out.1,by rw[HE.out];exact⟨rfl,by rw[HSZ.out];exact HKP.out.2⟩⟩
   ·have HTN:=qh (qc HQ.out.rx.rd hj 93 h93);have HOF2:=qh (HOF.out.trans (congrArg (fun x=>x) (zB5 f T _ h93)));have HSN:=qh (fun W (hx:RxW W R s j)=>HSP.out T j W hT hx hj);unfold xW at HSN;clear h93 HOF;rcases h1:VI T (zB s j) with _ | ⟨U,r⟩
    ·simp only[h1] at HSN;have HE:Hid (O=none):=(by rw[HOF2.out,h1];exact rfl);clear HOF2 h1;go_wp2_with fail
     go_fit HTN.out;rintro e w4 ⟨rfl,hr,hk⟩;have H4:=qh (HQ.out.below hk);clear hr hk HQ;obtain⟨⟨x0,x1,x2,x3⟩,_⟩:=H4.out.c.cells;go_wp2_with fail
     go_fit (HSN.out _ H4.out.rx);rintro e w5 ⟨hk,rfl⟩;exact⟨rfl,by rw[HE.out];exact⟨H4.out.kp.trans hk,rfl⟩⟩
    ·obtain⟨m,hjm,hm,rfl,hU⟩:=vD hT h1;simp only[h1] at HSN;have HOF3:Hid (O=(spansR f false U (zB s m))):=(by rw[HOF2.out,h1];exact rfl);have HSZ:=qh (za s m hm);clear HOF2 h1;go_wp2_with fail
     go_fit HTN.out;rintro e w4 ⟨rfl,hr,hk⟩;have H4:=qh (HQ.out.below hk);clear hr hk HQ;obtain⟨⟨x0,x1,x2,x3⟩,_⟩:=H4.out.c.cells;go_wp2_with fail
     go_fit (HSN.out _ H4.out.rx);rintro e w5 ⟨hk,rfl,hr⟩;unfold xW;rw[HSZ.out] at hr;have H5:=qh (H4.out.move hk hr);clear hr hk;have H6:=qh (H5.out.put U);obtain⟨⟨c0,c1,c2,c3⟩,d0,d1,d2,d3⟩:=H5.out.c.cells;have hClt:=H5.out.c.lt;unfold set4 at H6;clear x0 x1 x2 x3;go_wp2_with fail
     go_roundw
     case rel=>exact⟨m,U,hm,hU,H6.out,f,by omega,HOF3.out⟩
     case measure=>(rw[HPOS.out,H6.out.rx.rd.pos];omega)
end
end Go.Proofs.YtjeomlickkpebaaGreatDoor
