/-
  Texts of this proof, one behind the other; each begins with its own remark.
-/
import Derived.Lib.Bytealg
import Derived.Test.YtjeomlickkpebaaGreatDoorBe11
set_option maxHeartbeats 4000000
namespace Go.Proofs.YtjeomlickkpebaaGreatDoor
open Go.RowKit
def RdW (w:World) (R:Nat) (s:ByteArray) (i:Nat):Prop:=w.heap[R]? =some (.cells #[.string s,.int .i64 (i:Int)] 169 (0,0))
def Xq:Ending:= .panicked [{v:= .iface 157 (.int .i64 10),recovered:=false}]
section
variable {w w':World} {R:Nat} {s:ByteArray} {i:Nat}
theorem RdW.lt (h:RdW w R s i):R<w.heap.size:=(Array.getElem?_eq_some_iff.1 h).1
theorem RdW.cells (h:RdW w R s i):(w.cell? ⟨R,0,none⟩=some (.string s)∧w.cell? ⟨R,1,none⟩=some (.int .i64 (i:Int)))∧w.frozen? ⟨R,0,none⟩=false∧w.frozen? ⟨R,1,none⟩=false:=by
 unfold RdW at h;refine⟨⟨?_,?_⟩,?_,?_⟩<;>first | (unfold World.cell?;rw[h];rfl) | (unfold World.frozen?;rw[h];simp)
theorem RdW.below (h:RdW w R s i) (hb:Below w.heap.size w w'):RdW w' R s i:=(hb.block R h.lt).trans h
theorem RdW.keep {ok:Nat→Prop} (h:RdW w R s i) (hk:KeepW ok w w') (ho:ok R):RdW w' R s i:=(hk.same R h.lt ho).trans h
theorem RdW.set (h:RdW w R s i) (j:Nat):RdW (w.setCell ⟨R,1,none⟩ (.int .i64 (j:Int))) R s j:=by
 unfold RdW at h ⊢;unfold World.setCell;simp only[Array.getElem?_modify,if_true,h,Option.map_some];rfl
theorem Jy (w:World) (R:Nat) (j:Int):KeepW (fun k=>k≠R) w (w.setCell ⟨R,1,none⟩ (.int .i64 j)):=zE R 1 none _ w fun h=>h rfl
end
def zDO (s:ByteArray) (c:Nat):Int:=Lib.indexByte s.data.toList (c:Int).toNat.toUInt8
theorem zDP:∀c,c<256→decide (0≤zDO ⟨#[40,41,91,93,124,42,43,63,46,92,45,94]⟩ c)=jD c:=by decide +kernel
theorem Yp:∀c,c<256→zDO ⟨#[42,43,63]⟩ c=if 0<signR c then (signR c:Int)-4 else -1:=by decide +kernel
theorem Yq:∀c,c<256→decide (0≤zDO ⟨#[124,41]⟩ c)=decide (c=124∨c=41):=by decide +kernel
theorem zAA:∀c,c<256→decide (0≤zDO ⟨#[45,94]⟩ c)=decide (c=45∨c=94):=by decide +kernel
def jg (s:ByteArray) (i:Nat) (t:ByteArray):Bool:=decide (i<s.size)&&decide (0≤zDO t (bR s i))
set_option maxRecDepth 4000 in
theorem Jz (s:ByteArray) (c:Int) (w:World):
  Calls Tryz.prog 117 #[.string s,.int .u8 c] w fun e w'=>e= .returned (.int .i64 (Lib.indexByte s.data.toList c.toNat.toUInt8))∧w'=w:=by
 go_enter Tryz.func117,Tryz.ntmps117;go_wp2
 rw[run_callFunc_extern Tryz.func122 (by kernel_rfl) (by kernel_rfl) (by kernel_rfl) (e:=Extern.BytealgIndexByte.indexByte) (by kernel_rfl),Lib.run_indexByteString];simp only[Result.andThen];rw[Oper.upon_value];go_wp2
 go_ret
 exact⟨rfl,rfl⟩
theorem Vn (s:ByteArray) (c:Int) (w:World):
  Calls Tryz.prog 112 #[.string s,.int .u8 c] w fun e w'=>e= .returned (.int .i64 (Lib.indexByte s.data.toList c.toNat.toUInt8))∧w'=w:=by
 have H:=Lib.hid (Jz s c w);go_enter Tryz.func112,Tryz.ntmps112;go_wp2_with fail
 go_fit H.out;rintro e w' ⟨rfl,rfl⟩;go_wp2
 go_ret
 exact⟨rfl,rfl⟩
theorem vZ (s:ByteArray) (c:Nat) (w:World):
  Calls Tryz.prog 112 #[.string s,.int .u8 (c:Int)] w fun e w'=>e= .returned (.int .i64 (zDO s c))∧w'=w:=Vn s c w
theorem kE (c:Nat) (w:World) (hc:c<256):
  Calls Tryz.prog 125 #[.int .u8 (c:Int)] w fun e w'=>e= .returned (.bool (jD c))∧w'=w:=by
 have HS:=Lib.hid (zDP c hc);have H:=Lib.hid (vZ ⟨#[40,41,91,93,124,42,43,63,46,92,45,94]⟩ c w);obtain⟨k,hk⟩:∃k,zDO ⟨#[40,41,91,93,124,42,43,63,46,92,45,94]⟩ c=k:=⟨_,rfl⟩;rw[hk] at H HS;clear hk;go_enter Tryz.func125,Tryz.ntmps125;go_wp2_with fail
 go_fit H.out;rintro e w' ⟨rfl,rfl⟩;go_wp2_with fail
 go_ret
 exact⟨by rw[←HS.out];rfl,rfl⟩
theorem xn (w:World):
  Calls Tryz.prog 91 #[.bool true] w fun e w'=>e= .returned (.tuple #[])∧w'=w:=by
 go_enter Tryz.func91,Tryz.ntmps91;go_wp2
 go_end0
 exact⟨rfl,rfl⟩
theorem jW (w:World):
  Calls Tryz.prog 91 #[.bool false] w fun e w'=>e=Xq∧w'=w:=by
 go_enter Tryz.func91,Tryz.ntmps91;go_wp2
 exact⟨rfl,rfl,rfl⟩
theorem drewN_under (w:World):∀m,Below w.heap.size w (w.drewN m)
 | 0=>Below.refl _ _
 | m+1=>(drewN_under w m).drew
section
variable {w:World} {R:Nat} {s:ByteArray} {i:Nat}
theorem jH (h:RdW w R s i):
  Calls Tryz.prog 92 #[.pointer (some ⟨R,0,none⟩)] w fun e w'=>e= .returned (.bool (decide (i=s.size)))∧∃m,w'=w.drewN m:=by
 obtain⟨⟨x0,x1⟩,_⟩:=h.cells;obtain⟨v,hv⟩:∃v,decide (i=s.size)=v:=⟨_,rfl⟩;have hb:((i:Int)==(s.size:Int))=v:=by
  rw[←hv];by_cases e:i=s.size
  ·rw[e];simp
  ·rw[decide_eq_false e];exact beq_eq_false_iff_ne.2 (by omega)
 rw[hv];clear hv h;go_enter Tryz.func92,Tryz.ntmps92;go_wp2_with fail
 go_quiet (fail)
 go_wp2_with fail
 go_ret
 exact⟨rfl,_,rfl⟩
theorem zAB (h:RdW w R s i) (hi:i≤s.size) (t:ByteArray):
  Calls Tryz.prog 104 #[.pointer (some ⟨R,0,none⟩),.string t] w fun e w'=>e= .returned (.bool (jg s i t))∧∃m,w'=w.drewN m:=by
 obtain⟨⟨x0,x1⟩,_⟩:=h.cells;have HE:=qh (fun m=>jH (h.below (drewN_under w m)));by_cases hlt:i<s.size
 ·have HS:=qh (show jg s i t=decide (0≤zDO t (bR s i)) by unfold jg;rw[decide_eq_true hlt];rfl);rw[decide_eq_false (by omega)] at HE;have hb:=zCN s i hlt;have H:=qh (fun W=>vZ t (bR s i) W);have h1:(i:Int)<(s.size:Int):=by omega
  have h0:(0:Int)≤(i:Int):=by omega
  obtain⟨c,hc⟩:∃c,bR s i=c:=⟨_,rfl⟩;rw[hc] at hb H HS;obtain⟨k,hk⟩:∃k,zDO t c=k:=⟨_,rfl⟩;simp only[hk] at H HS;obtain⟨v,hv⟩:∃v,decide (0≤k)=v:=⟨_,rfl⟩;rw[hv] at HS;have hv':decide (k≥0)=v:=hv;clear h hc hk;go_enter Tryz.func104,Tryz.ntmps104;go_wp2_with fail
  go_quiet (first | (go_at_call 92;exact Calls.quiet_of (HE.out _)) | (go_at_call 112;exact Calls.quiet_of_same (H.out _)))
  go_wp2_with fail
  go_ret
  exact⟨by rw[HS.out];rfl,_,rfl⟩
 ·have HS:=qh (show jg s i t=false by unfold jg;rw[decide_eq_false hlt];rfl);rw[decide_eq_true (by omega)] at HE;clear h;go_enter Tryz.func104,Tryz.ntmps104;go_wp2_with fail
  go_quiet (first | (go_at_call 92;exact Calls.quiet_of (HE.out _)))
  go_wp2_with fail
  go_ret
  exact⟨by rw[HS.out];rfl,_,rfl⟩
theorem yB (h:RdW w R s i) (v:Bool) (hv:decide (i=s.size)=v):
  Calls Tryz.prog 92 #[.pointer (some ⟨R,0,none⟩)] w fun e w'=>e= .returned (.bool v)∧Below w.heap.size w w':=
 (jH h).mono fun e w' ⟨he,m,hm⟩=>⟨by rw[he,hv],by rw[hm];exact drewN_under w m⟩
theorem Xr (h:RdW w R s i) (hi:i≤s.size) (t:ByteArray) (v:Bool) (hv:jg s i t=v):
  Calls Tryz.prog 104 #[.pointer (some ⟨R,0,none⟩),.string t] w fun e w'=>e= .returned (.bool v)∧Below w.heap.size w w':=
 (zAB h hi t).mono fun e w' ⟨he,m,hm⟩=>⟨by rw[he,hv],by rw[hm];exact drewN_under w m⟩
theorem ke (h:RdW w R s s.size):
  Calls Tryz.prog 114 #[.pointer (some ⟨R,0,none⟩)] w fun e w'=>e=Xq∧Below w.heap.size w w':=by
 have HE:=qh (yB h true (decide_eq_true rfl));have HN:=qh (fun W=>jW W);clear h;go_enter Tryz.func114,Tryz.ntmps114;go_wp2_with fail
 go_fit HE.out;rintro e w1 ⟨rfl,hb⟩;have HB:=qh hb;clear hb;go_wp2_with fail
 go_fit (HN.out _);rintro e w2 ⟨rfl,rfl⟩;exact⟨rfl,rfl,HB.out⟩
theorem jI (h:RdW w R s i) (hlt:i<s.size) (hs:s.size≤1000):
  Calls Tryz.prog 114 #[.pointer (some ⟨R,0,none⟩)] w fun e w'=>e= .returned (.int .u8 (bR s i:Int))∧RdW w' R s (i+1)∧KeepW (fun k=>k≠R) w w':=by
 have HE:=qh (yB h false (decide_eq_false (by omega)));have HN:=qh (fun W=>xn W);have HR:=qh h;have hb:=zCN s i hlt;have h1:(i:Int)<(s.size:Int):=by omega
 have h0:(0:Int)≤(i:Int):=by omega
 have h1000:(i:Int)≤1000:=by omega
 obtain⟨c,hc⟩:∃c,bR s i=c:=⟨_,rfl⟩;rw[hc] at hb ⊢;clear h hc;go_enter Tryz.func114,Tryz.ntmps114;go_wp2_with fail
 go_fit HE.out;rintro e w1 ⟨rfl,hb1⟩;have HB:=qh (show RdW w1 R s i∧Below w.heap.size w w1 from⟨HR.out.below hb1,hb1⟩);clear hb1;obtain⟨⟨x0,x1⟩,f0,f1⟩:=HB.out.1.cells;have hlt1:=HB.out.1.lt;go_wp2_with fail
 go_fit (HN.out _);rintro e w2 ⟨rfl,rfl⟩;have HX:=qh (show RdW (w2.setCell ⟨R,1,none⟩ (.int .i64 ((i:Int)+1))) R s (i+1)∧KeepW (fun k=>k≠R) w2 (w2.setCell ⟨R,1,none⟩ (.int .i64 ((i:Int)+1))) from⟨HB.out.1.set (i+1),Jy w2 R _⟩);go_upto_region 3 with (fail)
 obtain⟨W2,hW2⟩:∃W2,w2.setCell ⟨R,1,none⟩ (.int .i64 ((i:Int)+1))=W2:=⟨_,rfl⟩;rw[hW2] at HX;(try rw[hW2]);clear hW2 x0 x1 f0 f1 hlt1;obtain⟨⟨y0,y1⟩,_⟩:=HX.out.1.cells;rw[show ((i+1:Nat):Int)=(i:Int)+1 by omega] at y1;have e1:(i:Int)+1-1=(i:Int):=by omega
 go_quiet (fail)
 go_wp2_with fail
 go_ret
 exact⟨rfl,HX.out.1.below (drewN_under _ _),((keep_below (fun k=>k≠R) HB.out.2).trans HX.out.2).trans (keep_below _ (drewN_under _ _))⟩
theorem qc (h:RdW w R s i) (hi:i≤s.size) (b:Nat) (hb:(zB s i).head? ≠some b):
  Calls Tryz.prog 97 #[.pointer (some ⟨R,0,none⟩),.int .u8 (b:Int)] w fun e w'=>e= .returned (.bool false)∧RdW w' R s i∧Below w.heap.size w w':=by
 obtain⟨⟨x0,x1⟩,_⟩:=h.cells;have HE:=qh (fun m=>jH (h.below (drewN_under w m)));have HB:=qh (fun m=>And.intro (h.below (drewN_under w m)) (drewN_under w m));by_cases hlt:i<s.size
 ·rw[decide_eq_false (by omega)] at HE;have hc1:=zCN s i hlt;have h1:(i:Int)<(s.size:Int):=by omega
  have h0:(0:Int)≤(i:Int):=by omega
  rw[zH s i hlt] at hb;obtain⟨c,hc⟩:∃c,bR s i=c:=⟨_,rfl⟩;rw[hc] at hc1 hb;have hne:¬c=b:=fun e=>hb (by rw[e];rfl);have hbe:((c:Int)==(b:Int))=false:=beq_eq_false_iff_ne.2 (by omega);clear h hc hb hne;go_enter Tryz.func97,Tryz.ntmps97;go_wp2_with fail
  go_quiet (first | (go_at_call 92;exact Calls.quiet_of (HE.out _)))
  go_wp2_with fail
  go_ret
  exact⟨rfl,HB.out _⟩
 ·rw[decide_eq_true (by omega)] at HE;clear h hb;go_enter Tryz.func97,Tryz.ntmps97;go_wp2_with fail
  go_quiet (first | (go_at_call 92;exact Calls.quiet_of (HE.out _)))
  go_wp2_with fail
  go_ret
  exact⟨rfl,HB.out _⟩
theorem xy (h:RdW w R s i) (hs:s.size≤1000) (b:Nat) (hb:(zB s i).head? =some b):
  Calls Tryz.prog 97 #[.pointer (some ⟨R,0,none⟩),.int .u8 (b:Int)] w fun e w'=>e= .returned (.bool true)∧RdW w' R s (i+1)∧KeepW (fun k=>k≠R) w w':=by
 obtain⟨⟨x0,x1⟩,_⟩:=h.cells;have HE:=qh (fun m=>jH (h.below (drewN_under w m)));have HB:=qh (fun m=>And.intro (h.below (drewN_under w m)) (drewN_under w m));have hlt:i<s.size:=Classical.byContradiction fun hn=>by rw[zf s i (by omega)] at hb;cases hb
 rw[decide_eq_false (by omega)] at HE;have hc1:=zCN s i hlt;have h1:(i:Int)<(s.size:Int):=by omega
 have h0:(0:Int)≤(i:Int):=by omega
 have h1000:(i:Int)≤1000:=by omega
 rw[zH s i hlt] at hb;obtain⟨c,hc⟩:∃c,bR s i=c:=⟨_,rfl⟩;rw[hc] at hc1 hb;have hbc:c=b:=Option.some.inj hb;subst hbc;clear h hc hb;go_enter Tryz.func97,Tryz.ntmps97;go_wp2_with fail
 go_quiet (first | (go_at_call 92;exact Calls.quiet_of (HE.out _)))
 have hb1:=HB.out nq;obtain⟨W1,hW1⟩:∃W1,w.drewN nq=W1:=⟨_,rfl⟩;rw[hW1] at hb1;(try rw[hW1]);clear hW1 x0 x1;have HX:=qh (show RdW (W1.setCell ⟨R,1,none⟩ (.int .i64 ((i:Int)+1))) R s (i+1)∧KeepW (fun k=>k≠R) w (W1.setCell ⟨R,1,none⟩ (.int .i64 ((i:Int)+1))) from⟨hb1.1.set (i+1),(keep_below _ hb1.2).trans (Jy W1 R _)⟩);obtain⟨⟨y0,y1⟩,f0,f1⟩:=hb1.1.cells;have hlt1:=hb1.1.lt;clear hb1;go_wp2_with fail
 go_ret
 exact⟨rfl,HX.out⟩
end
theorem zHY (x k:Nat):x|||2^k=if x.testBit k=true then x else x+2^k:=by
 refine Nat.eq_of_testBit_eq fun i=> ?_;rw[Nat.testBit_or,Nat.testBit_two_pow];by_cases h:x.testBit k=true
 ·rw[if_pos h];by_cases e:k=i
  ·subst e;rw[h];rfl
  ·rw[decide_eq_false e,Bool.or_false]
 ·rw[if_neg h,Xf k i x (by simpa using h)];congr 1;exact decide_eq_decide.2 ⟨fun e=>e.symm,fun e=>e.symm⟩
theorem zHZ (s:St4) (b:Nat):addR s b=stR s (b/64) (wdR s (b/64)|||2^(b%64)):=by
 unfold addR xf;rw[zHY];by_cases h:(wdR s (b/64)).testBit (b%64)=true
 ·rw[if_pos h,if_pos h];obtain⟨s0,s1,s2,s3⟩:=s;unfold stR wdR;by_cases h0:b/64=0
  ·rw[if_pos h0,if_pos h0]
  by_cases h1:b/64=1
  ·rw[if_neg h0,if_pos h1,if_neg h0,if_pos h1]
  by_cases h2:b/64=2
  ·rw[if_neg h0,if_neg h1,if_pos h2,if_neg h0,if_neg h1,if_pos h2]
  ·rw[if_neg h0,if_neg h1,if_neg h2,if_neg h0,if_neg h1,if_neg h2]
 ·rw[if_neg h,if_neg h]
def Zv:Nat:=18446744073709551615
def zG8 (s:St4):St4:=(Zv^^^s.1,Zv^^^s.2.1,Zv^^^s.2.2.1,Zv^^^s.2.2.2)
theorem Yr (x:Nat) (h:x<18446744073709551616):Zv^^^x<18446744073709551616:=by
 have e:(18446744073709551616:Nat)=2^64:=rfl;rw[e] at h ⊢;exact Nat.xor_lt_two_pow (by decide) h
theorem zI0 (s:St4) (h:OkR s):OkR (zG8 s):=⟨Yr _ h.1,Yr _ h.2.1,Yr _ h.2.2.1,Yr _ h.2.2.2⟩
theorem zG9 (i:Nat) (h:i<64):Zv.testBit i=true:=by
 rw[show Zv=2^64-1 from rfl,Nat.testBit_two_pow_sub_one,decide_eq_true h]
theorem zGA (s:St4) (h:OkR s):zG8 s=j5 s 256:=by
 refine Kj _ _ (zI0 s h) (vw s 256 (Nat.le_refl _)) fun b hb=> ?_;rw[Xg s b hb 256 (Nat.le_refl _),decide_eq_true hb,Bool.true_and];unfold xf;have e:wdR (zG8 s) (b/64)=Zv^^^wdR s (b/64):=by
  unfold wdR zG8;split<;>(try rfl);split<;>(try rfl);split<;>rfl
 rw[e,Nat.testBit_xor,zG9 _ (Nat.mod_lt _ (by decide)),Bool.true_xor]
theorem zDQ (s:St4) (b:Nat) (w:World) (hs:OkR s) (hb:b<256):
  Calls Tryz.prog 44 #[xW s,.int .u8 (b:Int)] w fun e w'=>e= .returned (.bool (xf s b))∧Below w.heap.size w w':=by
 unfold xW;have b0:(0:Int)≤(b:Int):=by omega
 have b255:(b:Int)≤255:=by omega
 obtain⟨k,hk⟩:∃k,b%64=k:=⟨_,rfl⟩;have hk64:k<64:=by omega
 have e2:(b:Int).tmod 64=(k:Int):=by rw[show (64:Int)=((64:Nat):Int) from rfl,←Int.ofNat_tmod,hk]
 have hba:=zA w (.cells #[.int .u64 (s.1:Int),.int .u64 (s.2.1:Int),.int .u64 (s.2.2.1:Int),.int .u64 (s.2.2.2:Int)] 51);have HB:=qh hba;clear hba;have h4:b/64=0∨b/64=1∨b/64=2∨b/64=3:=by omega
 rcases h4 with hq | hq | hq | hq
 ·have e1:(b:Int).tdiv 64=0:=by rw[show (64:Int)=((64:Nat):Int) from rfl,←Int.ofNat_tdiv,hq];rfl
  have hx:=hs.1;have HR:Hid (xf s b=(s.1).testBit k):=by unfold xf;rw[hq,hk];rfl
  obtain⟨x,hxx⟩:∃x,s.1=x:=⟨_,rfl⟩;rw[hxx] at hx HR;rw[hxx] at HB ⊢;have hd0:(0:Int)≤(x:Int)/2^k:=Int.ediv_nonneg (by omega) (Int.le_of_lt (Int.pow_pos (by decide)));have hd1:(x:Int)/2^k≤18446744073709551615:=Int.le_trans (Int.ediv_le_self _ (by omega)) (by omega);have HD:=qh (and_one_u64 _ hd0 hd1);have HBI:=qh (jf x k);have HM:Hid (((x:Int)/2^k)%2=((x:Int)/2^k).tmod 2):=(Int.tmod_eq_emod_of_nonneg hd0).symm;obtain⟨E,hE⟩:∃E,(x:Int)/2^k=E:=⟨_,rfl⟩;rw[hE] at HD HM HBI hd0 hd1;have hd:=HD.out;clear hxx hs HD;go_enter Tryz.func44,Tryz.ntmps44;go_wp2_with fail
  go_ret
  exact⟨by rw[HR.out,←HBI.out,←HM.out];rfl,HB.out⟩
 ·have e1:(b:Int).tdiv 64=1:=by rw[show (64:Int)=((64:Nat):Int) from rfl,←Int.ofNat_tdiv,hq];rfl
  have hx:=hs.2.1;have HR:Hid (xf s b=(s.2.1).testBit k):=by unfold xf;rw[hq,hk];rfl
  obtain⟨x,hxx⟩:∃x,s.2.1=x:=⟨_,rfl⟩;rw[hxx] at hx HR;rw[hxx] at HB ⊢;have hd0:(0:Int)≤(x:Int)/2^k:=Int.ediv_nonneg (by omega) (Int.le_of_lt (Int.pow_pos (by decide)));have hd1:(x:Int)/2^k≤18446744073709551615:=Int.le_trans (Int.ediv_le_self _ (by omega)) (by omega);have HD:=qh (and_one_u64 _ hd0 hd1);have HBI:=qh (jf x k);have HM:Hid (((x:Int)/2^k)%2=((x:Int)/2^k).tmod 2):=(Int.tmod_eq_emod_of_nonneg hd0).symm;obtain⟨E,hE⟩:∃E,(x:Int)/2^k=E:=⟨_,rfl⟩;rw[hE] at HD HM HBI hd0 hd1;have hd:=HD.out;clear hxx hs HD;go_enter Tryz.func44,Tryz.ntmps44;go_wp2_with fail
  go_ret
  exact⟨by rw[HR.out,←HBI.out,←HM.out];rfl,HB.out⟩
 ·have e1:(b:Int).tdiv 64=2:=by rw[show (64:Int)=((64:Nat):Int) from rfl,←Int.ofNat_tdiv,hq];rfl
  have hx:=hs.2.2.1;have HR:Hid (xf s b=(s.2.2.1).testBit k):=by unfold xf;rw[hq,hk];rfl
  obtain⟨x,hxx⟩:∃x,s.2.2.1=x:=⟨_,rfl⟩;rw[hxx] at hx HR;rw[hxx] at HB ⊢;have hd0:(0:Int)≤(x:Int)/2^k:=Int.ediv_nonneg (by omega) (Int.le_of_lt (Int.pow_pos (by decide)));have hd1:(x:Int)/2^k≤18446744073709551615:=Int.le_trans (Int.ediv_le_self _ (by omega)) (by omega);have HD:=qh (and_one_u64 _ hd0 hd1);have HBI:=qh (jf x k);have HM:Hid (((x:Int)/2^k)%2=((x:Int)/2^k).tmod 2):=(Int.tmod_eq_emod_of_nonneg hd0).symm;obtain⟨E,hE⟩:∃E,(x:Int)/2^k=E:=⟨_,rfl⟩;rw[hE] at HD HM HBI hd0 hd1;have hd:=HD.out;clear hxx hs HD;go_enter Tryz.func44,Tryz.ntmps44;go_wp2_with fail
  go_ret
  exact⟨by rw[HR.out,←HBI.out,←HM.out];rfl,HB.out⟩
 ·have e1:(b:Int).tdiv 64=3:=by rw[show (64:Int)=((64:Nat):Int) from rfl,←Int.ofNat_tdiv,hq];rfl
  have hx:=hs.2.2.2;have HR:Hid (xf s b=(s.2.2.2).testBit k):=by unfold xf;rw[hq,hk];rfl
  obtain⟨x,hxx⟩:∃x,s.2.2.2=x:=⟨_,rfl⟩;rw[hxx] at hx HR;rw[hxx] at HB ⊢;have hd0:(0:Int)≤(x:Int)/2^k:=Int.ediv_nonneg (by omega) (Int.le_of_lt (Int.pow_pos (by decide)));have hd1:(x:Int)/2^k≤18446744073709551615:=Int.le_trans (Int.ediv_le_self _ (by omega)) (by omega);have HD:=qh (and_one_u64 _ hd0 hd1);have HBI:=qh (jf x k);have HM:Hid (((x:Int)/2^k)%2=((x:Int)/2^k).tmod 2):=(Int.tmod_eq_emod_of_nonneg hd0).symm;obtain⟨E,hE⟩:∃E,(x:Int)/2^k=E:=⟨_,rfl⟩;rw[hE] at HD HM HBI hd0 hd1;have hd:=HD.out;clear hxx hs HD;go_enter Tryz.func44,Tryz.ntmps44;go_wp2_with fail
  go_ret
  exact⟨by rw[HR.out,←HBI.out,←HM.out];rfl,HB.out⟩
theorem jh (t:St4) (b:Nat) (w:World) (hs:OkR t) (hb:b<256):
  Calls Tryz.prog 120 #[xW t,.int .u8 (b:Int)] w fun e w'=>e= .returned (xW (addR t b))∧Below w.heap.size w w':=by
 have b0:(0:Int)≤(b:Int):=by omega
 have b255:(b:Int)≤255:=by omega
 have hA:=zHZ t b;obtain⟨k,hk⟩:∃k,b%64=k:=⟨_,rfl⟩;have hk64:k<64:=by omega
 have e2:(b:Int).tmod 64=(k:Int):=by rw[show (64:Int)=((64:Nat):Int) from rfl,←Int.ofNat_tmod,hk]
 have p1:(2:Nat)^k≤9223372036854775808:=by
  have:(2:Nat)^k≤2^63:=Nat.pow_le_pow_right (by decide) (by omega);exact this
 have p0:1≤(2:Nat)^k:=Nat.one_le_two_pow;rw[hk] at hA;obtain⟨P,hP⟩:∃P,(2:Nat)^k=P:=⟨_,rfl⟩;have hPI:(2:Int)^k=(P:Int):=by rw[←hP];simp
 have hPI1:(1:Int)*(2:Int)^k=(P:Int):=by rw[Int.one_mul,hPI]
 have wP:IntKind.u64.wrap (P:Int)=(P:Int):=by exact IntWalk.u64_in _ (by omega)
 rw[hP] at hA p1 p0;obtain⟨V,hV⟩:∃V,addR t b=V:=⟨_,rfl⟩;rw[hV] at hA ⊢;have HV:=qh hA;clear hV hA;unfold xW;have HBE:Hid (∀o p,Below w.heap.size w ((w.alloc o).alloc p)):=fun o p=>((Below.refl _ w).alloc (Nat.le_refl _) o).alloc (by rw[zC];omega) p;have h4:b/64=0∨b/64=1∨b/64=2∨b/64=3:=by omega
 rcases h4 with hq | hq | hq | hq
 ·have e1:(b:Int).tdiv 64=0:=by rw[show (64:Int)=((64:Nat):Int) from rfl,←Int.ofNat_tdiv,hq];rfl
  rw[hq] at HV;have hx:=hs.1;have wS:bits BinOp.or IntKind.u64 ((t.1:Nat):Int) (P:Int)=((t.1|||P:Nat):Int):=bits_or_u64_nat _ _ hx (by omega);obtain⟨S,hS⟩:∃S,t.1|||P=S:=⟨_,rfl⟩
  have HV2:Hid (V=stR t 0 S):=by rw[←hS];exact HV.out
  rw[hS] at wS;clear hS HV hs hx;go_enter Tryz.func120,Tryz.ntmps120;go_wp2_with fail
  exact bodyPost_ret (v:=xW (stR t 0 S)) (by simp[results,Tryz.results120,go_sem,xW,stR]) rfl ⟨by rw[HV2.out];rfl,HBE.out _ _⟩
 ·have e1:(b:Int).tdiv 64=1:=by rw[show (64:Int)=((64:Nat):Int) from rfl,←Int.ofNat_tdiv,hq];rfl
  rw[hq] at HV;have hx:=hs.2.1;have wS:bits BinOp.or IntKind.u64 ((t.2.1:Nat):Int) (P:Int)=((t.2.1|||P:Nat):Int):=bits_or_u64_nat _ _ hx (by omega);obtain⟨S,hS⟩:∃S,t.2.1|||P=S:=⟨_,rfl⟩
  have HV2:Hid (V=stR t 1 S):=by rw[←hS];exact HV.out
  rw[hS] at wS;clear hS HV hs hx;go_enter Tryz.func120,Tryz.ntmps120;go_wp2_with fail
  exact bodyPost_ret (v:=xW (stR t 1 S)) (by simp[results,Tryz.results120,go_sem,xW,stR]) rfl ⟨by rw[HV2.out];rfl,HBE.out _ _⟩
 ·have e1:(b:Int).tdiv 64=2:=by rw[show (64:Int)=((64:Nat):Int) from rfl,←Int.ofNat_tdiv,hq];rfl
  rw[hq] at HV;have hx:=hs.2.2.1;have wS:bits BinOp.or IntKind.u64 ((t.2.2.1:Nat):Int) (P:Int)=((t.2.2.1|||P:Nat):Int):=bits_or_u64_nat _ _ hx (by omega);obtain⟨S,hS⟩:∃S,t.2.2.1|||P=S:=⟨_,rfl⟩
  have HV2:Hid (V=stR t 2 S):=by rw[←hS];exact HV.out
  rw[hS] at wS;clear hS HV hs hx;go_enter Tryz.func120,Tryz.ntmps120;go_wp2_with fail
  exact bodyPost_ret (v:=xW (stR t 2 S)) (by simp[results,Tryz.results120,go_sem,xW,stR]) rfl ⟨by rw[HV2.out];rfl,HBE.out _ _⟩
 ·have e1:(b:Int).tdiv 64=3:=by rw[show (64:Int)=((64:Nat):Int) from rfl,←Int.ofNat_tdiv,hq];rfl
  rw[hq] at HV;have hx:=hs.2.2.2;have wS:bits BinOp.or IntKind.u64 ((t.2.2.2:Nat):Int) (P:Int)=((t.2.2.2|||P:Nat):Int):=bits_or_u64_nat _ _ hx (by omega);obtain⟨S,hS⟩:∃S,t.2.2.2|||P=S:=⟨_,rfl⟩
  have HV2:Hid (V=stR t 3 S):=by rw[←hS];exact HV.out
  rw[hS] at wS;clear hS HV hs hx;go_enter Tryz.func120,Tryz.ntmps120;go_wp2_with fail
  exact bodyPost_ret (v:=xW (stR t 3 S)) (by simp[results,Tryz.results120,go_sem,xW,stR]) rfl ⟨by rw[HV2.out];rfl,HBE.out _ _⟩
theorem ji (t:St4) (w:World) (hs:OkR t):
  Calls Tryz.prog 119 #[xW t] w fun e w'=>e= .returned (xW (j5 t 256))∧Below w.heap.size w w':=by
 rw[←zGA t hs];obtain⟨a,b,c,d⟩:=t;obtain⟨ha,hb,hc,hd⟩:=hs;simp only at ha hb hc hd;have xa:bits BinOp.xor IntKind.u64 (if IntKind.u64.signed=true then -1 else IntKind.u64.max) (a:Int)=((Zv^^^a:Nat):Int):=bits_xor_u64_nat Zv a (by decide) ha;have xb:bits BinOp.xor IntKind.u64 (if IntKind.u64.signed=true then -1 else IntKind.u64.max) (b:Int)=((Zv^^^b:Nat):Int):=bits_xor_u64_nat Zv b (by decide) hb;have xc:bits BinOp.xor IntKind.u64 (if IntKind.u64.signed=true then -1 else IntKind.u64.max) (c:Int)=((Zv^^^c:Nat):Int):=bits_xor_u64_nat Zv c (by decide) hc;have xd:bits BinOp.xor IntKind.u64 (if IntKind.u64.signed=true then -1 else IntKind.u64.max) (d:Int)=((Zv^^^d:Nat):Int):=bits_xor_u64_nat Zv d (by decide) hd;have HBE:Hid (∀o p,Below w.heap.size w ((w.alloc o).alloc p)):=fun o p=>((Below.refl _ w).alloc (Nat.le_refl _) o).alloc (by rw[zC];omega) p;obtain⟨a',ha'⟩:∃x,Zv^^^a=x:=⟨_,rfl⟩;obtain⟨b',hb'⟩:∃x,Zv^^^b=x:=⟨_,rfl⟩;obtain⟨c',hc'⟩:∃x,Zv^^^c=x:=⟨_,rfl⟩;obtain⟨d',hd'⟩:∃x,Zv^^^d=x:=⟨_,rfl⟩;rw[ha'] at xa;rw[hb'] at xb;rw[hc'] at xc;rw[hd'] at xd;have HV:=qh (show zG8 (a,b,c,d)=(a',b',c',d') by unfold zG8;rw[ha',hb',hc',hd']);clear ha' hb' hc' hd';obtain⟨V,hV⟩:∃V,zG8 (a,b,c,d)=V:=⟨_,rfl⟩;rw[hV] at HV ⊢;clear hV;unfold xW;simp only;go_enter Tryz.func119,Tryz.ntmps119;go_wp2_with fail
 go_loopw [4] (fun s4 wr=>(s4= .int .i64 0∧wr=((w.alloc (.cells #[.int .u64 (a:Int),.int .u64 (b:Int),.int .u64 (c:Int),.int .u64 (d:Int)] 51)).alloc (.cells #[.int .u64 0,.int .u64 0,.int .u64 0,.int .u64 0] 51)))∨(s4= .int .i64 1∧wr=((w.alloc (.cells #[.int .u64 (a':Int),.int .u64 (b:Int),.int .u64 (c:Int),.int .u64 (d:Int)] 51)).alloc (.cells #[.int .u64 0,.int .u64 0,.int .u64 0,.int .u64 0] 51)))∨(s4= .int .i64 2∧wr=((w.alloc (.cells #[.int .u64 (a':Int),.int .u64 (b':Int),.int .u64 (c:Int),.int .u64 (d:Int)] 51)).alloc (.cells #[.int .u64 0,.int .u64 0,.int .u64 0,.int .u64 0] 51)))∨(s4= .int .i64 3∧wr=((w.alloc (.cells #[.int .u64 (a':Int),.int .u64 (b':Int),.int .u64 (c':Int),.int .u64 (d:Int)] 51)).alloc (.cells #[.int .u64 0,.int .u64 0,.int .u64 0,.int .u64 0] 51)))∨(s4= .int .i64 4∧wr=((w.alloc (.cells #[.int .u64 (a':Int),.int .u64 (b':Int),.int .u64 (c':Int),.int .u64 (d':Int)] 51)).alloc (.cells #[.int .u64 0,.int .u64 0,.int .u64 0,.int .u64 0] 51)))) (fun s4 _=>4-(intOf s4).toNat)
 case atStart=>exact .inl ⟨rfl,rfl⟩
 case round=>
  rcases hrel with ⟨rfl,rfl⟩ | ⟨rfl,rfl⟩ | ⟨rfl,rfl⟩ | ⟨rfl,rfl⟩ | ⟨rfl,rfl⟩
  ·go_wp2_with fail
   go_roundw
   case rel=>exact .inr (.inl ⟨rfl,trivial⟩)
   case measure=>simp[intOf]
  ·go_wp2_with fail
   go_roundw
   case rel=>exact .inr (.inr (.inl ⟨rfl,trivial⟩))
   case measure=>simp[intOf]
  ·go_wp2_with fail
   go_roundw
   case rel=>exact .inr (.inr (.inr (.inl ⟨rfl,trivial⟩)))
   case measure=>simp[intOf]
  ·go_wp2_with fail
   go_roundw
   case rel=>exact .inr (.inr (.inr (.inr (⟨rfl,trivial⟩))))
   case measure=>simp[intOf]
  ·go_wp2_with fail
   exact bodyPost_ret (v:=xW (a',b',c',d')) (by simp[results,Tryz.results119,go_sem,xW]) rfl ⟨by rw[HV.out];rfl,HBE.out _ _⟩
end Go.Proofs.YtjeomlickkpebaaGreatDoor
