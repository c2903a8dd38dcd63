/-
  Texts of this proof, one behind the other; each begins with its own remark.
-/
import Derived.Test.YtjeomlickkpebaaGreatDoorBe4
set_option maxHeartbeats 4000000
namespace Go.Proofs.YtjeomlickkpebaaGreatDoor
section
variable {P:Program} {ops:Array Oper} {Q:Exit→Act→World→Prop} {md:Region.Mode} {S:World→Prop} {fuel:Nat} {listed:Array Bool} {a:Act} {w:World}
theorem tK (i:Nat) (oi:Oper) (v:Value) (hi:ops[i]? =some oi) (hy:Yields P ops oi v a) (h:wpAny P md ops Q fuel (listed.setIfInBounds i true) (a.put oi.dst v) w)
  (hs:Region.noSelect ops=true:=by kernel_rfl) (hf:Region.free md ops listed i=true:=by kernel_rfl) (hr:(Region.ready md ops listed).contains i=true:=by kernel_rfl)
  (hQ:∀c a w,Q (.panic c) (a.put oi.dst v) w→Q (.panic c) a w:=by exact fun _ _ _ h=>h):wpAny P md ops Q (fuel+1) listed a w:=wpAny_take hi hs hf hr hQ hy h
theorem tKH (i:Nat) (oi:Oper) (v:Value) (hi:ops[i]? =some oi) (hy:YieldsIf P ops S oi v a) (h:wpAnyH P md ops Q S fuel (listed.setIfInBounds i true) (a.put oi.dst v) w)
  (hs:Region.noSelect ops=true:=by kernel_rfl) (hf:Region.free md ops listed i=true:=by kernel_rfl) (hr:(Region.ready md ops listed).contains i=true:=by kernel_rfl)
  (hQ:∀c a w,Q (.panic c) (a.put oi.dst v) w→Q (.panic c) a w:=by exact fun _ _ _ h=>h) (hS:S w:=by assumption):wpAnyH P md ops Q S (fuel+1) listed a w:=wpAnyH_take hi hs hf hr hQ hy hS h
theorem rD (rs:List Nat) (h:AllReady P md ops Q fuel listed a w rs) (hr:Region.ready md ops listed=rs:=by kernel_rfl) (hne:rs≠ []:=by simp):wpAny P md ops Q (fuel+1) listed a w:=wpAny_ready hr hne h
theorem rDH (rs:List Nat) (h:AllReadyH P md ops Q S fuel listed a w rs) (hr:Region.ready md ops listed=rs:=by kernel_rfl) (hne:rs≠ []:=by simp):wpAnyH P md ops Q S (fuel+1) listed a w:=wpAnyH_ready hr hne h
theorem aN:AllReady P md ops Q fuel listed a w []:=AllReady.nil
theorem aNH:AllReadyH P md ops Q S fuel listed a w []:=AllReadyH.nil
theorem aC {i:Nat} {rs:List Nat} (o:Oper) (ho:ops[i]? =some o) (h:∀K':Act→World→Prop,(∀a w,wpAny P md ops Q fuel (listed.setIfInBounds i true) a w→K' a w)→if Region.wanted o (yielded ops a.tmps)=true then Oper.wp P o a w K' Q else K' (a.put o.dst undef) w)
  (hs:AllReady P md ops Q fuel listed a w rs):AllReady P md ops Q fuel listed a w (i::rs):=AllReady.cons ho h hs
theorem aCH {i:Nat} {rs:List Nat} (o:Oper) (ho:ops[i]? =some o) (h:∀K':Act→World→Prop,Shut (∀a w,S w→(S w→wpAnyH P md ops Q S fuel (listed.setIfInBounds i true) a w)→K' a w)→if Region.wanted o (yielded ops a.tmps)=true then Oper.wp P o a w K' Q else K' (a.put o.dst undef) w)
  (hs:AllReadyH P md ops Q S fuel listed a w rs):AllReadyH P md ops Q S fuel listed a w (i::rs):=AllReadyH.cons ho h hs
end
theorem pA1 {α:Type} (l:List α) (i:Nat) (a:α):l.toArray.setIfInBounds i a=(l.set i a).toArray:=List.setIfInBounds_toArray ..
theorem pA2 {α:Type} (a b:α) (l:List α):(a::l).set 0 b=b::l:=List.set_cons_zero
theorem pA3 {α:Type} (a b:α) (l:List α) (n:Nat):(a::l).set (n+1) b=a::l.set n b:=List.set_cons_succ
end Go.Proofs.YtjeomlickkpebaaGreatDoor
namespace Go.Proofs.YtjeomlickkpebaaGreatDoor
open Go.RowKit
theorem jf (x k:Nat):(((x:Int)/2^k).tmod 2==1)=x.testBit k:=by
 have e:(x:Int)/2^k=((x/2^k:Nat):Int):=by rw[Int.natCast_ediv,Int.natCast_pow];rfl
 have e2:((x/2^k:Nat):Int).tmod 2=((x/2^k%2:Nat):Int):=by rw[show (2:Int)=((2:Nat):Int) from rfl,←Int.ofNat_tmod]
 rw[e,e2,Nat.testBit_eq_decide_div_mod_eq];by_cases h:x/2^k%2=1
 ·rw[h];rfl
 ·rw[decide_eq_false h];exact beq_eq_false_iff_ne.2 (by omega)
theorem Xn (s:St4) (b:Nat) (w:World) (hs:OkR s) (hb:b<256):
  Calls Tryz.prog 61 #[xW s,.int .u8 (b:Int)] w fun e w'=>e= .returned (.bool (xf s b))∧Below w.heap.size w w':=by
 unfold xW;obtain⟨k,hk⟩:∃k,b%64=k:=⟨_,rfl⟩;have hk64:k<64:=by omega
 have e2:(b:Int).tmod 64=(k:Int):=by rw[show (64:Int)=((64:Nat):Int) from rfl,←Int.ofNat_tmod,hk]
 have hba:=zA w (.cells #[.int .u64 (s.1:Int),.int .u64 (s.2.1:Int),.int .u64 (s.2.2.1:Int),.int .u64 (s.2.2.2:Int)] 51);have HB:=Lib.hid hba;clear hba;have h4:b/64=0∨b/64=1∨b/64=2∨b/64=3:=by omega
 rcases h4 with hq | hq | hq | hq
 ·have e1:(b:Int).tdiv 64=0:=by rw[show (64:Int)=((64:Nat):Int) from rfl,←Int.ofNat_tdiv,hq];rfl
  have hx:=hs.1;have HR:Hid (xf s b=(s.1).testBit k):=by unfold xf;rw[hq,hk];rfl
  obtain⟨x,hxx⟩:∃x,s.1=x:=⟨_,rfl⟩;rw[hxx] at hx HR;rw[hxx] at HB ⊢;clear hxx hs;go_enter Tryz.func61,Tryz.ntmps61;go_wp2_with fail
  go_ret
  exact⟨by rw[HR.out,←jf];rfl,HB.out⟩
 ·have e1:(b:Int).tdiv 64=1:=by rw[show (64:Int)=((64:Nat):Int) from rfl,←Int.ofNat_tdiv,hq];rfl
  have hx:=hs.2.1;have HR:Hid (xf s b=(s.2.1).testBit k):=by unfold xf;rw[hq,hk];rfl
  obtain⟨x,hxx⟩:∃x,s.2.1=x:=⟨_,rfl⟩;rw[hxx] at hx HR;rw[hxx] at HB ⊢;clear hxx hs;go_enter Tryz.func61,Tryz.ntmps61;go_wp2_with fail
  go_ret
  exact⟨by rw[HR.out,←jf];rfl,HB.out⟩
 ·have e1:(b:Int).tdiv 64=2:=by rw[show (64:Int)=((64:Nat):Int) from rfl,←Int.ofNat_tdiv,hq];rfl
  have hx:=hs.2.2.1;have HR:Hid (xf s b=(s.2.2.1).testBit k):=by unfold xf;rw[hq,hk];rfl
  obtain⟨x,hxx⟩:∃x,s.2.2.1=x:=⟨_,rfl⟩;rw[hxx] at hx HR;rw[hxx] at HB ⊢;clear hxx hs;go_enter Tryz.func61,Tryz.ntmps61;go_wp2_with fail
  go_ret
  exact⟨by rw[HR.out,←jf];rfl,HB.out⟩
 ·have e1:(b:Int).tdiv 64=3:=by rw[show (64:Int)=((64:Nat):Int) from rfl,←Int.ofNat_tdiv,hq];rfl
  have hx:=hs.2.2.2;have HR:Hid (xf s b=(s.2.2.2).testBit k):=by unfold xf;rw[hq,hk];rfl
  obtain⟨x,hxx⟩:∃x,s.2.2.2=x:=⟨_,rfl⟩;rw[hxx] at hx HR;rw[hxx] at HB ⊢;clear hxx hs;go_enter Tryz.func61,Tryz.ntmps61;go_wp2_with fail
  go_ret
  exact⟨by rw[HR.out,←jf];rfl,HB.out⟩
def xv (w:World) (B:Nat) (s:St4):Prop:=w.heap[B]? =some (.cells #[.int .u64 (s.1:Int),.int .u64 (s.2.1:Int),.int .u64 (s.2.2.1:Int),.int .u64 (s.2.2.2:Int)] 51 (0,0))
section
variable {w w':World} {B:Nat} {s:St4}
theorem xv.lt (h:xv w B s):B<w.heap.size:=(Array.getElem?_eq_some_iff.1 h).1
theorem xv.cells (h:xv w B s):(w.cell? ⟨B,0,none⟩=some (.int .u64 (s.1:Int))∧w.cell? ⟨B,1,none⟩=some (.int .u64 (s.2.1:Int))∧w.cell? ⟨B,2,none⟩=some (.int .u64 (s.2.2.1:Int))∧w.cell? ⟨B,3,none⟩=some (.int .u64 (s.2.2.2:Int)))∧w.frozen? ⟨B,0,none⟩=false∧w.frozen? ⟨B,1,none⟩=false∧w.frozen? ⟨B,2,none⟩=false∧w.frozen? ⟨B,3,none⟩=false:=by
 unfold xv at h;refine⟨⟨?_,?_,?_,?_⟩,?_,?_,?_,?_⟩<;>first | (unfold World.cell?;rw[h];rfl) | (unfold World.frozen?;rw[h];simp)
theorem xv.below (h:xv w B s) (hb:Below w.heap.size w w'):xv w' B s:=(hb.block B h.lt).trans h
theorem xv.keep {ok:Nat→Prop} (h:xv w B s) (hk:KeepW ok w w') (ho:ok B):xv w' B s:=(hk.same B h.lt ho).trans h
theorem xv.drew (h:xv w B s):xv w.drew B s:=h
theorem xv.set (h:xv w B s) (j x:Nat) (hj:j<4):xv (w.setCell ⟨B,j,none⟩ (.int .u64 (x:Int))) B (stR s j x):=by
 unfold xv at h ⊢;unfold World.setCell;simp only[Array.getElem?_modify,if_true,h,Option.map_some];have h4:j=0∨j=1∨j=2∨j=3:=by omega
 rcases h4 with rfl | rfl | rfl | rfl<;>rfl
end
def set4 (w:World) (B:Nat) (t:St4):World:=(((w.setCell ⟨B,0,none⟩ (.int .u64 (t.1:Int))).setCell ⟨B,1,none⟩ (.int .u64 (t.2.1:Int))).setCell ⟨B,2,none⟩ (.int .u64 (t.2.2.1:Int))).setCell ⟨B,3,none⟩ (.int .u64 (t.2.2.2:Int))
theorem xv.all {w:World} {B:Nat} {s:St4} (h:xv w B s) (t:St4):xv (set4 w B t) B t:=(((h.set 0 t.1 (by decide)).set 1 t.2.1 (by decide)).set 2 t.2.2.1 (by decide)).set 3 t.2.2.2 (by decide)
theorem zp (w:World) (B:Nat) (t:St4):KeepW (fun k=>k≠B) w (set4 w B t):=
 (((zE B 0 none _ w (fun h=>h rfl)).trans (zE B 1 none _ _ (fun h=>h rfl))).trans (zE B 2 none _ _ (fun h=>h rfl))).trans (zE B 3 none _ _ (fun h=>h rfl))
theorem xv.new (w:World) (s:St4):xv (w.alloc (.cells #[.int .u64 (s.1:Int),.int .u64 (s.2.1:Int),.int .u64 (s.2.2.1:Int),.int .u64 (s.2.2.2:Int)] 51)) w.heap.size s:=heap_alloc_new _ _
theorem xN (s:St4) (a c:Nat) (w:World) (hs:OkR s) (hc:c<256):
  Calls Tryz.prog 80 #[xW s,.int .i64 (a:Int),.int .i64 (c:Int)] w fun e w'=>e= .returned (xW (zT s a (c+1-a)))∧Below w.heap.size w w':=by
 obtain⟨RV,hRV⟩:∃RV,xW (zT s a (c+1-a))=RV:=⟨_,rfl⟩;rw[hRV];have HRV:=qh hRV;clear hRV;unfold xW;have H0:Hid (xv ((w.alloc (.cells #[.int .u64 (s.1:Int),.int .u64 (s.2.1:Int),.int .u64 (s.2.2.1:Int),.int .u64 (s.2.2.2:Int)] 51)).alloc (.cells #[.int .u64 0,.int .u64 0,.int .u64 0,.int .u64 0] 51)) w.heap.size s∧xv ((w.alloc (.cells #[.int .u64 (s.1:Int),.int .u64 (s.2.1:Int),.int .u64 (s.2.2.1:Int),.int .u64 (s.2.2.2:Int)] 51)).alloc (.cells #[.int .u64 0,.int .u64 0,.int .u64 0,.int .u64 0] 51)) (w.heap.size+1) noR∧Below w.heap.size w ((w.alloc (.cells #[.int .u64 (s.1:Int),.int .u64 (s.2.1:Int),.int .u64 (s.2.2.1:Int),.int .u64 (s.2.2.2:Int)] 51)).alloc (.cells #[.int .u64 0,.int .u64 0,.int .u64 0,.int .u64 0] 51))∧w.heap.size+2≤((w.alloc (.cells #[.int .u64 (s.1:Int),.int .u64 (s.2.1:Int),.int .u64 (s.2.2.1:Int),.int .u64 (s.2.2.2:Int)] 51)).alloc (.cells #[.int .u64 0,.int .u64 0,.int .u64 0,.int .u64 0] 51)).heap.size):=by
  refine⟨(xv.new w s).below (zA _ _),?_,((Below.refl _ w).alloc (Nat.le_refl _) _).alloc (by rw[zC];omega) _,by rw[zC,zC];exact Nat.le_refl _⟩;have:=xv.new (w.alloc (.cells #[.int .u64 (s.1:Int),.int .u64 (s.2.1:Int),.int .u64 (s.2.2.1:Int),.int .u64 (s.2.2.2:Int)] 51)) noR;rw[zC] at this;exact this
 go_enter Tryz.func80,Tryz.ntmps80;go_wp2
 obtain⟨W0,hW0⟩:∃W0,((w.alloc (.cells #[.int .u64 (s.1:Int),.int .u64 (s.2.1:Int),.int .u64 (s.2.2.1:Int),.int .u64 (s.2.2.2:Int)] 51)).alloc (.cells #[.int .u64 0,.int .u64 0,.int .u64 0,.int .u64 0] 51))=W0:=⟨_,rfl⟩;rw[hW0] at H0;(try rw[hW0]);clear hW0;obtain⟨B,hB⟩:∃B,w.heap.size=B:=⟨_,rfl⟩;rw[hB] at H0;(try rw[hB]);have HBE:=qh hB;clear hB;have H0':Hid (∃t,xv W0 B t∧t=zT s a 0∧xv W0 (B+1) noR∧Below B w W0∧B+2≤W0.heap.size):=⟨s,H0.out.1,rfl,H0.out.2.1,H0.out.2.2.1,H0.out.2.2.2⟩;clear H0;go_loopw [7] (fun s7 wr=>∃n:Nat,s7= .int .i64 ((a+n:Nat):Int)∧n≤c+1-a∧Hid (∃t,xv wr B t∧t=zT s a n∧xv wr (B+1) noR∧Below B w wr∧B+2≤wr.heap.size)) (fun s7 _=>c+1-(intOf s7).toNat)
 case atStart=>exact⟨0,rfl,Nat.zero_le _,H0'⟩
 case round=>
  obtain⟨n,rfl,hn,HI⟩:=hrel;clear H0';obtain⟨b,hb⟩:∃b,a+n=b:=⟨_,rfl⟩;rw[hb];by_cases hlt:b≤c
  ·have hlt':(b:Int)≤(c:Int):=(by omega);have hb256:b<256:=(by omega);have k0:(0:Int)≤(b:Int):=(by omega);have k255:(b:Int)≤255:=(by omega);obtain⟨t,hbox,ht,hres,hbel,hsz⟩:=HI.out;have hokt:OkR t:=(by rw[ht];exact ok_with s a n (by omega) hs);obtain⟨⟨x0,x1,x2,x3⟩,f0,f1,f2,f3⟩:=hbox.cells;have HH:=qh (Xn t b wr hokt hb256);unfold xW at HH;have HX:=qh (show xv wr B t∧xv wr (B+1) noR∧Below B w wr∧B+2≤wr.heap.size from⟨hbox,hres,hbel,hsz⟩);have HT:=qh (show zT s a (n+1)=addR t b by rw[zT,←ht,hb]);cases hhas:xf t b with
   | true=>
    have HA:=qh (show addR t b=t by unfold addR;rw[if_pos hhas]);rw[hhas] at HH;clear hbox hres hbel ht HI hokt f0 f1 f2 f3;go_wp2_with fail
    go_fit HH.out;rintro e w2 ⟨rfl,hb2⟩;have HR:Hid (∃t,xv w2 B t∧t=zT s a (n+1)∧xv w2 (B+1) noR∧Below B w w2∧B+2≤w2.heap.size):=by
     obtain⟨y0,y1,y2,y3⟩:=HX.out;have:=hb2.size;exact⟨t,y0.below hb2,by rw[HT.out,HA.out],y1.below hb2,y2.trans (hb2.mono (by omega)),by omega⟩
    clear hb2 x0 x1 x2 x3;go_wp2_with fail
    go_roundw
    case rel=>exact⟨n+1,by rw[←hb];go_num,by omega,HR⟩
    case measure=>simp[intOf];omega
   | false=>
    rw[hhas] at HH;obtain⟨k,hk⟩:∃k,b%64=k:=⟨_,rfl⟩;have hk64:k<64:=(by omega);have e2:(b:Int).tmod 64=(k:Int):=(by rw[show (64:Int)=((64:Nat):Int) from rfl,←Int.ofNat_tmod,hk]);have h4:b/64=0∨b/64=1∨b/64=2∨b/64=3:=(by omega);clear hbox hres hbel ht HI;rcases h4 with hq | hq | hq | hq
    ·have e1:(b:Int).tdiv 64=0:=(by rw[show (64:Int)=((64:Nat):Int) from rfl,←Int.ofNat_tdiv,hq];rfl);have hbit:(t.1).testBit k=false:=(by unfold xf at hhas;rw[hq,hk] at hhas;exact hhas);have hfit:=Qc _ k hokt.1 hk64 hbit;have HA:=qh (show addR t b=stR t 0 (t.1+2^k) by unfold addR;rw[if_neg (by rw[hhas];decide),hq,hk];rfl);have p1:(2:Nat)^k≤9223372036854775808:=by
      have:(2:Nat)^k≤2^63:=Nat.pow_le_pow_right (by decide) (by omega);exact this
     have p0:1≤(2:Nat)^k:=Nat.one_le_two_pow;obtain⟨P,hP⟩:∃P,(2:Nat)^k=P:=⟨_,rfl⟩;have hPI:(2:Int)^k=(P:Int):=(by rw[←hP];simp);have hPI1:(1:Int)*(2:Int)^k=(P:Int):=(by rw[Int.one_mul,hPI]);have wP:IntKind.u64.wrap (P:Int)=(P:Int):=(by exact IntWalk.u64_in _ (by omega));rw[hP] at hfit HA p1 p0;have wS:IntKind.u64.wrap (((t.1:Nat):Int)+(P:Int))=(((t.1)+P:Nat):Int):=(by exact IntWalk.u64_in _ (by omega));clear hhas hbit hokt;go_wp2_with fail
     go_fit HH.out;rintro e w2 ⟨rfl,hb2⟩;obtain⟨y0,y1,y2,y3⟩:=HX.out;have z0:=y0.below hb2;obtain⟨⟨c0,c1,c2,c3⟩,d0,d1,d2,d3⟩:=z0.cells;have zlt:=z0.lt;have eS:(((t.1)+P:Nat):Int)=((t.1:Nat):Int)+(P:Int):=Int.natCast_add _ _;have HR:Hid (∃u,xv (w2.setCell ⟨B,0,none⟩ (.int .u64 (((t.1:Nat):Int)+(P:Int)))).drew B u∧u=zT s a (n+1)∧xv (w2.setCell ⟨B,0,none⟩ (.int .u64 (((t.1:Nat):Int)+(P:Int)))).drew (B+1) noR∧Below B w (w2.setCell ⟨B,0,none⟩ (.int .u64 (((t.1:Nat):Int)+(P:Int)))).drew∧B+2≤(w2.setCell ⟨B,0,none⟩ (.int .u64 (((t.1:Nat):Int)+(P:Int)))).drew.heap.size):=by
      have hsz2:=hb2.size;rw[←eS];have q1:=y1.below hb2;have q2:=y2.trans (hb2.mono (by omega:B≤wr.heap.size));have hk9:=zE B 0 none (.int .u64 (((t.1)+P:Nat):Int)) w2 (ok:=fun k=>k≠B) (by simp);refine⟨_,(z0.set 0 _ (by decide)).drew,by rw[HT.out,HA.out],(q1.keep hk9 (by omega)).drew,(KeepW.below q2 hk9 (by omega) (fun k hk=>by omega)).drew,?_⟩;have:=hk9.size;show B+2≤(w2.setCell _ _).heap.size;omega
     clear hb2 x0 x1 x2 x3 y0 y1 y2 z0 HX HH HT HA eS;go_wp2_with fail
     go_region
     all_goals (go_wp2_with fail;exact⟨⟨n+1,by rw[←hb];go_num,by omega,HR⟩,by simp[intOf];omega⟩)
    ·have e1:(b:Int).tdiv 64=1:=(by rw[show (64:Int)=((64:Nat):Int) from rfl,←Int.ofNat_tdiv,hq];rfl);have hbit:(t.2.1).testBit k=false:=(by unfold xf at hhas;rw[hq,hk] at hhas;exact hhas);have hfit:=Qc _ k hokt.2.1 hk64 hbit;have HA:=qh (show addR t b=stR t 1 (t.2.1+2^k) by unfold addR;rw[if_neg (by rw[hhas];decide),hq,hk];rfl);have p1:(2:Nat)^k≤9223372036854775808:=by
      have:(2:Nat)^k≤2^63:=Nat.pow_le_pow_right (by decide) (by omega);exact this
     have p0:1≤(2:Nat)^k:=Nat.one_le_two_pow;obtain⟨P,hP⟩:∃P,(2:Nat)^k=P:=⟨_,rfl⟩;have hPI:(2:Int)^k=(P:Int):=(by rw[←hP];simp);have hPI1:(1:Int)*(2:Int)^k=(P:Int):=(by rw[Int.one_mul,hPI]);have wP:IntKind.u64.wrap (P:Int)=(P:Int):=(by exact IntWalk.u64_in _ (by omega));rw[hP] at hfit HA p1 p0;have wS:IntKind.u64.wrap (((t.2.1:Nat):Int)+(P:Int))=(((t.2.1)+P:Nat):Int):=(by exact IntWalk.u64_in _ (by omega));clear hhas hbit hokt;go_wp2_with fail
     go_fit HH.out;rintro e w2 ⟨rfl,hb2⟩;obtain⟨y0,y1,y2,y3⟩:=HX.out;have z0:=y0.below hb2;obtain⟨⟨c0,c1,c2,c3⟩,d0,d1,d2,d3⟩:=z0.cells;have zlt:=z0.lt;have eS:(((t.2.1)+P:Nat):Int)=((t.2.1:Nat):Int)+(P:Int):=Int.natCast_add _ _;have HR:Hid (∃u,xv (w2.setCell ⟨B,1,none⟩ (.int .u64 (((t.2.1:Nat):Int)+(P:Int)))).drew B u∧u=zT s a (n+1)∧xv (w2.setCell ⟨B,1,none⟩ (.int .u64 (((t.2.1:Nat):Int)+(P:Int)))).drew (B+1) noR∧Below B w (w2.setCell ⟨B,1,none⟩ (.int .u64 (((t.2.1:Nat):Int)+(P:Int)))).drew∧B+2≤(w2.setCell ⟨B,1,none⟩ (.int .u64 (((t.2.1:Nat):Int)+(P:Int)))).drew.heap.size):=by
      have hsz2:=hb2.size;rw[←eS];have q1:=y1.below hb2;have q2:=y2.trans (hb2.mono (by omega:B≤wr.heap.size));have hk9:=zE B 1 none (.int .u64 (((t.2.1)+P:Nat):Int)) w2 (ok:=fun k=>k≠B) (by simp);refine⟨_,(z0.set 1 _ (by decide)).drew,by rw[HT.out,HA.out],(q1.keep hk9 (by omega)).drew,(KeepW.below q2 hk9 (by omega) (fun k hk=>by omega)).drew,?_⟩;have:=hk9.size;show B+2≤(w2.setCell _ _).heap.size;omega
     clear hb2 x0 x1 x2 x3 y0 y1 y2 z0 HX HH HT HA eS;go_wp2_with fail
     go_region
     all_goals (go_wp2_with fail;exact⟨⟨n+1,by rw[←hb];go_num,by omega,HR⟩,by simp[intOf];omega⟩)
    ·have e1:(b:Int).tdiv 64=2:=(by rw[show (64:Int)=((64:Nat):Int) from rfl,←Int.ofNat_tdiv,hq];rfl);have hbit:(t.2.2.1).testBit k=false:=(by unfold xf at hhas;rw[hq,hk] at hhas;exact hhas);have hfit:=Qc _ k hokt.2.2.1 hk64 hbit;have HA:=qh (show addR t b=stR t 2 (t.2.2.1+2^k) by unfold addR;rw[if_neg (by rw[hhas];decide),hq,hk];rfl);have p1:(2:Nat)^k≤9223372036854775808:=by
      have:(2:Nat)^k≤2^63:=Nat.pow_le_pow_right (by decide) (by omega);exact this
     have p0:1≤(2:Nat)^k:=Nat.one_le_two_pow;obtain⟨P,hP⟩:∃P,(2:Nat)^k=P:=⟨_,rfl⟩;have hPI:(2:Int)^k=(P:Int):=(by rw[←hP];simp);have hPI1:(1:Int)*(2:Int)^k=(P:Int):=(by rw[Int.one_mul,hPI]);have wP:IntKind.u64.wrap (P:Int)=(P:Int):=(by exact IntWalk.u64_in _ (by omega));rw[hP] at hfit HA p1 p0;have wS:IntKind.u64.wrap (((t.2.2.1:Nat):Int)+(P:Int))=(((t.2.2.1)+P:Nat):Int):=(by exact IntWalk.u64_in _ (by omega));clear hhas hbit hokt;go_wp2_with fail
     go_fit HH.out;rintro e w2 ⟨rfl,hb2⟩;obtain⟨y0,y1,y2,y3⟩:=HX.out;have z0:=y0.below hb2;obtain⟨⟨c0,c1,c2,c3⟩,d0,d1,d2,d3⟩:=z0.cells;have zlt:=z0.lt;have eS:(((t.2.2.1)+P:Nat):Int)=((t.2.2.1:Nat):Int)+(P:Int):=Int.natCast_add _ _;have HR:Hid (∃u,xv (w2.setCell ⟨B,2,none⟩ (.int .u64 (((t.2.2.1:Nat):Int)+(P:Int)))).drew B u∧u=zT s a (n+1)∧xv (w2.setCell ⟨B,2,none⟩ (.int .u64 (((t.2.2.1:Nat):Int)+(P:Int)))).drew (B+1) noR∧Below B w (w2.setCell ⟨B,2,none⟩ (.int .u64 (((t.2.2.1:Nat):Int)+(P:Int)))).drew∧B+2≤(w2.setCell ⟨B,2,none⟩ (.int .u64 (((t.2.2.1:Nat):Int)+(P:Int)))).drew.heap.size):=by
      have hsz2:=hb2.size;rw[←eS];have q1:=y1.below hb2;have q2:=y2.trans (hb2.mono (by omega:B≤wr.heap.size));have hk9:=zE B 2 none (.int .u64 (((t.2.2.1)+P:Nat):Int)) w2 (ok:=fun k=>k≠B) (by simp);refine⟨_,(z0.set 2 _ (by decide)).drew,by rw[HT.out,HA.out],(q1.keep hk9 (by omega)).drew,(KeepW.below q2 hk9 (by omega) (fun k hk=>by omega)).drew,?_⟩;have:=hk9.size;show B+2≤(w2.setCell _ _).heap.size;omega
     clear hb2 x0 x1 x2 x3 y0 y1 y2 z0 HX HH HT HA eS;go_wp2_with fail
     go_region
     all_goals (go_wp2_with fail;exact⟨⟨n+1,by rw[←hb];go_num,by omega,HR⟩,by simp[intOf];omega⟩)
    ·have e1:(b:Int).tdiv 64=3:=(by rw[show (64:Int)=((64:Nat):Int) from rfl,←Int.ofNat_tdiv,hq];rfl);have hbit:(t.2.2.2).testBit k=false:=(by unfold xf at hhas;rw[hq,hk] at hhas;exact hhas);have hfit:=Qc _ k hokt.2.2.2 hk64 hbit;have HA:=qh (show addR t b=stR t 3 (t.2.2.2+2^k) by unfold addR;rw[if_neg (by rw[hhas];decide),hq,hk];rfl);have p1:(2:Nat)^k≤9223372036854775808:=by
      have:(2:Nat)^k≤2^63:=Nat.pow_le_pow_right (by decide) (by omega);exact this
     have p0:1≤(2:Nat)^k:=Nat.one_le_two_pow;obtain⟨P,hP⟩:∃P,(2:Nat)^k=P:=⟨_,rfl⟩;have hPI:(2:Int)^k=(P:Int):=(by rw[←hP];simp);have hPI1:(1:Int)*(2:Int)^k=(P:Int):=(by rw[Int.one_mul,hPI]);have wP:IntKind.u64.wrap (P:Int)=(P:Int):=(by exact IntWalk.u64_in _ (by omega));rw[hP] at hfit HA p1 p0;have wS:IntKind.u64.wrap (((t.2.2.2:Nat):Int)+(P:Int))=(((t.2.2.2)+P:Nat):Int):=(by exact IntWalk.u64_in _ (by omega));clear hhas hbit hokt;go_wp2_with fail
     go_fit HH.out;rintro e w2 ⟨rfl,hb2⟩;obtain⟨y0,y1,y2,y3⟩:=HX.out;have z0:=y0.below hb2;obtain⟨⟨c0,c1,c2,c3⟩,d0,d1,d2,d3⟩:=z0.cells;have zlt:=z0.lt;have eS:(((t.2.2.2)+P:Nat):Int)=((t.2.2.2:Nat):Int)+(P:Int):=Int.natCast_add _ _;have HR:Hid (∃u,xv (w2.setCell ⟨B,3,none⟩ (.int .u64 (((t.2.2.2:Nat):Int)+(P:Int)))).drew B u∧u=zT s a (n+1)∧xv (w2.setCell ⟨B,3,none⟩ (.int .u64 (((t.2.2.2:Nat):Int)+(P:Int)))).drew (B+1) noR∧Below B w (w2.setCell ⟨B,3,none⟩ (.int .u64 (((t.2.2.2:Nat):Int)+(P:Int)))).drew∧B+2≤(w2.setCell ⟨B,3,none⟩ (.int .u64 (((t.2.2.2:Nat):Int)+(P:Int)))).drew.heap.size):=by
      have hsz2:=hb2.size;rw[←eS];have q1:=y1.below hb2;have q2:=y2.trans (hb2.mono (by omega:B≤wr.heap.size));have hk9:=zE B 3 none (.int .u64 (((t.2.2.2)+P:Nat):Int)) w2 (ok:=fun k=>k≠B) (by simp);refine⟨_,(z0.set 3 _ (by decide)).drew,by rw[HT.out,HA.out],(q1.keep hk9 (by omega)).drew,(KeepW.below q2 hk9 (by omega) (fun k hk=>by omega)).drew,?_⟩;have:=hk9.size;show B+2≤(w2.setCell _ _).heap.size;omega
     clear hb2 x0 x1 x2 x3 y0 y1 y2 z0 HX HH HT HA eS;go_wp2_with fail
     go_region
     all_goals (go_wp2_with fail;exact⟨⟨n+1,by rw[←hb];go_num,by omega,HR⟩,by simp[intOf];omega⟩)
  ·have hlt':(c:Int)<(b:Int):=(by omega);obtain⟨t,hbox,ht,hres,hbel,hsz⟩:=HI.out;have hnn:n=c+1-a:=(by omega);rw[hnn] at ht;obtain⟨⟨x0,x1,x2,x3⟩,f0,f1,f2,f3⟩:=hbox.cells;obtain⟨⟨r0,r1,r2,r3⟩,g0,g1,g2,g3⟩:=hres.cells;have hRlt:=hres.lt;have hBlt:=hbox.lt;have HBL:=qh hbel;have HE:=qh (show xW t=RV by rw[ht];exact HRV.out);unfold xW at HE;have hF:=hres.all t;have hFB:=KeepW.below hbel (zp wr (B+1) t) (by omega) (fun k hk=>by omega);obtain⟨⟨y0,y1,y2,y3⟩,_⟩:=hF.cells;unfold set4 at y0 y1 y2 y3 hFB;have Y0:=qh y0;have Y1:=qh y1;have Y2:=qh y2;have Y3:=qh y3;have HFB:=qh hFB;clear hbox hres hbel ht HI hb hF hFB y0 y1 y2 y3;go_wp2_with fail
   have y0:=Y0.out;have y1:=Y1.out;have y2:=Y2.out;have y3:=Y3.out;exact bodyPost_ret (v:= .agg #[.int .u64 (t.1:Int),.int .u64 (t.2.1:Int),.int .u64 (t.2.2.1:Int),.int .u64 (t.2.2.2:Int)]) (by simp[results,Tryz.results80,go_sem,y0,y1,y2,y3]) rfl ⟨by rw[HE.out],by rw[HBE.out];exact HFB.out⟩
end Go.Proofs.YtjeomlickkpebaaGreatDoor
