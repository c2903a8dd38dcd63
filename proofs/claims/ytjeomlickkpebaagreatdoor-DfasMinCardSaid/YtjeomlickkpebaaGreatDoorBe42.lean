/-
  Texts of this proof, one behind the other; each begins with its own remark.
-/
import Derived.Shelf.Bits.Mul64
import Derived.Test.YtjeomlickkpebaaGreatDoorBe35
namespace Go.Proofs.YtjeomlickkpebaaGreatDoor
def mtA (ob:Nat→Nat):Nat→Nat→Bool:=fun i k=>decide (ob i≠ob k)
structure KT (ob:Nat→Nat) (xs:List Nat) (nu:Nat→Int):Prop where
 has:∀(i:Nat) x,xs[i]? =some x→nu (ob x)=(i:Int)
 none:∀j,(∀x,x∈xs→ob x≠j)→nu j= -1
section
variable {d:Dfa} {ob:Nat→Nat} {xs:List Nat} {nu:Nat→Int} {t:Nat}
theorem V1 {x y:Nat}:xT (mtA ob) x y=true↔ob x=ob y:=by
 unfold xT mtA;simp
theorem QL {t:Nat}:qz d (mtA ob) t=true↔ob t=ob d.n:=by
 unfold qz mtA;simp
theorem KT.find (h:KT ob xs nu) (t:Nat):nu (ob t)=xH (xT (mtA ob)) xs t 0:=by
 by_cases c:xH (xT (mtA ob)) xs t 0<0
 ·have hl:=yj (same:=xT (mtA ob)) (y:=t) xs 0;rw[h.none (ob t) fun x hx e=> ?_]
  ·omega
  ·obtain⟨i,hi⟩:=List.mem_iff_getElem?.1 hx;have:=X7 c i x hi;rw[V1.2 e] at this;cases this
 ·obtain⟨i,x,h1,h2,h3⟩:=ZB (same:=xT (mtA ob)) (xs:=xs) (y:=t) (j:=0) (by omega);rw[h1,Nat.zero_add,←V1.1 h3];exact h.has i x h2
theorem KT.start (ob:Nat→Nat):KT ob [0] (fun j=>if j=ob 0 then 0 else -1) where
 has:=fun i x h=>by
  have hi:=(List.getElem?_eq_some_iff.1 h).1;have:i=0:=by simp at hi;omega
  subst this;cases h;rw[if_pos rfl];rfl
 none:=fun j h=>if_neg fun e=>h 0 (by simp) e.symm
theorem KT.push (h:KT ob xs nu) (hno:nu (ob t)= -1):KT ob (xs++ [t]) (fun j=>if j=ob t then (xs.length:Int) else nu j) where
 has:=fun i x hx=>by
  have hi:=(List.getElem?_eq_some_iff.1 hx).1;rw[List.length_append,List.length_singleton] at hi;by_cases c:i<xs.length
  ·rw[List.getElem?_append_left c] at hx;have:=h.has i x hx;rw[if_neg (fun e=>by rw[e,hno] at this;omega)];exact this
  ·have:i=xs.length:=(by omega);subst this;rw[List.getElem?_append_right (Nat.le_refl _),Nat.sub_self] at hx;cases hx;exact if_pos rfl
 none:=fun j hj=>by
  rw[if_neg (fun e=>hj t (by simp) e.symm)];exact h.none j fun x hx=>hj x (by simp[hx])
abbrev ye (d:Dfa) (ob:Nat→Nat) (x:Nat) (xs:List Nat) (b:Nat):List Nat×List Int:=rowX (toN d) (qz d (mtA ob)) (xT (mtA ob)) x xs b
theorem Ja {x b:Nat} (h:ob (toN d x b)=ob d.n):ye d ob x xs (b+1)=((ye d ob x xs b).1,(ye d ob x xs b).2++ [-1]):=by
 show kT _ _ _ _ _ _=_;unfold kT;rw[if_pos (QL.2 h)]
theorem zF2 {x b:Nat} (h:ob (toN d x b)≠ob d.n) (hn:KT ob (ye d ob x xs b).1 nu) (hno:nu (ob (toN d x b))= -1):ye d ob x xs (b+1)=((ye d ob x xs b).1++ [toN d x b],(ye d ob x xs b).2++ [((ye d ob x xs b).1.length:Int)]):=by
 show kT _ _ _ _ _ _=_;unfold kT;have:=hn.find (toN d x b);rw[if_neg (fun e=>h (QL.1 e)),if_pos (by rw[←this,hno];decide)]
theorem zF3 {x b:Nat} (h:ob (toN d x b)≠ob d.n) (hn:KT ob (ye d ob x xs b).1 nu) (hno:nu (ob (toN d x b))≠ -1):ye d ob x xs (b+1)=((ye d ob x xs b).1,(ye d ob x xs b).2++ [nu (ob (toN d x b))]):=by
 show kT _ _ _ _ _ _=_;unfold kT;have h1:=hn.find (toN d x b);have h2:=yj (same:=xT (mtA ob)) (y:=toN d x b) (ye d ob x xs b).1 0;rw[if_neg (fun e=>h (QL.1 e)),if_neg (by rw[←h1] at h2 ⊢;omega),h1]
theorem V2 (x:Nat) (xs:List Nat):∀b,(ye d ob x xs b).2.length=b∧(ye d ob x xs b).1.length≤xs.length+b
 | 0=>⟨rfl,Nat.le_refl _⟩
 | b+1=>by
  obtain⟨h1,h2⟩:=V2 x xs b;have h1:(rowX (toN d) (qz d (mtA ob)) (xT (mtA ob)) x xs b).2.length=b:=h1;have h2:(rowX (toN d) (qz d (mtA ob)) (xT (mtA ob)) x xs b).1.length≤xs.length+b:=h2;show (kT _ _ _ _ _ _).2.length=_∧(kT _ _ _ _ _ _).1.length≤_;unfold kT;split
  ·dsimp only;rw[List.length_append,List.length_singleton];omega
  ·split
   ·dsimp only;rw[List.length_append,List.length_singleton,List.length_append,List.length_singleton];omega
   ·dsimp only;rw[List.length_append,List.length_singleton];omega
end
end Go.Proofs.YtjeomlickkpebaaGreatDoor
namespace Go.Proofs
open Go.Shelf
def Tryz.lays212_ren:Go.Shelf.Ren:=⟨fun | 212=>72 | 263=>84 | 264=>85 | n=>n,fun | 46=>145 | 51=>159 | 146=>160 | 53=>50 | 148=>162 | n=>n,fun | n=>n⟩
theorem Tryz.lays212:Go.Proofs.Lays.n212 Tryz.prog Tryz.lays212_ren:= {
 mixed:=by kernel_rfl
 f212:=Tryz.func72.trans (congrArg some (by kernel_rfl))
 f263:=Tryz.func84.trans (congrArg some (by kernel_rfl))
 f264:=Tryz.func85.trans (congrArg some (by kernel_rfl))
 t46:=Tryz.underlying145
 a46:=Tryz.isAgg145
 z46:=Tryz.sizeOf145
 v46:=Tryz.zeroValue145
 t51:=Tryz.underlying159
 a51:=Tryz.isAgg159
 z51:=Tryz.sizeOf159
 v51:=Tryz.zeroValue159
 t53:=Tryz.underlying50
 a53:=Tryz.isAgg50
 z53:=Tryz.sizeOf50
 v53:=Tryz.zeroValue50
 t146:=Tryz.underlying160
 a146:=Tryz.isAgg160
 z146:=Tryz.sizeOf160
 v146:=Tryz.zeroValue160
 t148:=Tryz.underlying162
 a148:=Tryz.isAgg162
 z148:=Tryz.sizeOf162
 v148:=Tryz.zeroValue162}
open Go.RowKit Go.Lib in
theorem Tryz.bits_Mul (x y:Nat) (hx:x<18446744073709551616) (hy:y<18446744073709551616) (w:World):
  Calls Tryz.prog 72 #[.int .u64 x,.int .u64 y] w fun e w'=>e= .returned (.tuple #[.int .u64 ((x*y/18446744073709551616:Nat):Int),.int .u64 ((x*y%18446744073709551616:Nat):Int)])∧w'=w:=Any.bits_Mul Tryz.lays212 x y hx hy w
end Go.Proofs
set_option linter.unusedSimpArgs false
namespace Go.Proofs.YtjeomlickkpebaaGreatDoor
open Go.RowKit
def V3 (n k:Nat):List Value:=List.replicate k (Value.int .i64 (-1))++List.replicate (n-k) (Value.int .i64 0)
def zCH (w:World) (B n k:Nat):Prop:=w.heap[B]? =some (.cells (V3 n k).toArray 3 (0,0))
theorem V4 {n k:Nat} (h:k≤n):(V3 n k).length=n:=by
 unfold V3;rw[List.length_append,List.length_replicate,List.length_replicate];omega
theorem zCI {n k c:Nat}:(V3 n k).take k++List.replicate c (Value.int .i64 (-1))++(V3 n k).drop (k+c)=V3 n (k+c):=by
 unfold V3;rw[List.take_left' List.length_replicate,List.drop_append,List.length_replicate,List.drop_replicate,List.drop_replicate,show k-(k+c)=0 by omega,List.replicate_zero,List.nil_append,show k+c-k=c by omega,show n-k-c=n-(k+c) by omega,←List.replicate_append_replicate]
theorem V5 {w:World} {B n k dc sLen sc XB:Nat} (h:zCH w B n k) {c:Nat} (hc:c=Nat.min sLen (n-k)) (hkn:k≤n) (hsrc:∀j,j<c→w.cell? ⟨XB,j,none⟩=some (.int .i64 (-1))):
  ∃w',(Builtin.copy_ #[39,39] 3 #[.slice (some ⟨B,k,none⟩) (n-k) dc,.slice (some ⟨XB,0,none⟩) sLen sc]).run Tryz.prog w= .ok (.int .i64 (c:Int)) w'∧zCH w' B n (k+c)∧KeepW (fun k=>k≠B) w w':=by
 obtain⟨i0,hi,hz0,hz1,hz2⟩:=xJ Tryz.infoIntN;have hcn:k+c≤n:=by
  have:c≤n-k:=by rw[hc];exact Nat.min_le_right _ _
  omega
 have hr:=run_copy_row (P:=Tryz.prog) w 39 39 3 3 B k (n-k) dc ⟨XB,0,none⟩ sLen sc (V3 n k).toArray 3 (List.replicate c (Value.int .i64 (-1))) Tryz.underlying39 (by rw[hi];show some i0.size=_;rw[hz1]) h (by rw[List.length_replicate];exact hc) (fun j v hv=>by
  have hj:=(List.getElem?_eq_some_iff.1 hv).1;rw[List.length_replicate] at hj;rw[List.getElem?_replicate,if_pos hj] at hv;cases hv;rw[Zr,Nat.zero_add];exact hsrc j hj) (by rw[List.length_replicate,List.size_toArray,V4 hkn];exact hcn) (fun v hv=>by rw[List.eq_of_mem_replicate hv];rfl)
 rw[List.length_replicate] at hr;have e:((V3 n k).toArray.toList.take k++List.replicate c (Value.int .i64 (-1))++(V3 n k).toArray.toList.drop (k+c))=V3 n (k+c):=zCI;rw[e] at hr;refine⟨_,hr,setRow_heap w B _ _ _ _ h,⟨rfl,rfl,rfl,?_,fun j _ hj=>setRow_other w B j _ hj⟩⟩;show w.heap.size≤(w.heap.modify _ _).size;rw[Array.size_modify];exact Nat.le_refl _
theorem zCH.cell {w:World} {B n k j:Nat} (h:zCH w B n k) (hj:j<k):w.cell? ⟨B,j,none⟩=some (.int .i64 (-1)):=by
 rw[cell_of_row w B j _ _ (0,0) h,List.getElem?_toArray];unfold V3;rw[List.getElem?_append_left (by rw[List.length_replicate];exact hj),List.getElem?_replicate,if_pos hj]
theorem zCH.all {w:World} {B n:Nat} (h:zCH w B n n):ArrF w B n (fun _=> -1):=
 ⟨_,h,by rw[List.size_toArray,V4 (Nat.le_refl _)];exact Nat.le_refl _,fun i hi=>by
  rw[List.getElem?_toArray];unfold V3;rw[List.getElem?_append_left (by rw[List.length_replicate];exact hi),List.getElem?_replicate,if_pos hi]⟩
theorem zCH.start (w:World) (n:Nat):zCH (w.alloc (.cells (Array.replicate n (Value.int .i64 0)) 3)) w.heap.size n 0:=by
 have:=heap_alloc_new w (.cells (Array.replicate n (Value.int .i64 0)) 3);unfold zCH V3;rw[List.replicate_zero,List.nil_append,Nat.sub_zero,List.toArray_replicate];exact this
theorem Ze {w w':World} {v u v':Value} {ops:Array Oper} {rest:List Oper} {o:Oper} {a:Act} {Q:Exit→Act→World→Prop} (hgd:o.guard=none) (s x:Operand) (t:TypeId)
  (ho:o.op= .call ⟨ .builtin .copy,#[s,x],#[t,t]⟩)
  (hs:a.eval s=v) (hx:a.eval x=u) (hr:(Builtin.copy_ #[t,t] o.type #[v,u]).run Tryz.prog w= .ok v' w') (h:wpList Tryz.prog ops Q rest (a.put o.dst v') w'):wpList Tryz.prog ops Q (o::rest) a w:=by
 refine wpList_plain hgd fun K hK=> ?_;unfold Oper.wp execOp;simp only[ho,resolve,invoke,builtin,Sem.run_bind,Sem.run_pure,Result.andThen_ok,List.map_toArray,List.map_cons,List.map_nil,hs,hx,hr];exact hK _ _ h
theorem zF4 {w w':World} {v u v':Value} {ops:Array Oper} {o:Oper} {a:Act} {K:Act→World→Prop} {Q:Exit→Act→World→Prop} {E:Prop} (hgd:o.guard=none) (s x:Operand) (t:TypeId)
  (ho:o.op= .call ⟨ .builtin .copy,#[s,x],#[t,t]⟩)
  (hs:a.eval s=v) (hx:a.eval x=u) (hr:(Builtin.copy_ #[t,t] o.type #[v,u]).run Tryz.prog w= .ok v' w') (h:K (a.put o.dst v') w'):
  if Region.wanted o (yielded ops a.tmps)=true then Oper.wp Tryz.prog o a w K Q else E:=by
 have hw:Region.wanted o (yielded ops a.tmps)=true:=by simp[Region.wanted,hgd]
 rw[if_pos hw];unfold Oper.wp execOp;simp only[ho,resolve,invoke,builtin,Sem.run_bind,Sem.run_pure,Result.andThen_ok,List.map_toArray,List.map_cons,List.map_nil,hs,hx,hr];exact h
def RpI (w wr:World) (B n k:Nat):Prop:=zCH wr B n k∧Below w.heap.size w wr∧w.heap.size≤B
set_option maxRecDepth 8000 in
set_option maxHeartbeats 4000000 in
theorem Y6 {w:World} {XB n:Nat} (hx:w.cell? ⟨XB,0,none⟩=some (.int .i64 (-1))) (h0:0<n) (hn:n≤100000):
  Calls Tryz.prog 57 #[.slice (some ⟨XB,0,none⟩) 1 1,.int .i64 (n:Int)] w fun e w'=>∃B,e= .returned (.slice (some ⟨B,0,none⟩) n n)∧w.heap.size≤B∧ArrF w' B n (fun _=> -1)∧Below w.heap.size w w':=by
 have HM:=Lib.hid (Tryz.bits_Mul 1 n (by decide) (by omega) w);have e1:((1*n/18446744073709551616:Nat):Int)=0:=by rw[Nat.one_mul,Nat.div_eq_of_lt (by omega)];rfl
 have e2:((1*n%18446744073709551616:Nat):Int)=(n:Int):=by rw[Nat.one_mul,Nat.mod_eq_of_lt (by omega)]
 rw[e1,e2] at HM;have n0:¬(n:Int)<0:=by omega
 have n1:(0:Int)≤(n:Int):=by omega
 have nb:(n:Int)≤100000:=by omega
 have u1:IntKind.u64.wrap (n:Int)=(n:Int):=by rw[IntKind.wrap_u64];omega
 have u2:IntKind.i64.wrap (n:Int)=(n:Int):=by rw[IntKind.wrap_i64];omega
 have hgt:¬(n:Int)>9223372036854775807:=by omega
 have hgd:decide ((9223372036854775807:Int)<(n:Int))=false:=decide_eq_false (by omega);have hmk:=zBO n (by omega);clear e1 e2;go_enter Tryz.func57,Tryz.ntmps57;go_wp2_with fail
 go_fit HM.out;rintro e w1 ⟨rfl,rfl⟩;obtain⟨w2,hrun,r1,r2⟩:=V5 (XB:=XB) (sLen:=1) (sc:=1) (dc:=n) (c:=1) (zCH.start w1 n) (by rw[Nat.sub_zero];exact (Nat.min_eq_left h0).symm) (Nat.zero_le _) (fun j hj=>by
  rw[show j=0 by omega];exact (keep_below (fun _=>True) (zA w1 (.cells (Array.replicate n (Value.int .i64 0)) 3))).cell hx trivial)
 have H2:Hid (RpI w1 w2 w1.heap.size n 1):=Lib.hid ⟨r1,by
  have hb:=zA w1 (.cells (Array.replicate n (Value.int .i64 0)) 3);exact KeepW.below hb r2 (Nat.le_trans (Nat.le_refl _) hb.size) (fun k hk e=>by omega),Nat.le_refl _⟩
 rw[Nat.sub_zero] at hrun;clear r1 r2 HM hx;go_wp2_with (at_builtin;refine Ze rfl (.tmp 31) (.tmp 32) 39 (by rfl) (by rfl) (by rfl) hrun ?_)
 clear hrun;obtain⟨B,hB⟩:∃B,w1.heap.size=B:=⟨_,rfl⟩;rw[hB] at H2;(try rw[hB]);have HB:=Lib.hid hB;clear hB hmk;go_loopw [8] (fun s8 wr=>∃k:Nat,s8= .int .i64 (k:Int)∧0<k∧k≤n∧Hid (RpI w1 wr B n k)) (fun s8 _=>n-(intOf s8).toNat)
 case atStart=>exact⟨1,rfl,by decide,h0,H2⟩
 case round=>
  clear H2;obtain⟨k,rfl,hk0,hk,HX⟩:=hrel;have k0:(0:Int)≤(k:Int):=by omega
  have kb:(k:Int)≤100000:=by omega
  by_cases hlt:k<n
  ·have hli:(k:Int)<(n:Int):=(by omega);have hki:(n:Int)≤(n:Int):=Int.le_refl _;obtain⟨c,hc⟩:∃c,Nat.min k (n-k)=c:=⟨_,rfl⟩;have hc0:0<c:=(by rw[←hc];exact Nat.lt_min.2 ⟨hk0,by omega⟩);have hcn:c≤n-k:=(by rw[←hc];exact Nat.min_le_right _ _);have hck:c≤k:=(by rw[←hc];exact Nat.min_le_left _ _);have HC:Hid (∀W,RpI w1 W B n k→∃w',(Builtin.copy_ #[39,39] 3 #[.slice (some ⟨B,k,none⟩) (n-k) (n-k),.slice (some ⟨B,0,none⟩) k n]).run Tryz.prog W= .ok (.int .i64 (c:Int)) w'∧Hid (RpI w1 w' B n (k+c))):=Lib.hid fun W hW=>by
    obtain⟨x1,x2,x3⟩:=hW;obtain⟨w',h1,h2,h3⟩:=V5 (XB:=B) (sLen:=k) (sc:=n) (dc:=n-k) (c:=c) x1 hc.symm hk (fun j hj=>x1.cell (by omega));exact⟨w',h1,Lib.hid ⟨h2,KeepW.below x2 h3 x2.size (fun k hk e=>by omega),x3⟩⟩
   have cb:(c:Int)≤100000:=(by omega);have c0:(0:Int)≤(c:Int):=(by omega);have hne:n≠k:=(by omega);have HD:Hid (RpI w1 wr.drew B n k):=Lib.hid (by
    obtain⟨x1,x2,x3⟩:=HX.out;exact⟨x1,x2.drew,x3⟩)
   clear hc;go_wp2
   obtain⟨w5,hr5,H5⟩:=HC.out _ HD.out;have kc1:IntKind.i64.wrap ((k:Int)+(c:Int))=(k:Int)+(c:Int):=(by apply IntWalk.i64_in<;>omega);clear HC HD HX;refine wp_region_any (by kernel_rfl) ?_;(try (change wpAny _ _ _ _ _ _ _ (World.drew _)));refine tK 0 ⟨some 38,.move (.tmp 8),3,_,#[],none⟩ ?v1000 rfl (.inl ⟨by rfl,?h1000⟩) ?_;case h1000=>(intro w;go_simp;(try with_reducible rfl))
   (try simp only[Act.put,pA1,pA2,pA3]);refine tK 1 ⟨some 39,.move (.tmp 7),39,_,#[],none⟩ ?v1001 rfl (.inl ⟨by rfl,?h1001⟩) ?_;case h1001=>(intro w;go_simp;(try with_reducible rfl))
   (try simp only[Act.put,pA1,pA2,pA3]);refine tK 2 ⟨some 40,.move (.tmp 8),3,_,#[],none⟩ ?v1002 rfl (.inl ⟨by rfl,?h1002⟩) ?_;case h1002=>(intro w;go_simp;(try with_reducible rfl))
   (try simp only[Act.put,pA1,pA2,pA3]);refine tK 3 ⟨some 41,.slice 39 (.tmp 39) (some (.tmp 40)) none none,39,_,#[⟨1,.data⟩,⟨2,.data⟩],none⟩ ?v1003 rfl (.inl ⟨by rfl,?h1003⟩) ?_;case h1003=>(intro w;go_simp;(try with_reducible rfl))
   (try simp only[Act.put,pA1,pA2,pA3]);refine tK 4 ⟨some 42,.move (.tmp 7),39,_,#[],none⟩ ?v1004 rfl (.inl ⟨by rfl,?h1004⟩) ?_;case h1004=>(intro w;go_simp;(try with_reducible rfl))
   (try simp only[Act.put,pA1,pA2,pA3]);refine tK 5 ⟨some 43,.move (.tmp 8),3,_,#[],none⟩ ?v1005 rfl (.inl ⟨by rfl,?h1005⟩) ?_;case h1005=>(intro w;go_simp;(try with_reducible rfl))
   (try simp only[Act.put,pA1,pA2,pA3]);refine tK 6 ⟨some 44,.slice 39 (.tmp 42) none (some (.tmp 43)) none,39,_,#[⟨4,.data⟩,⟨5,.data⟩],none⟩ ?v1006 rfl (.inl ⟨by rfl,?h1006⟩) ?_;case h1006=>(intro w;go_simp;(try with_reducible rfl))
   (try simp only[Act.put,pA1,pA2,pA3]);refine rD [7] (aC ⟨some 45,.call ⟨.builtin .copy,#[.tmp 41,.tmp 44],#[39,39]⟩,3,_,#[⟨3,.data⟩,⟨6,.data⟩],none⟩ rfl (fun K hK=> ?_) aN);refine zF4 (by rfl) (.tmp 41) (.tmp 44) 39 (by rfl) (by rfl) (by rfl) hr5 ?_;refine hK _ _ ?_;clear hK K;(try simp only[Act.put,pA1,pA2,pA3]);refine tK 8 ⟨some 46,.binOp BinOp.add 3 (.tmp 38) (.tmp 45) 3,3,_,#[⟨0,.data⟩,⟨7,.data⟩],none⟩ ?v1007 rfl (.inl ⟨by rfl,?h1007⟩) ?_;case h1007=>(intro w;go_simp;(try with_reducible rfl))
   (try simp only[Act.put,pA1,pA2,pA3]);refine tK 9 ⟨some 8,.assign (.tmp 46),3,_,#[⟨8,.data⟩,⟨7,.chain⟩,⟨0,.phase⟩,⟨1,.phase⟩,⟨2,.phase⟩,⟨3,.phase⟩,⟨4,.phase⟩,⟨5,.phase⟩,⟨6,.phase⟩,⟨7,.phase⟩,⟨8,.phase⟩],none⟩ ?v1008 rfl (.inl ⟨by rfl,?h1008⟩) ?_;case h1008=>(intro w;go_simp;(try with_reducible rfl))
   (try simp only[Act.put,pA1,pA2,pA3]);refine wpAny_done (by kernel_rfl) ?_ _;go_wp2
   go_roundw
   case rel=>exact⟨k+c,by go_num,by omega,by omega,H5⟩
   case measure=>simp[intOf]<;>omega
  ·have hli:¬(k:Int)<(n:Int):=(by omega);have hkn:k=n:=(by omega);go_wp2
   go_ret
   obtain⟨x1,x2,x3⟩:=HX.out;rw[hkn] at x1;exact⟨B,rfl,x3,x1.all,x2⟩
end Go.Proofs.YtjeomlickkpebaaGreatDoor
