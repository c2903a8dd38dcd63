/-
  dfas.maker: state: what it returns, and leaves.
-/
import Derived.Deep.WholeRow
import Derived.Test.YtjeomlickkpebaaGreatDoorBe35
import Derived.Test.YtjeomlickkpebaaGreatDoorBe37
namespace Go.Proofs.YtjeomlickkpebaaGreatDoor
open Go.RowKit
def zx:List Value:=List.replicate 257 (.int .i64 0)
theorem Tryz.infoStD:(Tryz.prog.info? 92).map (fun i=>(i.zero,i.size,i.bytes))=some (some (.agg zx.toArray),257,2056):=by kernel_rfl
theorem Tryz.zeroStD (W:World):(zeroValue 92).run Tryz.prog W= .ok (.agg zx.toArray) W:=by
 obtain⟨i,h1,h2,_⟩:=xJ Tryz.infoStD;unfold zeroValue;simp[typeInfo,h1,h2]
theorem Tryz.sizeStD:(Tryz.prog.info? 92).map (·.size)=some 257:=by
 obtain⟨i,h1,_,h2,_⟩:=xJ Tryz.infoStD;rw[h1];simp[h2]
def kq (row:List Int) (ru:Int):List Value:=row.map (Value.int .i64)++(List.replicate (256-row.length) (.int .i64 0)++ [.int .i64 ru])
theorem VY {row:List Int} (h:row.length≤256) (ru:Int):(kq row ru).length=257:=by
 unfold kq;rw[List.length_append,List.length_append,List.length_map,List.length_replicate,List.length_singleton];omega
theorem zEW {row:List Int} (h:row.length<256) (ru x:Int):(kq row ru).set row.length (.int .i64 x)=kq (row++ [x]) ru:=by
 unfold kq;rw[List.set_append_right _ _ (by rw[List.length_map];exact Nat.le_refl _),List.length_map,Nat.sub_self,show 256-row.length=(256-(row++ [x]).length)+1 by rw[List.length_append,List.length_singleton];omega,List.replicate_succ,List.cons_append,List.set_cons_zero,List.map_append,List.append_assoc];rfl
theorem zC9 {row:List Int} (h:row.length=256) (ru:Int):kq row ru=staD (row,ru):=by
 unfold kq staD;rw[h,Nat.sub_self];rfl
theorem VZ {row:List Int} {ru:Int}:∀x,x∈kq row ru→x.oneCell'=true:=fun x hx=>by
 unfold kq at hx;rcases List.mem_append.1 hx with hx | hx
 ·obtain⟨a,_,rfl⟩:=List.mem_map.1 hx;rfl
 ·rcases List.mem_append.1 hx with hx | hx
  ·rw[List.eq_of_mem_replicate hx];rfl
  ·rw[List.mem_singleton.1 hx];rfl
theorem XS (ru:Int):zx.set 256 (.int .i64 ru)=kq [] ru:=by
 unfold zx kq;rw[show 257=256+1 from rfl,List.replicate_succ'];rw[List.set_append_right _ _ (by rw[List.length_replicate];exact Nat.le_refl _),List.length_replicate,Nat.sub_self];rfl
theorem qG:zx.length=257:=List.length_replicate
def jq (w:World) (S:Nat) (cs:List Value):Prop:=w.heap[S]? =some (.cells cs.toArray 92 (0,0))
section
variable {w w':World} {S:Nat} {cs ds:List Value}
theorem jq.lt (h:jq w S cs):S<w.heap.size:=(Array.getElem?_eq_some_iff.1 h).1
theorem jq.keep {ok:Nat→Prop} (h:jq w S cs) (hk:KeepW ok w w') (ho:ok S):jq w' S cs:=(hk.same S h.lt ho).trans h
theorem jq.new (w:World) (cs:List Value):jq (w.alloc (.cells cs.toArray 92)) w.heap.size cs:=heap_alloc_new w _
theorem jq.cell {i:Nat} {x:Value} (h:jq w S cs) (hi:cs[i]? =some x):w.cell? ⟨S,i,none⟩=some x:=by
 rw[cell_of_row w S i _ _ (0,0) h,List.getElem?_toArray];exact hi
theorem jq.frozen (h:jq w S cs) (i:Nat):w.frozen? ⟨S,i,none⟩=false:=frozen_of_row w S i _ _ h
theorem jq.set (h:jq w S cs) (i:Nat) (x:Value):jq (w.setCell ⟨S,i,none⟩ x) S (cs.set i x):=by
 unfold jq at h ⊢;rw[heap_setCell_same w S i _ _ _ h];simp
theorem jq.range (h:jq w S cs):w.rangeAt S 0 cs:=fun j v hv=>by
 rw[Nat.zero_add];exact h.cell hv
theorem jq.store (h:jq w S cs) (hc:cs.length=257) (hl:ds.length=257) (h1:∀x,x∈ds→x.oneCell'=true):
  (storeCells ⟨S,0,none⟩ ds 0).run Tryz.prog w= .ok () (w.setRow S ds.toArray)∧jq (w.setRow S ds.toArray) S ds∧KeepW (fun k=>k≠S) w (w.setRow S ds.toArray):=by
 have hsz:=Tryz.sizeStD;refine⟨?_,setRow_heap w S _ _ _ _ h,?_⟩
 ·have:=run_storeVar_row (P:=Tryz.prog) w S 92 92 cs.toArray ds.toArray h (by rw[hsz,List.size_toArray,hl]) (by rw[List.size_toArray,List.size_toArray,hc,hl]) (by
   rw[Array.all_eq_true];intro i hi;exact h1 _ (by
    rw[List.getElem_toArray];exact List.getElem_mem _))
  cases hq:Tryz.prog.info? 92 with
  | none=>rw[hq] at hsz;cases hsz
  | some i=>
   have hs:i.size=257:=by rw[hq] at hsz;simpa using hsz
   simpa [storeVar,sizeOf,typeInfo,hq,Value.cells,hs,hl] using this
 ·refine⟨rfl,rfl,rfl,?_,fun k _ hk=> ?_⟩
  ·show _≤(w.heap.modify _ _).size;rw[Array.size_modify];exact Nat.le_refl _
  ·show (w.heap.modify S _)[k]? =_;rw[Array.getElem?_modify,if_neg (fun e=>hk e.symm)]
end
theorem StepC.narrow {c c':Col} {w w':World} (h:StepC (fun a=>a=1∨a=3) c c' w w') (h3:∀k,k<w.heap.size→c k≠3):StepC (fun a=>a=1) c c' w w':=
 ⟨⟨h.keep.os,h.keep.tape,h.keep.output,h.keep.size,fun k hk hc=>h.keep.same k hk fun e=>e.elim hc (h3 k hk)⟩,h.same,h.fresh⟩
theorem QJ (step:List Int→Nat→List Int) (x:List Int) (xs:List (List Int)):∀b,(rowX step Z5 xg x xs b).1.length≤xs.length+b∧(rowX step Z5 xg x xs b).2.length=b
 | 0=>⟨Nat.le_refl _,rfl⟩
 | b+1=>by
  obtain⟨h1,h2⟩:=QJ step x xs b;rw[rowX,QD];refine⟨?_,by rw[List.length_append,h2];rfl⟩;show (QS _ _).length≤_;unfold QS;split
  ·omega
  ·split
   ·rw[List.length_append,List.length_singleton];omega
   ·omega
theorem zCA {step:List Int→Nat→List Int} {x:List Int} {xs:List (List Int)} (hs:∀b,KH (step x b)) (hx:∀y,y∈xs→KH y):∀b y,y∈(rowX step Z5 xg x xs b).1→KH y
 | 0,y,hy=>hx y hy
 | b+1,y,hy=>by
  rw[rowX,QD] at hy;have ih:=zCA hs hx b;change y∈QS _ _ at hy;unfold QS at hy;split at hy
  ·exact ih y hy
  ·split at hy
   ·rcases List.mem_append.1 hy with hy | hy
    ·exact ih y hy
    ·rw[List.mem_singleton.1 hy];exact hs b
   ·exact ih y hy
section
variable {c:Col} {w:World} {M mb:Nat} {nv lv v:Value} {xs:List (List Int)} {us:List Value} {l first:List Int} {q:List Sta}
abbrev vp (q:List Sta) (l:List Int) (xs:List (List Int)) (b:Nat):List (List Int)×List Int:=rowX (fun l b=>zy q b l) Z5 xg l xs b
def zIY (c:Col) (w wr:World) (M:Nat) (nv:Value) (mb S5 S4:Nat) (xs:List (List Int)) (row:List Int) (ru:Int):Prop:=
 ∃c' lv' us',StepC (fun a=>a=1) c c' w wr∧MkC c' wr M nv xs lv' mb us'∧jq wr S5 (kq row ru)∧jq wr S4 zx∧c' S5=3∧c' S4=3
def StaO (c:Col) (w w':World) (M:Nat) (nv:Value) (xs:List (List Int)) (mb:Nat) (row:List Int) (ru:Int) (e:Ending):Prop:=
 e= .returned (.agg (staD (row,ru)).toArray)∧∃c' lv' us',StepC (fun a=>a=1) c c' w w'∧MkC c' w' M nv xs lv' mb us'
set_option maxRecDepth 8000 in
set_option maxHeartbeats 8000000 in
theorem KR (h:MkC c w M nv xs lv mb us) (hq:kD w nv q first) (hc0:∀k,k<w.heap.size→c k≠3) (hsq:∀(i:Nat) (s:Sta),q[i]? =some s→Zh q.length s)
  (hbel:∀c' W,StepC (fun a=>a=1) c c' w W→kD W nv q first∧zC2 W)
  (hl:yO c w v (xK l)) (hll:l.length≤100000) (hns:∀b,KH (zy q b l)∧(zy q b l).length≤100000) (hx:∀x,x∈xs→KH x) (hxs:xs.length≤50000):
  Calls Tryz.prog 46 #[.pointer (some ⟨M,0,none⟩),v] w fun e w'=>StaO c w w' M nv (vp q l xs 256).1 mb (vp q l xs 256).2 (accP q l (-1)) e:=by
 have hz:=Tryz.zeroStD;have hI:=QE hl (by omega);have hf:=h.fresh;have hM:=h.box.lt;have HFW:=qh hbel;have HL:=qh hl;have HNS:=qh hns;have HXF:=qh (fun b=>QJ (fun l b=>zy q b l) l xs b);have HXN:=qh (zCA (step:=fun l b=>zy q b l) (x:=l) (fun b=>(hns b).1) hx);have hb1:=zA w (.cells zx.toArray 92);have hs1:=zC w (.cells zx.toArray 92);have hn1:=jq.new w zx;obtain⟨⟨b0,b1,b2⟩,f0,f1,f2⟩:=(h.under hb1).box.cells;have hb2:=zA (w.alloc (.cells zx.toArray 92)) (.cells zx.toArray 92);have hs2:=zC (w.alloc (.cells zx.toArray 92)) (.cells zx.toArray 92);have hn2:=jq.new (w.alloc (.cells zx.toArray 92)) zx;rw[hs1] at hn2;have hn1':jq ((w.alloc (.cells zx.toArray 92)).alloc (.cells zx.toArray 92)) w.heap.size zx:=hn1.keep (keep_below (fun _=>True) hb2) trivial;have sc1:StepC (fun a=>a=1) c (colAt c 3 w.heap.size) w (w.alloc (.cells zx.toArray 92)):=StepC.colAt hf _;have sc2:StepC (fun a=>a=1) (colAt c 3 w.heap.size) (colAt (colAt c 3 w.heap.size) 3 (w.heap.size+1)) (w.alloc (.cells zx.toArray 92)) ((w.alloc (.cells zx.toArray 92)).alloc (.cells zx.toArray 92)):=by
  have:=StepC.colAt (S:=fun a=>a=1) (A:=3) sc1.fresh (.cells zx.toArray 92)
  rwa [hs1] at this
 obtain⟨W2,hW2⟩:∃W,(w.alloc (.cells zx.toArray 92)).alloc (.cells zx.toArray 92)=W:=⟨_,rfl⟩;rw[hW2] at hn2 hn1' sc2 hb2 hs2;have hS4:w.heap.size<W2.heap.size:=by omega
 obtain⟨c2,hc2⟩:∃c2,colAt (colAt c 3 w.heap.size) 3 (w.heap.size+1)=c2:=⟨_,rfl⟩;rw[hc2] at sc2;have k4:c2 w.heap.size=3:=by rw[←hc2,x9 (by omega)];exact if_pos rfl
 have k5:c2 (w.heap.size+1)=3:=by rw[←hc2];exact if_pos rfl
 obtain⟨rl,hrl⟩:∃rl,accP q l (-1)=rl:=⟨_,rfl⟩;obtain⟨hst2,hn3,hk3⟩:=hn2.store (ds:=zx.set 256 (.int .i64 rl)) qG (by rw[List.length_set];exact qG) (by rw[XS];exact VZ);have sc12:StepC (fun a=>a=1) c c2 w W2:=sc1.trans sc2;have HA:Hid (Calls Tryz.prog 22 #[nv,v] (w.alloc (.cells zx.toArray 92)) fun e w'=>e= .returned (.int .i64 rl)∧w'=w.alloc (.cells zx.toArray 92)):=qh (by
  rw[←hrl];exact naccept_any (.inr ⟨_,hq.below hb1⟩) (hI.below hb1))
 obtain⟨W3,hW3⟩:∃W,W2.setRow (w.heap.size+1) (zx.set 256 (.int .i64 rl)).toArray=W:=⟨_,rfl⟩;rw[hW3] at hst2 hn3 hk3;have H0:Hid (zIY c w W3 M nv mb (w.heap.size+1) w.heap.size (vp q l xs 0).1 (vp q l xs 0).2 rl):=qh (by
  have s3:StepC (fun a=>a=1∨a=3) c2 c2 W2 W3:=⟨hk3.mono fun k _ hk e=>hk (by rw[e];exact .inr k5),fun _ _=>rfl,fun k hk=>sc12.fresh k (Nat.le_trans hk3.size hk)⟩;refine⟨c2,lv,us,((sc12.mono fun a e=> .inl e).trans s3).narrow hc0,?_,by rw[XS] at hn3;exact hn3,hn1'.keep hk3 (by omega),k5,k4⟩;have m2:MkC c2 W2 M nv xs lv mb us:=by
   have m1:=h.step (S:=fun _=>False) (c':=c2) (w':=W2) ⟨keep_below _ (by rw[←hW2];exact hb1.trans (by rw[hW2];exact hb2.mono (by omega))),sc12.same,sc12.fresh⟩ (fun e=>e) (fun e=>e);exact m1
  exact m2.step (S:=fun a=>a=3) ⟨hk3.mono fun k _ hk e=>hk (by rw[e];exact k5),fun _ _=>rfl,fun k hk=>sc12.fresh k (Nat.le_trans hk3.size hk)⟩ (by decide) (by decide))
 have hzl:=qG;obtain⟨zD,hzD⟩:∃z,zx=z:=⟨_,rfl⟩;rw[hzD] at hz b0 hst2 HA hW2 hzl;have HZD:=qh hzD;clear h hq hl hns hx hI hf hn1 hb1 hs1 hb2 hs2 hn2 hn1' sc1 sc2 sc12 hn3 hk3 hbel b1 b2 f0 f1 f2 k4 k5 hc2 hzD;go_enter Tryz.func46,Tryz.ntmps46;go_wp2_with fail
 go_fit HA.out;rintro e w1 ⟨rfl,rfl⟩;go_wp2_with fail
 go_loopw [14] (fun s14 wr=>∃b:Nat,s14= .int .i64 (b:Int)∧b≤256∧Hid (zIY c w wr M nv mb (w.heap.size+1) w.heap.size (vp q l xs b).1 (vp q l xs b).2 rl)) (fun s14 _=>256-(intOf s14).toNat)
 case atStart=>exact⟨0,rfl,by decide,H0⟩
 case round=>
  clear H0;obtain⟨b,rfl,hb,HX⟩:=hrel;obtain⟨c',lv',us',x1,x2,x3,x4,x5,x6⟩:=HX.out;have hlen:=(HXF.out b).2;have hfew:=(HXF.out b).1;obtain⟨⟨b0,b1,b2⟩,f0,f1,f2⟩:=x2.box.cells;have hMr:=x2.box.lt;have i0:(0:Int)≤(b:Int):=by omega
  rcases (show b=256∨b<256 by omega) with hb2 | hb2
  ·have hbi:¬(b:Int)<256:=(by omega);have hbd:decide ((b:Int)<256)=false:=decide_eq_false hbi;subst hb2;have hl5:(kq (vp q l xs 256).2 rl).length=257:=VY (by rw[hlen];exact Nat.le_refl _) _;have hld:=x3.range;obtain⟨hst,hn4,hk4⟩:=x4.store (ds:=kq (vp q l xs 256).2 rl) qG hl5 VZ;have HF:Hid (kq (vp q l xs 256).2 rl=staD ((vp q l xs 256).2,rl)∧∃c' lv' us',StepC (fun a=>a=1) c c' w (wr.setRow w.heap.size (kq (vp q l xs 256).2 rl).toArray)∧MkC c' (wr.setRow w.heap.size (kq (vp q l xs 256).2 rl).toArray) M nv (vp q l xs 256).1 lv' mb us'):=qh (by
    have s4:StepC (fun a=>a=1∨a=3) c' c' wr (wr.setRow w.heap.size (kq (vp q l xs 256).2 rl).toArray):=⟨hk4.mono fun k _ hk e=>hk (by rw[e];exact .inr x6),fun _ _=>rfl,fun k hk=>x2.fresh k (Nat.le_trans hk4.size hk)⟩;refine⟨zC9 hlen rl,c',lv',us',((x1.mono fun a e=> .inl e).trans s4).narrow hc0,?_⟩;exact x2.step (S:=fun a=>a=3) ⟨hk4.mono fun k _ hk e=>hk (by rw[e];exact x6),fun _ _=>rfl,fun k hk=>x2.fresh k (Nat.le_trans hk4.size hk)⟩ (by decide) (by decide))
   obtain⟨W5,hW5⟩:∃W,wr.setRow w.heap.size (kq (vp q l xs 256).2 rl).toArray=W:=⟨_,rfl⟩;obtain⟨ce,hce⟩:∃ce,kq (vp q l xs 256).2 rl=ce:=⟨_,rfl⟩;rw[hW5] at hst hn4 HF;rw[hce] at hld hst hn4 HF hl5;unfold jq at hn4;clear x1 x2 x3 x4 x5 x6 HX hk4 hW5 hce;have hsz:(Tryz.prog.info? 92).map (·.size)=some ce.length:=(by rw[hl5];exact Tryz.sizeStD);go_wp2_with (refine wpList_load_mid rfl 92 _ rfl (w.heap.size+1) 0 rfl ce _ hld Tryz.underlying92 rfl hsz ?_)
   (try simp only[Exit.inBlock,Exit.then]);refine bodyPost_ret (results_cell_row rfl _ _ w.heap.size 92 ce.toArray (0,0) _ rfl hn4 Tryz.underlying92 rfl (by rw[List.size_toArray,hl5];exact Tryz.sizeStD)) rfl ?_;exact⟨by rw[HF.out.1],HF.out.2⟩
  ·have hbi:(b:Int)<256:=(by omega);have hbd:decide ((b:Int)<256)=true:=decide_eq_true hbi;have hw8:IntKind.u8.wrap (b:Int)=(b:Int):=(by apply IntWalk.u8_in<;>omega);obtain⟨hf1,hf2⟩:=HFW.out c' wr x1;have hlr:=HL.out.step x1 (by decide);have HST:=qh (zA9 (q:=q) (l:=l) (.inr ⟨_,hf1⟩) hsq (QE hlr (by omega)) hll b hb2);have HXX:=qh (And.intro x1 (And.intro x2 (And.intro x3 (And.intro x4 (And.intro x5 x6)))));have HPW:=qh hf2;obtain⟨xb,hxb⟩:∃xb,(vp q l xs b).1=xb:=⟨_,rfl⟩;obtain⟨rb,hrb⟩:∃rb,(vp q l xs b).2=rb:=⟨_,rfl⟩;have HRN:Hid ((vp q l xs (b+1)).1=QS xb (zy q b l)∧(vp q l xs (b+1)).2=rb++ [zEI xb (zy q b l)]):=qh (by
    rw[←hxb,←hrb];show (kT _ _ _ _ _ _).1=_∧(kT _ _ _ _ _ _).2=_;rw[QD];exact⟨rfl,rfl⟩)
   rw[hxb,hrb] at HXX;rw[hxb] at hfew;rw[hrb] at hlen;have HNB:=qh (HNS.out b);have HXB:Hid (∀y,y∈xb→KH y):=qh (by rw[←hxb];exact HXN.out b);have hlf:=hfew;clear x1 x2 x3 x4 x5 x6 HX hf1 hf2 hlr hxb hrb;go_wp2_with fail
   go_fit HST.out;rintro e w2 ⟨r,rfl,hr1,hr2⟩;obtain⟨x1,x2,x3,x4,x5,x6⟩:=HXX.out;have y2:=x2.under hr2;have hcel:yO c' w2 r (xK (zy q b l)):=by
    have:=hr1.1;rw[show (zy q b l).length=(xK (zy q b l)).length from (zP _).symm] at this;exact this.mono fun k _ hk=>x2.fresh k hk
   have HNU:=qh (VQ y2 (HPW.out.below hr2) hcel HNB.out.2 HNB.out.1 HXB.out (by omega));have HBB:=qh (And.intro (StepC.below (S:=fun a=>a=1) x2.fresh hr2) hr2);clear hr1 hr2 x1 x2 x3 x4 x5 x6 y2 hcel;go_wp2_with fail
   go_fit HNU.out;rintro e w3 ⟨rfl,c3,lv3,us3,z1,z2⟩;obtain⟨x1,x2,x3,x4,x5,x6⟩:=HXX.out;have hlt5:=x3.lt;have hlt4:=x4.lt;have sB:=HBB.out.1.trans z1;have y3:jq w3 (w.heap.size+1) (kq rb rl):=x3.keep sB.keep (by rw[x5];decide);have y4:jq w3 w.heap.size zx:=x4.keep sB.keep (by rw[x6];decide);have y5:c3 (w.heap.size+1)=3:=(by rw[sB.same _ hlt5];exact x5);have y6:c3 w.heap.size=3:=(by rw[sB.same _ hlt4];exact x6);obtain⟨nr,hnr⟩:∃nr,zEI xb (zy q b l)=nr:=⟨_,rfl⟩;have hst:=y3.set b (.int .i64 nr);have hlr2:(kq rb rl).set b (.int .i64 nr)=kq (rb++ [nr]) rl:=by
    have:=zEW (row:=rb) (by omega) rl nr
    rwa [hlen] at this
   rw[hlr2] at hst;have hfz:=y3.frozen b;have hlt:=y3.lt;have hcl5:(kq rb rl).length=257:=VY (by omega) rl;have hcc:∃y,w3.cell? ⟨w.heap.size+1,b,none⟩=some y:=⟨_,y3.cell (List.getElem?_eq_getElem (by omega))⟩;obtain⟨yc,hyc⟩:=hcc;have H9:Hid (zIY c w (w3.setCell ⟨w.heap.size+1,b,none⟩ (.int .i64 nr)) M nv mb (w.heap.size+1) w.heap.size (QS xb (zy q b l)) (rb++ [nr]) rl):=qh (by
    have sS:=zd (B:=w.heap.size+1) (i:=b) (y:= .int .i64 nr) z2.fresh;rw[y5] at sS;refine⟨c3,lv3,us3,(((x1.trans sB).mono fun a e=> .inl e).trans (sS.mono fun a e=> .inr e)).narrow hc0,z2.step sS (by decide) (by decide),hst,y4.keep (zE (ok:=fun k=>k≠w.heap.size+1) _ b none _ w3 fun h=>h rfl) (by omega),y5,y6⟩)
   rw[hnr] at HRN;(try rw[hnr]);clear z1 z2 x1 x2 x3 x4 x5 x6 sB y3 y4 y5 y6 hst hlr2 hnr HNU HST HXX HBB hlt5 hlt4;go_wp2_with fail
   go_roundw
   case rel=>exact⟨b+1,by go_num,hb2,by rw[HRN.out.1,HRN.out.2];exact H9⟩
   case measure=>simp[intOf]<;>omega
end
end Go.Proofs.YtjeomlickkpebaaGreatDoor
