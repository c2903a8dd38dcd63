/-
  dfas.maker: state: what it returns, and leaves.
-/
import Derived.Deep.WholeRow
import Derived.Deep.MidRow
import Derived.Test.YtjeomlickkpebaaGreatDoorBe2
import Derived.Test.YtjeomlickkpebaaGreatDoorBe37
import Derived.Test.YtjeomlickkpebaaGreatDoorBe36
import Derived.Test.YtjeomlickkpebaaGreatDoorBe31
import Derived.Test.YtjeomlickkpebaaGreatDoorBe16
namespace Go.Proofs.YtjeomlickkpebaaGreatDoor
open Go.RowKit
def zeroD:List Value:=List.replicate 257 (.int .i64 0)
theorem Tryz.infoStD:(Tryz.prog.info? 92).map (fun i=>(i.zero,i.size,i.bytes))=some (some (.agg zeroD.toArray),257,2056):=by kernel_rfl
theorem Tryz.zeroStD (W:World):(zeroValue 92).run Tryz.prog W= .ok (.agg zeroD.toArray) W:=by
 obtain⟨i,h1,h2,_⟩:=info_of Tryz.infoStD;unfold zeroValue;simp[typeInfo,h1,h2]
theorem Tryz.sizeStD:(Tryz.prog.info? 92).map (·.size)=some 257:=by
 obtain⟨i,h1,_,h2,_⟩:=info_of Tryz.infoStD;rw[h1];simp[h2]
def celD (row:List Int) (ru:Int):List Value:=row.map (Value.int .i64)++(List.replicate (256-row.length) (.int .i64 0)++ [.int .i64 ru])
theorem celD_len {row:List Int} (h:row.length≤256) (ru:Int):(celD row ru).length=257:=by
 unfold celD;rw[List.length_append,List.length_append,List.length_map,List.length_replicate,List.length_singleton];omega
theorem celD_set {row:List Int} (h:row.length<256) (ru x:Int):(celD row ru).set row.length (.int .i64 x)=celD (row++ [x]) ru:=by
 unfold celD;rw[List.set_append_right _ _ (by rw[List.length_map];exact Nat.le_refl _),List.length_map,Nat.sub_self,show 256-row.length=(256-(row++ [x]).length)+1 by rw[List.length_append,List.length_singleton];omega,List.replicate_succ,List.cons_append,List.set_cons_zero,List.map_append,List.append_assoc];rfl
theorem celD_full {row:List Int} (h:row.length=256) (ru:Int):celD row ru=staD (row,ru):=by
 unfold celD staD;rw[h,Nat.sub_self];rfl
theorem celD_one {row:List Int} {ru:Int}:∀x,x∈celD row ru→x.oneCell'=true:=fun x hx=>by
 unfold celD at hx;rcases List.mem_append.1 hx with hx | hx
 ·obtain⟨a,_,rfl⟩:=List.mem_map.1 hx;rfl
 ·rcases List.mem_append.1 hx with hx | hx
  ·rw[List.eq_of_mem_replicate hx];rfl
  ·rw[List.mem_singleton.1 hx];rfl
theorem zeroD_rule (ru:Int):zeroD.set 256 (.int .i64 ru)=celD [] ru:=by
 unfold zeroD celD;rw[show 257=256+1 from rfl,List.replicate_succ'];rw[List.set_append_right _ _ (by rw[List.length_replicate];exact Nat.le_refl _),List.length_replicate,Nat.sub_self];rfl
theorem zeroD_len:zeroD.length=257:=List.length_replicate
def BlkD (w:World) (S:Nat) (cs:List Value):Prop:=w.heap[S]? =some (.cells cs.toArray 92 (0,0))
section
variable {w w':World} {S:Nat} {cs ds:List Value}
theorem BlkD.lt (h:BlkD w S cs):S<w.heap.size:=(Array.getElem?_eq_some_iff.1 h).1
theorem BlkD.keep {ok:Nat→Prop} (h:BlkD w S cs) (hk:KeepW ok w w') (ho:ok S):BlkD w' S cs:=(hk.same S h.lt ho).trans h
theorem BlkD.new (w:World) (cs:List Value):BlkD (w.alloc (.cells cs.toArray 92)) w.heap.size cs:=heap_alloc_new w _
theorem BlkD.cell {i:Nat} {x:Value} (h:BlkD w S cs) (hi:cs[i]? =some x):w.cell? ⟨S,i,none⟩=some x:=by
 rw[cell_of_row w S i _ _ (0,0) h,List.getElem?_toArray];exact hi
theorem BlkD.frozen (h:BlkD w S cs) (i:Nat):w.frozen? ⟨S,i,none⟩=false:=frozen_of_row w S i _ _ h
theorem BlkD.set (h:BlkD w S cs) (i:Nat) (x:Value):BlkD (w.setCell ⟨S,i,none⟩ x) S (cs.set i x):=by
 unfold BlkD at h ⊢;rw[heap_setCell_same w S i _ _ _ h];simp
theorem BlkD.range (h:BlkD w S cs):w.rangeAt S 0 cs:=fun j v hv=>by
 rw[Nat.zero_add];exact h.cell hv
theorem BlkD.store (h:BlkD w S cs) (hc:cs.length=257) (hl:ds.length=257) (h1:∀x,x∈ds→x.oneCell'=true):
  (storeCells ⟨S,0,none⟩ ds 0).run Tryz.prog w= .ok () (w.setRow S ds.toArray)∧BlkD (w.setRow S ds.toArray) S ds∧KeepW (fun k=>k≠S) w (w.setRow S ds.toArray):=by
 have hsz:=Tryz.sizeStD;refine⟨?_,setRow_heap w S _ _ _ _ h,?_⟩
 ·have:=run_storeVar_row (P:=Tryz.prog) w S 92 92 cs.toArray ds.toArray h (by rw[hsz,List.size_toArray,hl]) (by rw[List.size_toArray,List.size_toArray,hc,hl]) (by
   rw[Array.all_eq_true];intro i hi;exact h1 _ (by
    rw[List.getElem_toArray];exact List.getElem_mem _))
  cases hq:Tryz.prog.info? 92 with
  | none=>rw[hq] at hsz;cases hsz
  | some i=>
   have hs:i.size=257:=by rw[hq] at hsz;simpa using hsz
   simpa [storeVar,sizeOf,typeInfo,hq,Value.cells,hs,hl] using this
 ·refine⟨rfl,rfl,rfl,?_,fun k _ hk=> ?_⟩
  ·show _≤(w.heap.modify _ _).size;rw[Array.size_modify];exact Nat.le_refl _
  ·show (w.heap.modify S _)[k]? =_;rw[Array.getElem?_modify,if_neg (fun e=>hk e.symm)]
end
theorem StepC.narrow {c c':Col} {w w':World} (h:StepC (fun a=>a=1∨a=3) c c' w w') (h3:∀k,k<w.heap.size→c k≠3):StepC (fun a=>a=1) c c' w w':=
 ⟨⟨h.keep.os,h.keep.tape,h.keep.output,h.keep.size,fun k hk hc=>h.keep.same k hk fun e=>e.elim hc (h3 k hk)⟩,h.same,h.fresh⟩
theorem row_few (step:List Int→Nat→List Int) (x:List Int) (xs:List (List Int)):∀b,(rowX step nilL sameL x xs b).1.length≤xs.length+b∧(rowX step nilL sameL x xs b).2.length=b
 | 0=>⟨Nat.le_refl _,rfl⟩
 | b+1=>by
  obtain⟨h1,h2⟩:=row_few step x xs b;rw[rowX,one_num];refine⟨?_,by rw[List.length_append,h2];rfl⟩;show (numX _ _).length≤_;unfold numX;split
  ·omega
  ·split
   ·rw[List.length_append,List.length_singleton];omega
   ·omega
theorem row_non {step:List Int→Nat→List Int} {x:List Int} {xs:List (List Int)} (hs:∀b,NonN (step x b)) (hx:∀y,y∈xs→NonN y):∀b y,y∈(rowX step nilL sameL x xs b).1→NonN y
 | 0,y,hy=>hx y hy
 | b+1,y,hy=>by
  rw[rowX,one_num] at hy;have ih:=row_non hs hx b;change y∈numX _ _ at hy;unfold numX at hy;split at hy
  ·exact ih y hy
  ·split at hy
   ·rcases List.mem_append.1 hy with hy | hy
    ·exact ih y hy
    ·rw[List.mem_singleton.1 hy];exact hs b
   ·exact ih y hy
section
variable {c:Col} {w:World} {M mb:Nat} {nv lv v:Value} {xs:List (List Int)} {us:List Value} {l first:List Int} {q:List Sta}
abbrev rowL (q:List Sta) (l:List Int) (xs:List (List Int)) (b:Nat):List (List Int)×List Int:=rowX (fun l b=>stepP q b l) nilL sameL l xs b
def StaI (c:Col) (w wr:World) (M:Nat) (nv:Value) (mb S5 S4:Nat) (xs:List (List Int)) (row:List Int) (ru:Int):Prop:=
 ∃c' lv' us',StepC (fun a=>a=1) c c' w wr∧MkC c' wr M nv xs lv' mb us'∧BlkD wr S5 (celD row ru)∧BlkD wr S4 zeroD∧c' S5=3∧c' S4=3
def StaO (c:Col) (w w':World) (M:Nat) (nv:Value) (xs:List (List Int)) (mb:Nat) (row:List Int) (ru:Int) (e:Ending):Prop:=
 e= .returned (.agg (staD (row,ru)).toArray)∧∃c' lv' us',StepC (fun a=>a=1) c c' w w'∧MkC c' w' M nv xs lv' mb us'
set_option maxRecDepth 8000 in
set_option maxHeartbeats 8000000 in
theorem pstate_any (h:MkC c w M nv xs lv mb us) (hq:NfaR w nv q first) (hc0:∀k,k<w.heap.size→c k≠3) (hsq:∀(i:Nat) (s:Sta),q[i]? =some s→StOk q.length s)
  (hbel:∀c' W,StepC (fun a=>a=1) c c' w W→NfaR W nv q first∧PowW W)
  (hl:CelC c w v (numC l)) (hll:l.length≤100000) (hns:∀b,NonN (stepP q b l)∧(stepP q b l).length≤100000) (hx:∀x,x∈xs→NonN x) (hxs:xs.length≤50000):
  Calls Tryz.prog 46 #[.pointer (some ⟨M,0,none⟩),v] w fun e w'=>StaO c w w' M nv (rowL q l xs 256).1 mb (rowL q l xs 256).2 (accP q l (-1)) e:=by
 have hz:=Tryz.zeroStD;have hI:=cel_ints hl (by omega);have hf:=h.fresh;have hM:=h.box.lt;have HFW:=qh hbel;have HL:=qh hl;have HNS:=qh hns;have HXF:=qh (fun b=>row_few (fun l b=>stepP q b l) l xs b);have HXN:=qh (row_non (step:=fun l b=>stepP q b l) (x:=l) (fun b=>(hns b).1) hx);have hb1:=alloc_under w (.cells zeroD.toArray 92);have hs1:=alloc_size w (.cells zeroD.toArray 92);have hn1:=BlkD.new w zeroD;obtain⟨⟨b0,b1,b2⟩,f0,f1,f2⟩:=(h.under hb1).box.cells;have hb2:=alloc_under (w.alloc (.cells zeroD.toArray 92)) (.cells zeroD.toArray 92);have hs2:=alloc_size (w.alloc (.cells zeroD.toArray 92)) (.cells zeroD.toArray 92);have hn2:=BlkD.new (w.alloc (.cells zeroD.toArray 92)) zeroD;rw[hs1] at hn2;have hn1':BlkD ((w.alloc (.cells zeroD.toArray 92)).alloc (.cells zeroD.toArray 92)) w.heap.size zeroD:=hn1.keep (keep_below (fun _=>True) hb2) trivial;have sc1:StepC (fun a=>a=1) c (colAt c 3 w.heap.size) w (w.alloc (.cells zeroD.toArray 92)):=StepC.colAt hf _;have sc2:StepC (fun a=>a=1) (colAt c 3 w.heap.size) (colAt (colAt c 3 w.heap.size) 3 (w.heap.size+1)) (w.alloc (.cells zeroD.toArray 92)) ((w.alloc (.cells zeroD.toArray 92)).alloc (.cells zeroD.toArray 92)):=by
  have:=StepC.colAt (S:=fun a=>a=1) (A:=3) sc1.fresh (.cells zeroD.toArray 92)
  rwa [hs1] at this
 obtain⟨W2,hW2⟩:∃W,(w.alloc (.cells zeroD.toArray 92)).alloc (.cells zeroD.toArray 92)=W:=⟨_,rfl⟩;rw[hW2] at hn2 hn1' sc2 hb2 hs2;have hS4:w.heap.size<W2.heap.size:=by omega
 obtain⟨c2,hc2⟩:∃c2,colAt (colAt c 3 w.heap.size) 3 (w.heap.size+1)=c2:=⟨_,rfl⟩;rw[hc2] at sc2;have k4:c2 w.heap.size=3:=by rw[←hc2,colAt_lt (by omega)];exact if_pos rfl
 have k5:c2 (w.heap.size+1)=3:=by rw[←hc2];exact if_pos rfl
 obtain⟨rl,hrl⟩:∃rl,accP q l (-1)=rl:=⟨_,rfl⟩;obtain⟨hst2,hn3,hk3⟩:=hn2.store (ds:=zeroD.set 256 (.int .i64 rl)) zeroD_len (by rw[List.length_set];exact zeroD_len) (by rw[zeroD_rule];exact celD_one);have sc12:StepC (fun a=>a=1) c c2 w W2:=sc1.trans sc2;have HA:Hid (Calls Tryz.prog 22 #[nv,v] (w.alloc (.cells zeroD.toArray 92)) fun e w'=>e= .returned (.int .i64 rl)∧w'=w.alloc (.cells zeroD.toArray 92)):=qh (by
  rw[←hrl];exact naccept_any (.inr ⟨_,hq.below hb1⟩) (hI.below hb1))
 obtain⟨W3,hW3⟩:∃W,W2.setRow (w.heap.size+1) (zeroD.set 256 (.int .i64 rl)).toArray=W:=⟨_,rfl⟩;rw[hW3] at hst2 hn3 hk3;have H0:Hid (StaI c w W3 M nv mb (w.heap.size+1) w.heap.size (rowL q l xs 0).1 (rowL q l xs 0).2 rl):=qh (by
  have s3:StepC (fun a=>a=1∨a=3) c2 c2 W2 W3:=⟨hk3.mono fun k _ hk e=>hk (by rw[e];exact .inr k5),fun _ _=>rfl,fun k hk=>sc12.fresh k (Nat.le_trans hk3.size hk)⟩;refine⟨c2,lv,us,((sc12.mono fun a e=> .inl e).trans s3).narrow hc0,?_,by rw[zeroD_rule] at hn3;exact hn3,hn1'.keep hk3 (by omega),k5,k4⟩;have m2:MkC c2 W2 M nv xs lv mb us:=by
   have m1:=h.step (S:=fun _=>False) (c':=c2) (w':=W2) ⟨keep_below _ (by rw[←hW2];exact hb1.trans (by rw[hW2];exact hb2.mono (by omega))),sc12.same,sc12.fresh⟩ (fun e=>e) (fun e=>e);exact m1
  exact m2.step (S:=fun a=>a=3) ⟨hk3.mono fun k _ hk e=>hk (by rw[e];exact k5),fun _ _=>rfl,fun k hk=>sc12.fresh k (Nat.le_trans hk3.size hk)⟩ (by decide) (by decide))
 have hzl:=zeroD_len;obtain⟨zD,hzD⟩:∃z,zeroD=z:=⟨_,rfl⟩;rw[hzD] at hz b0 hst2 HA hW2 hzl;have HZD:=qh hzD;clear h hq hl hns hx hI hf hn1 hb1 hs1 hb2 hs2 hn2 hn1' sc1 sc2 sc12 hn3 hk3 hbel b1 b2 f0 f1 f2 k4 k5 hc2 hzD;go_enter Tryz.func46,Tryz.ntmps46;go_wp2_with fail
 go_fit HA.out;rintro e w1 ⟨rfl,rfl⟩;go_wp2_with fail
 go_loopw [14] (fun s14 wr=>∃b:Nat,s14= .int .i64 (b:Int)∧b≤256∧Hid (StaI c w wr M nv mb (w.heap.size+1) w.heap.size (rowL q l xs b).1 (rowL q l xs b).2 rl)) (fun s14 _=>256-(intOf s14).toNat)
 case atStart=>exact⟨0,rfl,by decide,H0⟩
 case round=>
  clear H0;obtain⟨b,rfl,hb,HX⟩:=hrel;obtain⟨c',lv',us',x1,x2,x3,x4,x5,x6⟩:=HX.out;have hlen:=(HXF.out b).2;have hfew:=(HXF.out b).1;obtain⟨⟨b0,b1,b2⟩,f0,f1,f2⟩:=x2.box.cells;have hMr:=x2.box.lt;have i0:(0:Int)≤(b:Int):=by omega
  rcases (show b=256∨b<256 by omega) with hb2 | hb2
  ·have hbi:¬(b:Int)<256:=(by omega);have hbd:decide ((b:Int)<256)=false:=decide_eq_false hbi;subst hb2;have hl5:(celD (rowL q l xs 256).2 rl).length=257:=celD_len (by rw[hlen];exact Nat.le_refl _) _;have hld:=x3.range;obtain⟨hst,hn4,hk4⟩:=x4.store (ds:=celD (rowL q l xs 256).2 rl) zeroD_len hl5 celD_one;have HF:Hid (celD (rowL q l xs 256).2 rl=staD ((rowL q l xs 256).2,rl)∧∃c' lv' us',StepC (fun a=>a=1) c c' w (wr.setRow w.heap.size (celD (rowL q l xs 256).2 rl).toArray)∧MkC c' (wr.setRow w.heap.size (celD (rowL q l xs 256).2 rl).toArray) M nv (rowL q l xs 256).1 lv' mb us'):=qh (by
    have s4:StepC (fun a=>a=1∨a=3) c' c' wr (wr.setRow w.heap.size (celD (rowL q l xs 256).2 rl).toArray):=⟨hk4.mono fun k _ hk e=>hk (by rw[e];exact .inr x6),fun _ _=>rfl,fun k hk=>x2.fresh k (Nat.le_trans hk4.size hk)⟩;refine⟨celD_full hlen rl,c',lv',us',((x1.mono fun a e=> .inl e).trans s4).narrow hc0,?_⟩;exact x2.step (S:=fun a=>a=3) ⟨hk4.mono fun k _ hk e=>hk (by rw[e];exact x6),fun _ _=>rfl,fun k hk=>x2.fresh k (Nat.le_trans hk4.size hk)⟩ (by decide) (by decide))
   obtain⟨W5,hW5⟩:∃W,wr.setRow w.heap.size (celD (rowL q l xs 256).2 rl).toArray=W:=⟨_,rfl⟩;obtain⟨ce,hce⟩:∃ce,celD (rowL q l xs 256).2 rl=ce:=⟨_,rfl⟩;rw[hW5] at hst hn4 HF;rw[hce] at hld hst hn4 HF hl5;unfold BlkD at hn4;clear x1 x2 x3 x4 x5 x6 HX hk4 hW5 hce;have hsz:(Tryz.prog.info? 92).map (·.size)=some ce.length:=(by rw[hl5];exact Tryz.sizeStD);go_wp2_with (refine wpList_load_mid rfl 92 _ rfl (w.heap.size+1) 0 rfl ce _ hld Tryz.underlying92 rfl hsz ?_)
   (try simp only[Exit.inBlock,Exit.then]);refine bodyPost_ret (results_cell_row rfl _ _ w.heap.size 92 ce.toArray (0,0) _ rfl hn4 Tryz.underlying92 rfl (by rw[List.size_toArray,hl5];exact Tryz.sizeStD)) rfl ?_;exact⟨by rw[HF.out.1],HF.out.2⟩
  ·have hbi:(b:Int)<256:=(by omega);have hbd:decide ((b:Int)<256)=true:=decide_eq_true hbi;have hw8:IntKind.u8.wrap (b:Int)=(b:Int):=(by apply IntWalk.u8_in<;>omega);obtain⟨hf1,hf2⟩:=HFW.out c' wr x1;have hlr:=HL.out.step x1 (by decide);have HST:=qh (nstep_new (q:=q) (l:=l) (.inr ⟨_,hf1⟩) hsq (cel_ints hlr (by omega)) hll b hb2);have HXX:=qh (And.intro x1 (And.intro x2 (And.intro x3 (And.intro x4 (And.intro x5 x6)))));have HPW:=qh hf2;obtain⟨xb,hxb⟩:∃xb,(rowL q l xs b).1=xb:=⟨_,rfl⟩;obtain⟨rb,hrb⟩:∃rb,(rowL q l xs b).2=rb:=⟨_,rfl⟩;have HRN:Hid ((rowL q l xs (b+1)).1=numX xb (stepP q b l)∧(rowL q l xs (b+1)).2=rb++ [numR xb (stepP q b l)]):=qh (by
    rw[←hxb,←hrb];show (oneX _ _ _ _ _ _).1=_∧(oneX _ _ _ _ _ _).2=_;rw[one_num];exact⟨rfl,rfl⟩)
   rw[hxb,hrb] at HXX;rw[hxb] at hfew;rw[hrb] at hlen;have HNB:=qh (HNS.out b);have HXB:Hid (∀y,y∈xb→NonN y):=qh (by rw[←hxb];exact HXN.out b);have hlf:=hfew;clear x1 x2 x3 x4 x5 x6 HX hf1 hf2 hlr hxb hrb;go_wp2_with fail
   go_fit HST.out;rintro e w2 ⟨r,rfl,hr1,hr2⟩;obtain⟨x1,x2,x3,x4,x5,x6⟩:=HXX.out;have y2:=x2.under hr2;have hcel:CelC c' w2 r (numC (stepP q b l)):=by
    have:=hr1.1;rw[show (stepP q b l).length=(numC (stepP q b l)).length from (numC_len _).symm] at this;exact this.mono fun k _ hk=>x2.fresh k hk
   have HNU:=qh (pnum_any y2 (HPW.out.below hr2) hcel HNB.out.2 HNB.out.1 HXB.out (by omega));have HBB:=qh (And.intro (StepC.below (S:=fun a=>a=1) x2.fresh hr2) hr2);clear hr1 hr2 x1 x2 x3 x4 x5 x6 y2 hcel;go_wp2_with fail
   go_fit HNU.out;rintro e w3 ⟨rfl,c3,lv3,us3,z1,z2⟩;obtain⟨x1,x2,x3,x4,x5,x6⟩:=HXX.out;have hlt5:=x3.lt;have hlt4:=x4.lt;have sB:=HBB.out.1.trans z1;have y3:BlkD w3 (w.heap.size+1) (celD rb rl):=x3.keep sB.keep (by rw[x5];decide);have y4:BlkD w3 w.heap.size zeroD:=x4.keep sB.keep (by rw[x6];decide);have y5:c3 (w.heap.size+1)=3:=(by rw[sB.same _ hlt5];exact x5);have y6:c3 w.heap.size=3:=(by rw[sB.same _ hlt4];exact x6);obtain⟨nr,hnr⟩:∃nr,numR xb (stepP q b l)=nr:=⟨_,rfl⟩;have hst:=y3.set b (.int .i64 nr);have hlr2:(celD rb rl).set b (.int .i64 nr)=celD (rb++ [nr]) rl:=by
    have:=celD_set (row:=rb) (by omega) rl nr
    rwa [hlen] at this
   rw[hlr2] at hst;have hfz:=y3.frozen b;have hlt:=y3.lt;have hcl5:(celD rb rl).length=257:=celD_len (by omega) rl;have hcc:∃y,w3.cell? ⟨w.heap.size+1,b,none⟩=some y:=⟨_,y3.cell (List.getElem?_eq_getElem (by omega))⟩;obtain⟨yc,hyc⟩:=hcc;have H9:Hid (StaI c w (w3.setCell ⟨w.heap.size+1,b,none⟩ (.int .i64 nr)) M nv mb (w.heap.size+1) w.heap.size (numX xb (stepP q b l)) (rb++ [nr]) rl):=qh (by
    have sS:=stepc_set (B:=w.heap.size+1) (i:=b) (y:= .int .i64 nr) z2.fresh;rw[y5] at sS;refine⟨c3,lv3,us3,(((x1.trans sB).mono fun a e=> .inl e).trans (sS.mono fun a e=> .inr e)).narrow hc0,z2.step sS (by decide) (by decide),hst,y4.keep (keep_set (ok:=fun k=>k≠w.heap.size+1) _ b none _ w3 fun h=>h rfl) (by omega),y5,y6⟩)
   rw[hnr] at HRN;(try rw[hnr]);clear z1 z2 x1 x2 x3 x4 x5 x6 sB y3 y4 y5 y6 hst hlr2 hnr HNU HST HXX HBB hlt5 hlt4;go_wp2_with fail
   go_roundw
   case rel=>exact⟨b+1,by go_num,hb2,by rw[HRN.out.1,HRN.out.2];exact H9⟩
   case measure=>simp[intOf]<;>omega
end
end Go.Proofs.YtjeomlickkpebaaGreatDoor
