/-
  Texts of this proof, one behind the other; each begins with its own remark.
-/
import Derived.Test.YtjeomlickkpebaaGreatDoorBe34
import Derived.Test.YtjeomlickkpebaaGreatDoorBe24
import Derived.Test.YtjeomlickkpebaaGreatDoorBe16
import Derived.Test.YtjeomlickkpebaaGreatDoorBe2
import Derived.Test.YtjeomlickkpebaaGreatDoorBe32
import Derived.Test.YtjeomlickkpebaaGreatDoorBe36
import Derived.Test.YtjeomlickkpebaaGreatDoorBe17
namespace Go.Proofs.YtjeomlickkpebaaGreatDoor
open Go.RowKit
def updK (bk:Nat→Nat→List Nat) (z b:Nat) (l:List Nat):Nat→Nat→List Nat:=fun z' b'=>if z'=z∧b'=b then l else bk z' b'
def colK (z b:Nat):Nat:=10+(z*256+b)
theorem colK_ne {z b z' b':Nat} (hb:b<256) (hb':b'<256) (h:¬(z'=z∧b'=b)):colK z' b'≠colK z b:=by
 unfold colK;omega
structure BkC (c:Col) (w:World) (G N:Nat) (bk:Nat→Nat→List Nat):Prop where
 col:c G=4
 cel:∃(cur:Array Value) (T:TypeId),w.heap[G]? =some (.cells cur T (0,0))∧∀z b,z<N→b<256→∃u,cur[z*256+b]? =some u∧RowC c (colK z b) 3 w u (numC (natL (bk z b)))
section
variable {Q:Nat→Prop} {c c':Col} {w w':World} {G N z b:Nat} {bk bk':Nat→Nat→List Nat} {v:Value} {l:List Nat}
theorem BkC.lt (h:BkC c w G N bk):G<w.heap.size:=by
 obtain⟨cur,T,h1,_⟩:=h.cel;exact (Array.getElem?_eq_some_iff.1 h1).1
theorem BkC.frozen (h:BkC c w G N bk) (i:Nat):w.frozen? ⟨G,i,none⟩=false:=by
 obtain⟨cur,T,h1,_⟩:=h.cel;exact frozen_of_row w G i cur _ h1
theorem BkC.at_ (h:BkC c w G N bk) (hz:z<N) (hb:b<256):∃u,w.cell? ⟨G,z*256+b,none⟩=some u∧RowC c (colK z b) 3 w u (numC (natL (bk z b))):=by
 obtain⟨cur,T,h1,h2⟩:=h.cel;obtain⟨u,h3,h4⟩:=h2 z b hz hb;exact⟨u,by rw[cell_of_row w G _ cur _ (0,0) h1];exact h3,h4⟩
theorem BkC.congr (h:BkC c w G N bk) (he:∀z b,z<N→b<256→bk z b=bk' z b):BkC c w G N bk':=by
 obtain⟨cur,T,h1,h2⟩:=h.cel;refine⟨h.col,cur,T,h1,fun z b hz hb=> ?_⟩;obtain⟨u,h3,h4⟩:=h2 z b hz hb;exact⟨u,h3,by rw[←he z b hz hb];exact h4⟩
theorem BkC.step (h:BkC c w G N bk) (hs:StepC Q c c' w w') (h4:¬Q 4) (hK:∀z b,¬Q (colK z b)):BkC c' w' G N bk:=by
 have hl:=h.lt;obtain⟨cur,T,h1,h2⟩:=h.cel;refine⟨by rw[hs.same G hl];exact h.col,cur,T,(hs.keep.same G hl (by rw[h.col];exact h4)).trans h1,fun z b hz hb=> ?_⟩;obtain⟨u,h5,h6⟩:=h2 z b hz hb;exact⟨u,h5,h6.step hs (hK z b)⟩
theorem BkC.put (hf:Fresh0 c w) (h:BkC c w G N bk) (hb:b<256) (hv:RowC c (colK z b) 3 w v (numC (natL l))):
  StepC (fun a=>a=4) c c w (w.setCell ⟨G,z*256+b,none⟩ v)∧BkC c (w.setCell ⟨G,z*256+b,none⟩ v) G N (updK bk z b l):=by
 have hs:StepC (fun a=>a=4) c c w (w.setCell ⟨G,z*256+b,none⟩ v):=by
  have:=stepc_set (B:=G) (i:=z*256+b) (y:=v) hf
  rwa [h.col] at this
 have hk:∀z b,¬colK z b=4:=fun z b=>by unfold colK;omega
 refine⟨hs,h.col,?_⟩;obtain⟨cur,T,h1,h2⟩:=h.cel;refine⟨cur.setIfInBounds (z*256+b) v,T,heap_setCell_same w G _ cur _ _ h1,fun z' b' hz' hb'=> ?_⟩;obtain⟨u,h5,h6⟩:=h2 z' b' hz' hb';have hlt:=(Array.getElem?_eq_some_iff.1 h5).1;unfold updK;rw[Array.getElem?_setIfInBounds];by_cases e:z'=z∧b'=b
 ·obtain⟨rfl,rfl⟩:=e;rw[if_pos rfl,if_pos hlt,if_pos ⟨rfl,rfl⟩];exact⟨v,rfl,hv.step hs (hk _ _)⟩
 ·rw[if_neg (fun q=>e (by omega)),if_neg e];exact⟨u,h5,h6.step hs (hk _ _)⟩
theorem BkC.one (hf:Fresh0 c w) (h:BkC c w G N bk) (hb:b<256) (x:Nat):
  ∃c',StepC (fun a=>a=4) c c' w ((w.alloc (.cells #[.int .i64 (x:Int)] 3)).setCell ⟨G,z*256+b,none⟩ (.slice (some ⟨w.heap.size,0,none⟩) 1 1))∧BkC c' ((w.alloc (.cells #[.int .i64 (x:Int)] 3)).setCell ⟨G,z*256+b,none⟩ (.slice (some ⟨w.heap.size,0,none⟩) 1 1)) G N (updK bk z b [x]):=by
 have s1:StepC (fun a=>a=4) c (colAt c (colK z b) w.heap.size) w (w.alloc (.cells #[.int .i64 (x:Int)] 3)):=StepC.colAt hf _;have s0:StepC (fun _=>False) c (colAt c (colK z b) w.heap.size) w (w.alloc (.cells #[.int .i64 (x:Int)] 3)):=StepC.colAt hf _;have h1:=h.step s0 (fun e=>e) (fun _ _ e=>e);obtain⟨s2,h2⟩:=h1.put (z:=z) (b:=b) (l:= [x]) s1.fresh hb (RowC.one (c:=c) (w:=w) (A:=colK z b) (T:=3) (u:= .int .i64 (x:Int)));exact⟨_,s1.trans s2,h2⟩
theorem BkC.push (hf:Fresh0 c w) (h:BkC c w G N bk) (hz:z<N) (hb:b<256) (k:Nat) (hl:(bk z b).length≤100000):
  ∃ao0 cap0,w.cell? ⟨G,z*256+b,none⟩=some (.slice ao0 (bk z b).length cap0)∧∃ao cap w2,(Builtin.append_ #[39,39] 39 #[.slice ao0 (bk z b).length cap0,.slice (some ⟨w.heap.size,0,none⟩) 1 1]).run Tryz.prog (w.alloc (.cells #[.int .i64 (k:Int)] 3))= .ok (.slice ao ((bk z b).length+1) cap) w2 ∧
   w2.frozen? ⟨G,z*256+b,none⟩=false∧G<w2.heap.size∧w2.cell? ⟨G,z*256+b,none⟩=some (.slice ao0 (bk z b).length cap0) ∧
   ∃c',StepC (fun a=>4≤a∧a≠5) c c' w (w2.setCell ⟨G,z*256+b,none⟩ (.slice ao ((bk z b).length+1) cap))∧BkC c' (w2.setCell ⟨G,z*256+b,none⟩ (.slice ao ((bk z b).length+1) cap)) G N (updK bk z b (bk z b++ [k])):=by
 obtain⟨u,hu,hr⟩:=h.at_ hz hb;have hlen:(numC (natL (bk z b))).length=(bk z b).length:=by rw[numC_len,natL_len]
 obtain⟨ao0,cap0,rfl,_⟩:=hr.form;rw[hlen] at hu;obtain⟨ao,cap,w2,c2,h1,h2,h3⟩:=RowC.pushA (z:= .int .i64 0) (b:=8) (u:= .int .i64 (k:Int)) hf hr 39 39 Tryz.underlying39 Tryz.infoIntN rfl (by decide) rfl (by rw[hlen];exact hl);rw[hlen] at h1 h2;rw[←natL_snoc] at h2;have hG:=h.lt;obtain⟨cur,T,e1,e2⟩:=h.cel;have hG2:w2.heap[G]? =some (.cells cur T (0,0)):=(h3.keep.same G hG (by rw[h.col];unfold colK;omega)).trans e1;have cG2:c2 G=4:=by rw[h3.same G hG];exact h.col
 have hs2:StepC (fun a=>a=4) c2 c2 w2 (w2.setCell ⟨G,z*256+b,none⟩ (.slice ao ((bk z b).length+1) cap)):=by
  have:=stepc_set (B:=G) (i:=z*256+b) (y:= .slice ao ((bk z b).length+1) cap) h3.fresh
  rwa [cG2] at this
 have hk:∀z b,¬colK z b=4:=fun z b=>by unfold colK;omega
 obtain⟨u0,hu0,hr0⟩:=e2 z b hz hb;refine⟨ao0,cap0,hu,ao,cap,w2,h1,frozen_of_row w2 G _ cur _ hG2,(Array.getElem?_eq_some_iff.1 hG2).1,?_,c2,(h3.mono fun a e=>by subst e;unfold colK;omega).trans (hs2.mono fun a e=>by subst e;omega),cG2,cur.setIfInBounds (z*256+b) (.slice ao ((bk z b).length+1) cap),T,heap_setCell_same w2 G _ cur _ _ hG2,fun z' b' hz' hb'=> ?_⟩
 ·rw[cell_of_row w2 G _ cur _ (0,0) hG2];rw[cell_of_row w G _ cur _ (0,0) e1] at hu;exact hu
 obtain⟨u,h5,h6⟩:=e2 z' b' hz' hb';have hlt:=(Array.getElem?_eq_some_iff.1 h5).1;unfold updK;rw[Array.getElem?_setIfInBounds];by_cases e:z'=z∧b'=b
 ·obtain⟨rfl,rfl⟩:=e;rw[if_pos rfl,if_pos hlt,if_pos ⟨rfl,rfl⟩];exact⟨_,rfl,h2.step hs2 (hk _ _)⟩
 ·rw[if_neg (fun q=>e (by omega)),if_neg e];exact⟨u,h5,(h6.step h3 (colK_ne hb hb' e)).step hs2 (hk _ _)⟩
theorem BkC.done (h:BkC c w G N bk):BackW (fun _=>0) w G N bk:=by
 refine⟨rfl,h.lt,fun z b hz hb=> ?_⟩;obtain⟨u,h1,h2⟩:=h.at_ hz hb;exact⟨u,h1,h2.rowZ.mono fun _ _ _=>rfl⟩
end
def zeroW:List Value:=List.replicate 256 (.slice none 0 0)
theorem Tryz.infoWays:(Tryz.prog.info? 127).map (fun i=>(i.zero,i.size,i.bytes))=some (some (.agg zeroW.toArray),256,6144):=by kernel_rfl
end Go.Proofs.YtjeomlickkpebaaGreatDoor
namespace Go.Proofs.YtjeomlickkpebaaGreatDoor
open Go.RowKit
section
variable {c:Col} {w:World} {M mb:Nat} {nv lv v:Value} {xs:List (List Int)} {us:List Value} {l:List Int}
def NumO (c:Col) (w w':World) (M:Nat) (nv:Value) (xs:List (List Int)) (mb:Nat) (l:List Int) (e:Ending):Prop:=
 e= .returned (.int .i64 (numR xs l))∧∃c' lv' us',StepC (fun a=>a=1) c c' w w'∧MkC c' w' M nv (numX xs l) lv' mb us'
set_option maxRecDepth 8000 in
set_option maxHeartbeats 4000000 in
theorem pnum_any (h:MkC c w M nv xs lv mb us) (hp:PowW w) (hl:CelC c w v (numC l)) (hll:l.length≤100000) (hn:NonN l) (hx:∀x,x∈xs→NonN x) (hxs:xs.length≤100000):
  Calls Tryz.prog 45 #[.pointer (some ⟨M,0,none⟩),v] w fun e w'=>NumO c w w' M nv xs mb l e:=by
 have hI:=cel_ints hl (by omega);obtain⟨ao,cap,rfl,hcap⟩:=hI.form;by_cases h0:l= []
 ·have HF:Hid (NumO c w w M nv xs mb l (.returned (.int .i64 (-1)))):=qh (by
   subst h0;exact⟨rfl,c,lv,us,StepC.below h.fresh (Below.refl _ _),h⟩)
  have hz:l.length=0:=by rw[h0];rfl
  rw[hz];clear h hl hn hx hI h0 hz hcap;go_enter Tryz.func45,Tryz.ntmps45;go_wp2_with fail
  go_ret
  exact HF.out
 have hpos:0<l.length:=List.length_pos_iff.2 h0;have hnil:nilL l=false:=by
  unfold nilL;cases l with
  | nil=>exact absurd rfl h0
  | cons a l=>rfl
 have HT:=qh (ptext_any hI hp hn hll);have HM:=qh h;have hidx:=idx_find hx hn (j:=0);have hlow:=findX_low (same:=sameL) (y:=l) xs 0;have hb3:=h.box.lt;obtain⟨lo,lc,hlv,hlc⟩:=h.row.form;obtain⟨n,hnl⟩:∃n,l.length=n:=⟨_,rfl⟩;obtain⟨k,hk⟩:∃k,findX sameL xs l 0=k:=⟨_,rfl⟩;rw[hk] at hidx hlow;by_cases hf:k<0
 ·rw[if_pos hf] at hidx;have HF:Hid (numR xs l=(xs.length:Int)∧numX xs l=xs++ [l]):=qh (by
   unfold numR numX;rw[hk,if_neg (by rw[hnil];decide),if_pos hf,if_neg (by rw[hnil];decide),if_pos hf];exact⟨rfl,rfl⟩)
  have HP:=qh (fun (W:World) (hb:Below w.heap.size w W)=>(h.under hb).push (hl.step (S:=fun _=>False) (StepC.below h.fresh hb) (fun e=>e)) (by omega) hidx (by rw[h.el.1];exact hxs) rfl);have HL:=qh (fun (W:World) (hb:Below w.heap.size w W)=>mapT_no (h.under hb).map hidx);have HC:=qh (fun (W:World) (hb:Below w.heap.size w W)=>(h.under hb).box);have HS:=qh (fun (W:World) (hb:Below w.heap.size w W)=>StepC.below (S:=fun a=>a=1) h.fresh hb);have hel:=h.el.1;obtain⟨s,hs⟩:∃s,txK l=s:=⟨_,rfl⟩;obtain⟨m,hm⟩:∃m,xs.length=m:=⟨_,rfl⟩;have e1:(⟨(txtI l).toArray⟩:ByteArray)=s:=hs;rw[hs] at HL HP;rw[e1] at HT;rw[hel,hm] at HP hlc hlv;rw[hm] at HF;rw[hnl] at hpos hcap HT HP ⊢;have hmm:(m:Int)≤100000:=by omega
  have hni:((n:Int)==0)=false:=beq_eq_false_iff_ne.2 (by omega);clear h hl hn hx hI h0 hidx hk hnil hel hs hm e1 hnl hp;subst hlv;go_enter Tryz.func45,Tryz.ntmps45;go_wp2_with fail
  go_fit HT.out;rintro e w1 ⟨rfl,hb1⟩;have hL:=HL.out w1 hb1;have HB:=qh hb1;obtain⟨⟨b0,b1,b2⟩,f0,f1,f2⟩:=(HC.out w1 hb1).cells;have hM1:=(HC.out w1 hb1).lt;clear hb1;obtain⟨w2,hr2,d1,d2,d3,ao2,cap2,w3,hr3,g1,g2,g3,c',hs3,hM3⟩:=HP.out w1 HB.out;have H3:=qh (And.intro hs3 hM3);clear hs3 hM3;go_wp2_with (at_builtin;refine napp_list (by rfl) _ _ 38 (by rfl) (by rfl) (by rfl) hr3 ?_)
  go_ret
  exact⟨by rw[HF.out.1];rfl,c',_,_,(HS.out w1 HB.out).trans H3.out.1,by rw[HF.out.2];exact H3.out.2⟩
 ·rw[if_neg hf] at hidx;have HF:Hid (numR xs l=k∧numX xs l=xs):=qh (by
   unfold numR numX;rw[hk,if_neg (by rw[hnil];decide),if_neg hf,if_neg (by rw[hnil];decide),if_neg hf];exact⟨rfl,rfl⟩)
  have hkn:((k.toNat:Nat):Int)=k:=by omega
  have HL:=qh (fun (W:World) (hb:Below w.heap.size w W)=>by
   have:=mapT_yes (h.under hb).map hidx
   rwa [hkn] at this)
  have HC:=qh (fun (W:World) (hb:Below w.heap.size w W)=>(h.under hb).box);have HS:=qh (fun (W:World) (hb:Below w.heap.size w W)=>(⟨StepC.below (S:=fun a=>a=1) h.fresh hb,h.under hb⟩:StepC (fun a=>a=1) c c w W∧MkC c W M nv xs lv mb us));obtain⟨s,hs⟩:∃s,txK l=s:=⟨_,rfl⟩;have e1:(⟨(txtI l).toArray⟩:ByteArray)=s:=hs;rw[hs] at HL;rw[e1] at HT;rw[hnl] at hpos hcap HT ⊢;have hni:((n:Int)==0)=false:=beq_eq_false_iff_ne.2 (by omega);clear h hl hn hx hI h0 hidx hk hnil hs e1 hnl hp hkn hlc HM;subst hlv;go_enter Tryz.func45,Tryz.ntmps45;go_wp2_with fail
  go_fit HT.out;rintro e w1 ⟨rfl,hb1⟩;have hL:=HL.out w1 hb1;have HB:=qh hb1;obtain⟨⟨b0,b1,b2⟩,f0,f1,f2⟩:=(HC.out w1 hb1).cells;clear hb1;go_wp2_with fail
  go_ret
  exact⟨by rw[HF.out.1];rfl,c,_,us,(HS.out w1 HB.out).1,by rw[HF.out.2];exact (HS.out w1 HB.out).2⟩
end
end Go.Proofs.YtjeomlickkpebaaGreatDoor
namespace Go.Proofs.YtjeomlickkpebaaGreatDoor
theorem by_rest (s:ByteArray) (i:Nat):ByL (restR s i):=fun b hb=>rest_lt s i b hb
theorem says_tab {L:List ByteArray} {k:Nat} (h:(goL L k).1.length=k):∀w,(tabL L k).says 0 w=sayR (nodesP L) w:=(tabL_says h).2
theorem mda_facts (L:List ByteArray) {d:Dfa} (hd:OkD d) (hs:∀w,d.says 0 w=sayR (nodesP L) w) (s:ByteArray) (a:Int):
  ∃x y st:Int,matchDA d s a=(x,y,st)∧matchGA (rsE L) s a=(x,y)∧0≤x∧x≤st∧(0≤a→a≤(s.size:Int)→st≤(s.size:Int)-a) ∧
   ((a<0∨(s.size:Int)<a)∧st=0∨0≤a∧a≤(s.size:Int)∧∃k:Nat,st=k∧FarI (fun u=>0≤d.run 0 u) (restR s a.toNat) k):=by
 unfold matchDA matchGA;by_cases h:a<0∨(s.size:Int)<a
 ·rw[if_pos h,if_pos h];exact⟨0,-1,0,rfl,rfl,Int.le_refl _,Int.le_refl _,fun h1 h2=>by omega,.inl ⟨h,rfl⟩⟩
 ·rw[if_neg h,if_neg h];obtain⟨h1,k,h2,h3,h4,h5⟩:=table_match (nodes_good L) hd hs (restR s a.toNat) (by_rest s _);generalize matchD d (restR s a.toNat)=R at h1 h2 h3 h4 ⊢;obtain⟨x,y,st⟩:=R;dsimp only at h1 h2 h3 h4;refine⟨x,y,st,rfl,h1.symm,h4,by rw[h2];exact h3,fun _ _=> ?_,.inr ⟨by omega,by omega,k,h2,h5⟩⟩;have:=h5.le;rw[rest_len] at this;omega
theorem mda_least (L:List ByteArray) {d m:Dfa} (hd:OkD d) (hs:∀w,d.says 0 w=sayR (nodesP L) w) (hm:IsMin (d.says 0) m) (s:ByteArray) (a:Int):
  ∃x y c z:Int,matchDA d s a=(x,y,c)∧matchDA m s a=(x,y,z)∧matchGA (rsE L) s a=(x,y)∧0≤x∧x≤z∧z≤c:=by
 obtain⟨x,y,c,e1,e2,h0,_,_,hc⟩:=mda_facts L hd hs s a;obtain⟨x2,y2,z,f1,f2,_,h3,_,hz⟩:=mda_facts L hm.ok (fun w=>(hm.says w).trans (hs w)) s a;rw[e2] at f2;cases f2;refine⟨x,y,c,z,e1,f1,e2,h0,h3,?_⟩;rcases hz with ⟨g1,rfl⟩ | ⟨g1,g2,k,rfl,hk⟩
 ·rcases hc with ⟨_,rfl⟩ | ⟨q1,q2,_⟩
  ·exact Int.le_refl _
  ·omega
 ·rcases hc with ⟨q1,_⟩ | ⟨_,_,j,rfl,hj⟩
  ·omega
  ·have:=min_steps hm (fun _=>rfl) hk hj;omega
theorem mda_far (L:List ByteArray) {d m:Dfa} (hs:∀w,d.says 0 w=sayR (nodesP L) w) (hm:IsMin (d.says 0) m) (hf:∀n,n∈nodesP L→FullN (ruleN n)) (s:ByteArray) (a:Int):(matchDA m s a).2.2=farA (rsE L) s a:=by
 have hm2:IsMin (sayR (nodesP L)) m:=hm.conv hs;obtain⟨x2,y2,z,f1,f2,_,h3,_,hz⟩:=mda_facts L hm.ok (fun w=>(hm.says w).trans (hs w)) s a;rw[f1];unfold farA;rcases hz with ⟨g1,rfl⟩ | ⟨g1,g2,k,rfl,hk⟩
 ·rw[if_pos g1]
 ·rw[if_neg (by omega)];obtain⟨j,hj,hj2⟩:=fars_far (rsE L) (restR s a.toNat);rw[hj,min_far (nodes_good L) hf hm2 (by_rest s _) hk hj2]
end Go.Proofs.YtjeomlickkpebaaGreatDoor
