/-
  Texts of this proof, one behind the other; each begins with its own remark.
-/
import Derived.Test.YtjeomlickkpebaaGreatDoorBe17
import Derived.Test.YtjeomlickkpebaaGreatDoorBe31
import Derived.Test.YtjeomlickkpebaaGreatDoorBe33
import Derived.Test.YtjeomlickkpebaaGreatDoorBe34
set_option maxHeartbeats 8000000
namespace Go.Proofs.YtjeomlickkpebaaGreatDoor
open Go.RowKit
abbrev eA35_0:Array Edge:=#[⟨3,.data⟩]
abbrev XK:Array Edge:=#[⟨5,.data⟩]
abbrev XL:Array Edge:=#[⟨4,.data⟩,⟨6,.data⟩]
abbrev XM:Array Edge:=#[⟨0,.data⟩,⟨0,.phase⟩,⟨1,.phase⟩,⟨2,.phase⟩,⟨3,.phase⟩,⟨4,.phase⟩,⟨5,.phase⟩,⟨6,.phase⟩,⟨7,.phase⟩]
abbrev XN:Array Edge:=#[⟨8,.data⟩,⟨0,.phase⟩,⟨1,.phase⟩,⟨2,.phase⟩,⟨3,.phase⟩,⟨4,.phase⟩,⟨5,.phase⟩,⟨6,.phase⟩,⟨7,.phase⟩]
abbrev XO:Array Edge:=#[⟨9,.data⟩,⟨7,.data⟩,⟨7,.chain⟩,⟨0,.phase⟩,⟨1,.phase⟩,⟨2,.phase⟩,⟨3,.phase⟩,⟨4,.phase⟩,⟨5,.phase⟩,⟨6,.phase⟩,⟨7,.phase⟩]
theorem Tryz.infoIntsL:(Tryz.prog.info? 39).map (fun i=>(i.zero,i.size,i.bytes))=some (some (.slice none 0 0),1,24):=by kernel_rfl
def txK (l:List Int):ByteArray:=⟨(yW l).toArray⟩
def KH (l:List Int):Prop:=∀a,a∈l→0≤a∧a≤1000000
theorem zH1 {l m:List Int} (hl:KH l) (hm:KH m) (h:txK l=txK m):l=m:=by
 unfold txK at h;injection h with h
 exact txt_inj (fun a ha=>(hl a ha).1) (fun a ha=>(hm a ha).1) (by simpa using h)
def zEI (xs:List (List Int)) (l:List Int):Int:=if Z5 l=true then -1 else if xH xg xs l 0<0 then (xs.length:Int) else xH xg xs l 0
def QS (xs:List (List Int)) (l:List Int):List (List Int):=if Z5 l=true then xs else if xH xg xs l 0<0 then xs++ [l] else xs
theorem QD (step:List Int→Nat→List Int) (x:List Int) (s:List (List Int)×List Int) (b:Nat):kT step Z5 xg x s b=(QS s.1 (step x b),s.2++ [zEI s.1 (step x b)]):=by
 unfold kT QS zEI;split
 ·rfl
 ·split<;>rfl
theorem zEJ {xs:List (List Int)} {l:List Int} (hx:∀x,x∈xs→KH x) (hl:KH l):∀j:Nat,Vk (xs.map txK) (txK l) j=if xH xg xs l j<0 then none else some (xH xg xs l j).toNat:=by
 induction xs with
 | nil=>intro j;rfl
 | cons x xs ih=>
  intro j;rw[List.map_cons,Vk,xH];by_cases c:txK l=txK x
  ·have:=zH1 hl (hx x (by simp)) c;subst this;rw[if_pos rfl,if_pos (show xg l l=true from decide_eq_true rfl),if_neg (by omega),Int.toNat_natCast]
  ·have hs:¬xg x l=true:=fun e=>c (by rw[of_decide_eq_true e]);rw[if_neg c];simp only[if_neg hs];exact ih (fun y hy=>hx y (by simp[hy])) (j+1)
def vG (c:Col) (w:World) (us:List Value) (xs:List (List Int)):Prop:=us.length=xs.length∧∀(i:Nat) u l,us[i]? =some u→xs[i]? =some l→yO c w u (xK l)∧l.length≤1000000
structure MkC (c:Col) (w:World) (M:Nat) (nv:Value) (xs:List (List Int)) (lv:Value) (mb:Nat) (us:List Value):Prop where
 box:box3 103 w M nv lv (.map (some mb))
 cM:c M=1
 row:RowC c 1 39 w lv us
 map:Jd w mb (xs.map txK)
 cmb:c mb=1
 ne1:mb≠M
 ne2:lv.ownBlock≠some M
 ne3:lv.ownBlock≠some mb
 el:vG c w us xs
 fresh:xA c w
section
variable {S:Nat→Prop} {c c':Col} {w w':World} {M mb:Nat} {nv lv v:Value} {xs:List (List Int)} {us:List Value} {l:List Int}
theorem QE (h:yO c w v (xK l)) (hl:l.length≤1000000):jG w v l:=⟨by have:=h.read;rwa [zP] at this,hl⟩
theorem vG.step (h:vG c w us xs) (hs:StepC S c c' w w') (h0:¬S 0):vG c' w' us xs:=⟨h.1,fun i u l hu hl=>⟨(h.2 i u l hu hl).1.step hs h0,(h.2 i u l hu hl).2⟩⟩
theorem vG.snoc {u:Value} (h:vG c w us xs) (hu:yO c w u (xK l)) (hl:l.length≤1000000):vG c w (us++ [u]) (xs++ [l]):=by
 refine⟨by rw[List.length_append,List.length_append,h.1];rfl,fun i u' l' h1 h2=> ?_⟩;by_cases k:i<us.length
 ·rw[List.getElem?_append_left k] at h1;rw[List.getElem?_append_left (by rw[←h.1];exact k)] at h2;exact h.2 i u' l' h1 h2
 ·have hk:=(List.getElem?_eq_some_iff.1 h1).1;rw[List.length_append] at hk;have e:i=us.length:=by simp at hk;omega
  rw[e,List.getElem?_append_right (Nat.le_refl _),Nat.sub_self] at h1;rw[e,h.1,List.getElem?_append_right (Nat.le_refl _),Nat.sub_self] at h2;cases h1;cases h2;exact⟨hu,hl⟩
theorem MkC.step (h:MkC c w M nv xs lv mb us) (hs:StepC S c c' w w') (h0:¬S 0) (h1:¬S 1):MkC c' w' M nv xs lv mb us:=
 ⟨h.box.keep hs.keep (by rw[h.cM];exact h1),by rw[hs.same _ h.box.lt];exact h.cM,h.row.step hs h1,h.map.keep hs.keep (by rw[h.cmb];exact h1),by rw[hs.same _ h.map.lt];exact h.cmb,h.ne1,h.ne2,h.ne3,h.el.step hs h0,hs.fresh⟩
theorem MkC.under (h:MkC c w M nv xs lv mb us) (hb:Below w.heap.size w w'):MkC c w' M nv xs lv mb us:=h.step (S:=fun _=>False) (StepC.below h.fresh hb) (fun e=>e) (fun e=>e)
theorem zd {B i:Nat} {y:Value} (hf:xA c w):StepC (fun a=>a=c B) c c w (w.setCell ⟨B,i,none⟩ y):=
 ⟨zE B i none y w fun e=>e rfl,fun _ _=>rfl,fun k hk=>hf k (by
  have:(w.setCell ⟨B,i,none⟩ y).heap.size=w.heap.size:=by show (w.heap.modify _ _).size=_;rw[Array.size_modify]
  rw[this] at hk;exact hk)⟩
theorem MkC.push (h:MkC c w M nv xs lv mb us) (hl:yO c w v (xK l)) (hll:l.length≤1000000) (hno:Vk (xs.map txK) (txK l) 0=none) (hx:us.length≤100000) (hv1:v.oneCell'=true):
  ∃w1,(Instr.mapUpdate 101 (.map (some mb)) (.string (txK l)) (.int .i64 (xs.length:Int))).run Tryz.prog w= .ok () w1∧w1.cell? ⟨M,1,none⟩=some lv∧M<w1.heap.size∧w1.frozen? ⟨M,1,none⟩=false ∧
   ∃ao cap w2,(Builtin.append_ #[38,38] 38 #[lv,.slice (some ⟨w1.heap.size,0,none⟩) 1 1]).run Tryz.prog (w1.alloc (.cells #[v] 39))= .ok (.slice ao (us.length+1) cap) w2∧M<w2.heap.size∧w2.frozen? ⟨M,1,none⟩=false∧w2.cell? ⟨M,1,none⟩=some lv ∧
   ∃c',StepC (fun a=>a=1) c c' w (w2.setCell ⟨M,1,none⟩ (.slice ao (us.length+1) cap))∧MkC c' (w2.setCell ⟨M,1,none⟩ (.slice ao (us.length+1) cap)) M nv (xs++ [l]) (.slice ao (us.length+1) cap) mb (us++ [v]):=by
 obtain⟨w1,hr1,hm1,hk1⟩:=zDH h.map hno (xs.length:Int) (by rw[List.length_map]);have hM:=h.box.lt;have hsz:=hk1.size;have hs1:StepC (fun a=>a=1) c c w w1:=⟨hk1.mono fun k _ hk e=>hk (by rw[e];exact h.cmb),fun _ _=>rfl,fun k hk=>h.fresh k (by omega)⟩;have hb1:box3 103 w1 M nv lv (.map (some mb)):=h.box.keep hk1 (Ne.symm h.ne1);have hrow1:RowC c 1 39 w1 lv us:=⟨zF h.row.own hk1 fun k e ek=>h.ne3 (by rw[←ek];exact e),h.row.col⟩;have hc1:yO c w1 v (xK l):=hl.step (S:=fun a=>a=1) hs1 (by decide);have hel1:vG c w1 us xs:=h.el.step (S:=fun a=>a=1) hs1 (by decide);have hba:=zA w1 (.cells #[v] 39);have hsa:=zC w1 (.cells #[v] 39);have hf1:=hs1.fresh;have hsA:StepC (fun a=>a=1) c c w1 (w1.alloc (.cells #[v] 39)):=StepC.below hf1 hba;have hX:(w1.alloc (.cells #[v] 39)).cell? ⟨w1.heap.size,0,none⟩=some v:=by rw[cell_of_row _ _ _ _ _ (0,0) (heap_alloc_new w1 _)];rfl
 obtain⟨ao,cap,w2,c',hr2,hrow2,hs2⟩:=RowC.push (z:= .slice none 0 0) (b:=24) (X:=w1.heap.size) (u:=v) hsA.fresh (A:=1) (T:=39) (us:=us) (v:=lv) ⟨zF hrow1.own (keep_below (fun _=>True) hba) fun _ _=>trivial,hrow1.col⟩ 38 38 Tryz.underlying38 Tryz.infoIntsL rfl (by decide) hX hv1 hx;have hmA:Jd (w1.alloc (.cells #[v] 39)) mb ((xs++ [l]).map txK):=by
  rw[List.map_append];exact hm1.keep (keep_below (fun _=>True) hba) trivial
 have hbA:=hb1.under hba;have hMA:M<(w1.alloc (.cells #[v] 39)).heap.size:=by omega
 have hkeep2:KeepW (fun k=>lv.ownBlock≠some k) (w1.alloc (.cells #[v] 39)) w2:=by
  obtain⟨i0,hi1,hz0,hz1,hz2⟩:=xJ Tryz.infoIntsL;have hown:(w1.alloc (.cells #[v] 39)).ownsRow 0 39 1 lv us.length us:=zF hrow1.own (keep_below (fun _=>True) hba) fun _ _=>trivial;obtain⟨v',w',hr,_,hgr,_,_⟩:=run_append_own_at (P:=Tryz.prog) (w1.alloc (.cells #[v] 39)) 0 38 38 39 i0 (.slice none 0 0) 1 24 Tryz.underlying38 hi1 hz0 hz1 hz2 rfl (by decide) lv us.length us hown ⟨w1.heap.size,0,none⟩ 1 1 [v] rfl (fun j x hx=>by
   have hj:=(List.getElem?_eq_some_iff.1 hx).1;have:j=0:=(by simpa using hj);subst this;rw[Zr];simp at hx;rw[←hx];exact hX) (fun x hx=>by rw[List.mem_singleton.1 hx];exact hv1) (by unfold maxLen;omega) (by omega) (Nat.zero_le _)
  rw[hr] at hr2;injection hr2 with _ e
  rw[←e];exact⟨hgr.os,hgr.tape,hgr.output,hgr.size,fun k hk hne=>hgr.block k hk fun e=>hne e.symm⟩
 have hb2:box3 103 w2 M nv lv (.map (some mb)):=hbA.keep hkeep2 h.ne2;have hm2:Jd w2 mb ((xs++ [l]).map txK):=hmA.keep hkeep2 h.ne3;have hc2:yO c' w2 v (xK l):=(hc1.step hsA (by decide)).step hs2 (by decide);have hel2:vG c' w2 us xs:=(hel1.step hsA (by decide)).step hs2 (by decide);have hcM:c' M=1:=by rw[hs2.same M hMA];exact h.cM
 have hcmb:c' mb=1:=by rw[hs2.same mb hmA.lt];exact h.cmb
 have hset:=zd (B:=M) (i:=1) (y:= .slice ao (us.length+1) cap) hs2.fresh;rw[hcM] at hset;have hnM:(Value.slice ao (us.length+1) cap).ownBlock≠some M:=fun e=>by
  have hlt:=hrow2.lt M e;obtain⟨hl2,⟨hq,_⟩ | ⟨g,cp,cur,hq,_,hg,_⟩⟩:=hrow2.own
  ·rw[hq] at e;cases e
  ·rw[hq] at e;cases e;have:=hb2;unfold box3 at this;rw[hg] at this;injection this with this
   injection this with _ t1
   exact absurd t1 (by decide)
 have hnb:(Value.slice ao (us.length+1) cap).ownBlock≠some mb:=fun e=>by
  obtain⟨hl2,⟨hq,_⟩ | ⟨g,cp,cur,hq,_,hg,_⟩⟩:=hrow2.own
  ·rw[hq] at e;cases e
  ·rw[hq] at e;cases e;obtain⟨es,clock,hb,_⟩:=hm2;rw[hg] at hb;cases hb
 refine⟨w1,hr1,hb1.cells.1.2.1,by omega,hb1.cells.2.2.1,ao,cap,w2,hr2,hb2.lt,hb2.cells.2.2.1,hb2.cells.1.2.1,c',((hs1.trans hsA).trans hs2).trans hset,?_⟩;refine⟨hb2.set1 _,hcM,⟨zF hrow2.own (zE (ok:=fun k=>k≠M) M 1 none _ w2 fun h=>h rfl) fun k e ek=>hnM (by rw[←ek];exact e),hrow2.col⟩,hm2.keep (zE (ok:=fun k=>k≠M) M 1 none _ w2 fun h=>h rfl) h.ne1,hcmb,h.ne1,hnM,hnb,?_,hset.fresh⟩;exact (hel2.snoc hc2 hll).step (S:=fun a=>a=1) hset (by decide)
end
def blkZ (b:Blk):List Value:= [.int .i64 (b.1:Int),.int .i64 (b.2.1:Int),.int .i64 (b.2.2:Int)]
def yK:List Blk→List Value
 | []=> []
 | b::l=>blkZ b++yK l
theorem VN:∀l m,yK (l++m)=yK l++yK m
 | [],m=>rfl
 | b::l,m=>by rw[List.cons_append,yK,yK,VN l m,List.append_assoc]
theorem QF:∀(l:List Blk) (i:Nat) (b:Blk),l[i]? =some b→∀j,j<3→(yK l)[i*3+j]? =(blkZ b)[j]?
 | t::l,0,b,h,j,hj=>by
  cases h;rw[yK,Nat.zero_mul,Nat.zero_add,List.getElem?_append_left (by show j<3;exact hj)]
 | t::l,i+1,b,h,j,hj=>by
  rw[yK,List.getElem?_append_right (by show 3≤_;omega),show (i+1)*3+j-(blkZ t).length=i*3+j from by show (i+1)*3+j-3=_;omega];exact QF l i b h j hj
theorem VO:∀(l:List Blk) (x:Value),x∈yK l→x.oneCell'=true
 | b::l,x,h=>by
  rw[yK,List.mem_append] at h;rcases h with h | h
  ·simp only[blkZ,List.mem_cons,List.not_mem_nil,or_false] at h;rcases h with rfl | rfl | rfl<;>rfl
  ·exact VO l x h
theorem JY:∀(l:List Blk) (i:Nat) (f t m v:Nat),l[i]? =some (f,t,m)→(yK l).set (i*3) (.int .i64 (v:Int))=yK (l.set i (v,t,m))
 | b::l,0,f,t,m,v,h=>by cases h;rfl
 | b::l,i+1,f,t,m,v,h=>by
  rw[List.set_cons_succ,yK,yK,List.set_append_right _ _ (by show 3≤_;omega),show (i+1)*3-(blkZ b).length=i*3 from by show (i+1)*3-3=_;omega,JY l i f t m v h]
theorem jp:∀(l:List Blk) (i:Nat) (f t m v:Nat),l[i]? =some (f,t,m)→(yK l).set (i*3+1) (.int .i64 (v:Int))=yK (l.set i (f,v,m))
 | b::l,0,f,t,m,v,h=>by cases h;rfl
 | b::l,i+1,f,t,m,v,h=>by
  rw[List.set_cons_succ,yK,yK,List.set_append_right _ _ (by show 3≤_;omega),show (i+1)*3+1-(blkZ b).length=i*3+1 from by show (i+1)*3+1-3=_;omega,jp l i f t m v h]
theorem vH:∀(l:List Blk) (i:Nat) (f t m v:Nat),l[i]? =some (f,t,m)→(yK l).set (i*3+2) (.int .i64 (v:Int))=yK (l.set i (f,t,v))
 | b::l,0,f,t,m,v,h=>by cases h;rfl
 | b::l,i+1,f,t,m,v,h=>by
  rw[List.set_cons_succ,yK,yK,List.set_append_right _ _ (by show 3≤_;omega),show (i+1)*3+2-(blkZ b).length=i*3+2 from by show (i+1)*3+2-3=_;omega,vH l i f t m v h]
def jL (f:Nat→Nat):Nat→Int:=fun i=>(f i:Int)
structure zCO (c:Col) (w:World) (bv:Value) (Bs:List Blk):Prop where
 own:w.ownsRow 0 150 3 bv Bs.length (yK Bs)
 col:∀k,bv.ownBlock=some k→c k=1
structure PtC (c:Col) (w:World) (U S P O cs:Nat) (bv:Value) (n:Nat) (Bs:List Blk) (st pl ob:Nat→Nat):Prop where
 box:w.heap[U]? =some (.cells #[.slice (some ⟨S,0,none⟩) n cs,.slice (some ⟨P,0,none⟩) n n,bv,.slice (some ⟨O,0,none⟩) n n] 132 (0,0))
 cU:c U=1
 cS:c S=1
 cP:c P=1
 cO:c O=1
 s:ArrF w S n (jL st)
 p:ArrF w P n (jL pl)
 o:ArrF w O n (jL ob)
 g:zCO c w bv Bs
 cap:n≤cs
 us:U≠S
 up:U≠P
 uo:U≠O
 sp:S≠P
 so:S≠O
 po:P≠O
 gu:bv.ownBlock≠some U
 gs:bv.ownBlock≠some S
 gp:bv.ownBlock≠some P
 go:bv.ownBlock≠some O
 fresh:xA c w
section
variable {Q:Nat→Prop} {c c':Col} {w w':World} {U S P O cs n:Nat} {bv:Value} {Bs:List Blk} {st pl ob:Nat→Nat}
theorem zCO.keep {ok:Nat→Prop} (h:zCO c w bv Bs) (hk:KeepW ok w w') (ho:∀k,bv.ownBlock=some k→ok k):zCO c w' bv Bs:=⟨zF h.own hk ho,h.col⟩
theorem zCO.form (h:zCO c w bv Bs):∃ao cap,bv= .slice ao Bs.length cap∧Bs.length≤cap:=by
 obtain⟨ao,cap,hv,hn,_⟩:=Zc h.own;exact⟨ao,cap,hv,hn⟩
theorem zCO.at_ {j:Nat} {b:Blk} (h:zCO c w bv Bs) (hj:Bs[j]? =some b):∃g cap,bv= .slice (some ⟨g,0,none⟩) Bs.length cap∧Bs.length≤cap∧g<w.heap.size∧(w.cell? ⟨g,j*3,none⟩=some (.int .i64 (b.1:Int))∧w.cell? ⟨g,j*3+1,none⟩=some (.int .i64 (b.2.1:Int))∧w.cell? ⟨g,j*3+2,none⟩=some (.int .i64 (b.2.2:Int))) ∧
  (∀i,w.frozen? ⟨g,i,none⟩=false)∧∀(i:Nat) (Bs':List Blk) (v:Value),Bs'.length=Bs.length→(yK Bs).set i v=yK Bs'→i<Bs.length*3→zCO c (w.setCell ⟨g,i,none⟩ v) bv Bs':=by
 have hjl:=(List.getElem?_eq_some_iff.1 hj).1;obtain⟨hl,⟨rfl,h0⟩ | ⟨g,cap,cur,rfl,h3,hg,hn,hsz,hfz,hx⟩⟩:=h.own
 ·omega
 have hcell:∀i x,(yK Bs)[i]? =some x→w.cell? ⟨g,i,none⟩=some x:=fun i x hi=>by
  rw[cell_of_row w g i cur _ (0,0) hg,←Array.getElem?_toList];rw[←hx,List.getElem?_take] at hi;split at hi
  ·exact hi
  ·cases hi
 refine⟨g,cap,rfl,hn,(Array.getElem?_eq_some_iff.1 hg).1,⟨hcell _ _ (by have:=QF Bs j b hj 0 (by decide);rw[Nat.add_zero] at this;rw[this];rfl),hcell _ _ (by rw[QF Bs j b hj 1 (by decide)];rfl),hcell _ _ (by rw[QF Bs j b hj 2 (by decide)];rfl)⟩,fun i=>frozen_of_row w g i cur _ hg,fun i Bs' v hlen hset hi=>⟨?_,h.col⟩⟩;rw[hlen,←hset];refine⟨by rw[List.length_set];exact hl,.inr ⟨g,cap,cur.setIfInBounds i v,rfl,h3,heap_setCell_same w g i cur _ _ hg,hn,hsz,by rw[Array.size_setIfInBounds];exact hfz,?_⟩⟩;rw[Array.toList_setIfInBounds,List.take_set,hx]
theorem PtC.step (h:PtC c w U S P O cs bv n Bs st pl ob) (hs:StepC Q c c' w w') (h1:¬Q 1):PtC c' w' U S P O cs bv n Bs st pl ob:=by
 have lU:U<w.heap.size:=(Array.getElem?_eq_some_iff.1 h.box).1;have lg:=World.ownsRow.lt h.g.own;refine⟨(hs.keep.same U lU (by rw[h.cU];exact h1)).trans h.box,by rw[hs.same _ lU];exact h.cU,by rw[hs.same _ h.s.lt];exact h.cS,by rw[hs.same _ h.p.lt];exact h.cP,by rw[hs.same _ h.o.lt];exact h.cO,h.s.keep hs.keep (by rw[h.cS];exact h1),h.p.keep hs.keep (by rw[h.cP];exact h1),h.o.keep hs.keep (by rw[h.cO];exact h1),⟨zF h.g.own hs.keep fun k e=>by rw[h.g.col k e];exact h1,fun k e=>by rw[hs.same k (lg k e).2];exact h.g.col k e⟩,h.cap,h.us,h.up,h.uo,h.sp,h.so,h.po,h.gu,h.gs,h.gp,h.go,hs.fresh⟩
theorem PtC.under (h:PtC c w U S P O cs bv n Bs st pl ob) (hb:Below w.heap.size w w'):PtC c w' U S P O cs bv n Bs st pl ob:=h.step (Q:=fun _=>False) (StepC.below h.fresh hb) (fun e=>e)
theorem PtC.boxed (h:PtC c w U S P O cs bv n Bs st pl ob):w.cell? ⟨U,0,none⟩=some (.slice (some ⟨S,0,none⟩) n cs)∧w.cell? ⟨U,1,none⟩=some (.slice (some ⟨P,0,none⟩) n n)∧w.cell? ⟨U,2,none⟩=some bv∧w.cell? ⟨U,3,none⟩=some (.slice (some ⟨O,0,none⟩) n n)∧U<w.heap.size∧w.frozen? ⟨U,2,none⟩=false:=by
 have:=h.box;refine⟨?_,?_,?_,?_,(Array.getElem?_eq_some_iff.1 this).1,frozen_of_row w U 2 _ _ this⟩<;>(rw[cell_of_row w U _ _ _ (0,0) this];rfl)
theorem xD {B i:Nat} {y:Value} (hf:xA c w) (hB:c B=1):StepC (fun a=>a=1) c c w (w.setCell ⟨B,i,none⟩ y):=by
 have:=zd (B:=B) (i:=i) (y:=y) hf
 rwa [hB] at this
theorem PtC.setS (h:PtC c w U S P O cs bv n Bs st pl ob) (i x:Nat):PtC c (w.setCell ⟨S,i,none⟩ (.int .i64 (x:Int))) U S P O cs bv n Bs (updN st i x) pl ob:=by
 have hk:=zE (ok:=fun k=>k≠S) S i none (.int .i64 (x:Int)) w fun h=>h rfl;refine⟨(hk.same U h.boxed.2.2.2.2.1 h.us).trans h.box,h.cU,h.cS,h.cP,h.cO,(h.s.set i (x:Int)).congr fun k _=> ?_,h.p.keep hk (Ne.symm h.sp),h.o.keep hk (Ne.symm h.so),h.g.keep hk fun k e ek=>h.gs (by rw[←ek];exact e),h.cap,h.us,h.up,h.uo,h.sp,h.so,h.po,h.gu,h.gs,h.gp,h.go,(zd h.fresh).fresh⟩;unfold jL updN;show (if k=i then (x:Int) else (st k:Int))=((if k=i then x else st k:Nat):Int);split<;>rfl
theorem PtC.setP (h:PtC c w U S P O cs bv n Bs st pl ob) (i x:Nat):PtC c (w.setCell ⟨P,i,none⟩ (.int .i64 (x:Int))) U S P O cs bv n Bs st (updN pl i x) ob:=by
 have hk:=zE (ok:=fun k=>k≠P) P i none (.int .i64 (x:Int)) w fun h=>h rfl;refine⟨(hk.same U h.boxed.2.2.2.2.1 h.up).trans h.box,h.cU,h.cS,h.cP,h.cO,h.s.keep hk h.sp,(h.p.set i (x:Int)).congr fun k _=> ?_,h.o.keep hk (Ne.symm h.po),h.g.keep hk fun k e ek=>h.gp (by rw[←ek];exact e),h.cap,h.us,h.up,h.uo,h.sp,h.so,h.po,h.gu,h.gs,h.gp,h.go,(zd h.fresh).fresh⟩;unfold jL updN;show (if k=i then (x:Int) else (pl k:Int))=((if k=i then x else pl k:Nat):Int);split<;>rfl
theorem PtC.setO (h:PtC c w U S P O cs bv n Bs st pl ob) (i x:Nat):PtC c (w.setCell ⟨O,i,none⟩ (.int .i64 (x:Int))) U S P O cs bv n Bs st pl (updN ob i x):=by
 have hk:=zE (ok:=fun k=>k≠O) O i none (.int .i64 (x:Int)) w fun h=>h rfl;refine⟨(hk.same U h.boxed.2.2.2.2.1 h.uo).trans h.box,h.cU,h.cS,h.cP,h.cO,h.s.keep hk h.so,h.p.keep hk h.po,(h.o.set i (x:Int)).congr fun k _=> ?_,h.g.keep hk fun k e ek=>h.go (by rw[←ek];exact e),h.cap,h.us,h.up,h.uo,h.sp,h.so,h.po,h.gu,h.gs,h.gp,h.go,(zd h.fresh).fresh⟩;unfold jL updN;show (if k=i then (x:Int) else (ob k:Int))=((if k=i then x else ob k:Nat):Int);split<;>rfl
theorem PtC.setB (h:PtC c w U S P O cs bv n Bs st pl ob) {g i:Nat} {v:Value} {Bs':List Blk} (hg:bv.ownBlock=some g) (hw:zCO c (w.setCell ⟨g,i,none⟩ v) bv Bs'):PtC c (w.setCell ⟨g,i,none⟩ v) U S P O cs bv n Bs' st pl ob:=by
 have hk:=zE (ok:=fun k=>k≠g) g i none v w fun h=>h rfl;have ne:∀k,bv.ownBlock≠some k→k≠g:=fun k hk e=>hk (by rw[e];exact hg);exact⟨(hk.same U h.boxed.2.2.2.2.1 (ne U h.gu)).trans h.box,h.cU,h.cS,h.cP,h.cO,h.s.keep hk (ne S h.gs),h.p.keep hk (ne P h.gp),h.o.keep hk (ne O h.go),hw,h.cap,h.us,h.up,h.uo,h.sp,h.so,h.po,h.gu,h.gs,h.gp,h.go,(zd h.fresh).fresh⟩
end
section
variable {c:Col} {w:World} {U S P O cs n:Nat} {bv:Value} {Bs:List Blk} {st pl ob:Nat→Nat}
theorem PtC.drewN (h:PtC c w U S P O cs bv n Bs st pl ob) (q:Nat):PtC c (w.drewN q) U S P O cs bv n Bs st pl ob:=h.step (Q:=fun _=>False) (c':=c) ⟨zN _ _ _,fun _ _=>rfl,h.fresh⟩ (fun e=>e)
theorem zk (hf:xA c w) (q:Nat):StepC (fun a=>a=1) c c w (w.drewN q):=⟨zN _ _ _,fun _ _=>rfl,hf⟩
set_option maxRecDepth 8000 in
theorem zBL (h:PtC c w U S P O cs bv n Bs st pl ob) (hp:yx n Bs st pl ob) (hn:n≤100000) {x f t m:Nat} (hx:x<n) (hj:Bs[ob x]? =some (f,t,m)) (hm:¬MkP Bs pl ob x):
  Calls Tryz.prog 76 #[.pointer (some ⟨U,0,none⟩),.int .i64 (x:Int)] w fun e w'=>e= .returned (.bool (decide (m=0)))∧PtC c w' U S P O cs bv n (Bs.set (ob x) (f,t,m+1)) (stM st (pl x) (f+m) x) (plM pl (pl x) (f+m) x (st (f+m))) ob∧StepC (fun a=>a=1) c c w w':=by
 obtain⟨k1,k2,_,_⟩:=Yx hp hx hj hm;obtain⟨b1,b2,b3,b4⟩:=hp.inb _ _ _ _ hj;have hpx:=(hp.inv1 x hx).1;have hst:=(hp.inv2 (f+m) (by omega)).1;obtain⟨j,hjj⟩:∃j,ob x=j:=⟨_,rfl⟩;obtain⟨pp,hpp⟩:∃pp,pl x=pp:=⟨_,rfl⟩;obtain⟨fr,hfr⟩:∃fr,f+m=fr:=⟨_,rfl⟩;obtain⟨oth,hoth⟩:∃oth,st fr=oth:=⟨_,rfl⟩;rw[hjj] at hj;rw[hfr] at hst;rw[hoth] at hst;rw[hpp] at hpx;have hfn:fr<n:=by omega
 have hjl:=(List.getElem?_eq_some_iff.1 hj).1;have hfew:=hp.few;have HX:=qh h;obtain⟨x0,x1,x2,x3,x4,x5⟩:=h.boxed;obtain⟨g,cap,hbv,hcap,hg,⟨c0,c1,c2⟩,hgf,hset⟩:=h.g.at_ hj;have HBV:Hid (bv= .slice (some ⟨g,0,none⟩) Bs.length cap):=qh hbv;have o1:=h.o.cell hx;have p1:=h.p.cell hx;have s1:=h.s.cell hfn;have s2:=h.s.cell hpx;have e1:jL ob x=(j:Int):=by unfold jL;rw[hjj]
 have e2:jL pl x=(pp:Int):=by unfold jL;rw[hpp]
 have e3:jL st fr=(oth:Int):=by unfold jL;rw[hoth]
 rw[e1] at o1;rw[e2] at p1;rw[e3] at s1;have s2':∃y,w.cell? ⟨S,pp,none⟩=some y:=⟨_,s2⟩;obtain⟨y2,hy2⟩:=s2';have fS:=h.s.frozen pp;have fS2:=h.s.frozen fr;have lS:=h.s.lt;have i1:(f:Int)+(m:Int)=(fr:Int):=by omega
 have bl:Bs.length≤100000:=by omega
 obtain⟨nb,hnb⟩:∃nb,Bs.length=nb:=⟨_,rfl⟩;rw[hbv,hnb] at x2;rw[hnb] at hcap hjl;dsimp only at c0 c1 c2;have HP:=qh (fun q:Nat=>((h.drewN q).setS pp oth).setS fr x);have HQ:=qh (fun q:Nat=>((zk h.fresh q).trans (xD (B:=S) (i:=pp) (y:= .int .i64 (oth:Int)) (zk h.fresh q).fresh h.cS)).trans (xD (B:=S) (i:=fr) (y:= .int .i64 (x:Int)) (zd (zk h.fresh q).fresh).fresh h.cS));have HPO:=qh (And.intro h.cP (And.intro h.cS h.g.col));have HE:=qh (And.intro hjj (And.intro hpp (And.intro hfr hoth)));have HJ:=qh hj;have nUS:=h.us;have nSU:=Ne.symm h.us;have hfx:∀q,((w.drewN q).setCell ⟨S,pp,none⟩ (.int .i64 (oth:Int))).cell? ⟨S,fr,none⟩=some (.int .i64 (oth:Int)):=fun q=>by
  rw[((h.drewN q).setS pp oth).s.cell hfn];unfold jL updN;split
  ·rfl
  ·rw[hoth]
 have mb:(m:Int)≤100000:=by omega
 have fb:(f:Int)≤100000:=by omega
 clear h hp hm k1 k2 b1 b2 b3 b4 hset e1 e2 e3 hjj hpp hfr hoth s2 hbv hnb hj hfew c1;go_enter Tryz.func76,Tryz.ntmps76;go_wp2
 go_quiet (fail)
 all_goals go_wp2
 go_quiet (fail)
 all_goals go_wp2
 go_region
 generalize hD:w.drewN _=D0;have hP4:PtC c ((D0.setCell ⟨S,pp,none⟩ (.int .i64 (oth:Int))).setCell ⟨S,fr,none⟩ (.int .i64 (x:Int))) U S P O cs bv n Bs (updN (updN st pp oth) fr x) pl ob:=by rw[←hD];exact HP.out _
 have hQ4:StepC (fun a=>a=1) c c w ((D0.setCell ⟨S,pp,none⟩ (.int .i64 (oth:Int))).setCell ⟨S,fr,none⟩ (.int .i64 (x:Int))):=by rw[←hD];exact HQ.out _
 obtain⟨W4,hW4⟩:∃W,(D0.setCell ⟨S,pp,none⟩ (.int .i64 (oth:Int))).setCell ⟨S,fr,none⟩ (.int .i64 (x:Int))=W:=⟨_,rfl⟩;rw[hW4] at hP4 hQ4;(try rw[hW4]);clear hW4 hD hfx x0 x1 x2 x3 x4 x5 o1 p1 s1 c0 c2 hy2 fS fS2 hgf hg nUS nSU lS;obtain⟨x0,x1,x2,x3,x4,x5⟩:=hP4.boxed;rw[HBV.out] at x2;have p1:=hP4.p.cell hst;have p2:=hP4.p.cell hx;have fP:=hP4.p.frozen oth;have fP2:=hP4.p.frozen x;have lP:=hP4.p.lt;have nUP:=hP4.up;have nPU:=Ne.symm hP4.up;have hfx:∀q,((W4.drewN q).setCell ⟨P,oth,none⟩ (.int .i64 (pp:Int))).cell? ⟨P,x,none⟩=some (.int .i64 (pp:Int)):=fun q=>by
  rw[((hP4.drewN q).setP oth pp).p.cell hx];unfold jL updN;split
  ·rfl
  ·rw[HE.out.2.1]
 have hfx2:(W4.drew.setCell ⟨P,oth,none⟩ (.int .i64 (pp:Int))).cell? ⟨P,x,none⟩=some (.int .i64 (pp:Int)):=hfx 1;have hfx3:(W4.setCell ⟨P,oth,none⟩ (.int .i64 (pp:Int))).cell? ⟨P,x,none⟩=some (.int .i64 (pp:Int)):=hfx 0;have hP5:PtC c ((W4.setCell ⟨P,oth,none⟩ (.int .i64 (pp:Int))).setCell ⟨P,x,none⟩ (.int .i64 (fr:Int))).drew U S P O cs bv n Bs (updN (updN st pp oth) fr x) (updN (updN pl oth pp) x fr) ob:=((hP4.setP oth pp).setP x fr).drewN 1;have hQ5:StepC (fun a=>a=1) c c w ((W4.setCell ⟨P,oth,none⟩ (.int .i64 (pp:Int))).setCell ⟨P,x,none⟩ (.int .i64 (fr:Int))).drew:=((hQ4.trans (xD (B:=P) (i:=oth) (y:= .int .i64 (pp:Int)) hP4.fresh hP4.cP)).trans (xD (B:=P) (i:=x) (y:= .int .i64 (fr:Int)) (zd hP4.fresh).fresh hP4.cP)).trans (zk (zd (zd hP4.fresh).fresh).fresh 1);obtain⟨W5,hW5⟩:∃W,((W4.setCell ⟨P,oth,none⟩ (.int .i64 (pp:Int))).setCell ⟨P,x,none⟩ (.int .i64 (fr:Int))).drew=W:=⟨_,rfl⟩;rw[hW5] at hP5 hQ5;have H5:=qh (And.intro hP5 hQ5);clear hP4 hQ4 hP5 hQ5;go_wp2
 go_region
 (try rw[hW5]);clear hW5 x0 x1 x2 x3 x4 x5 p1 p2 fP fP2 lP nUP nPU hfx hfx2 hfx3;obtain⟨g2,cap2,hbv2,_,hg2,⟨c0,c1,c2⟩,hgf,hset⟩:=H5.out.1.g.at_ HJ.out;rw[HBV.out] at hbv2;cases hbv2;have hgm:=hgf (j*3+2);have HF:Hid (PtC c (W5.setCell ⟨g,j*3+2,none⟩ (.int .i64 ((m:Int)+1))) U S P O cs bv n (Bs.set j (f,t,m+1)) (updN (updN st pp oth) fr x) (updN (updN pl oth pp) x fr) ob∧StepC (fun a=>a=1) c c w (W5.setCell ⟨g,j*3+2,none⟩ (.int .i64 ((m:Int)+1)))):=qh (by
  have hown:bv.ownBlock=some g:=by rw[HBV.out];rfl
  have h2:=vH Bs j f t m (m+1) HJ.out;have e:((m+1:Nat):Int)=(m:Int)+1:=by omega
  rw[e] at h2;have hjl2:=(List.getElem?_eq_some_iff.1 HJ.out).1;refine⟨H5.out.1.setB hown (hset _ _ _ (List.length_set) h2 (by omega)),H5.out.2.trans ?_⟩;exact xD H5.out.1.fresh (H5.out.1.g.col g hown))
 dsimp only at c0 c1 c2;have hcg:(W5.setCell ⟨g,j*3+2,none⟩ (.int .i64 ((m:Int)+1))).cell? ⟨g,j*3+2,none⟩=some (.int .i64 ((m:Int)+1)):=by
  obtain⟨g3,cap3,hbv3,_,_,⟨_,_,d2⟩,_,_⟩:=HF.out.1.g.at_ (j:=j) (b:=(f,t,m+1)) (by rw[List.getElem?_set,if_pos rfl,if_pos (List.getElem?_eq_some_iff.1 HJ.out).1]);rw[HBV.out] at hbv3;injection hbv3 with e1 _ _
  injection e1 with e1
  injection e1 with e1
  subst e1;rw[d2];show some (Value.int .i64 ((m+1:Nat):Int))=_;rw[show ((m+1:Nat):Int)=(m:Int)+1 by omega]
 have hres:((m:Int)+1==1)=decide (m=0):=by
  rw[Bool.eq_iff_iff,beq_iff_eq,decide_eq_true_eq];constructor<;>intro h<;>omega
 clear hset hgf c0 c1;go_wp2
 go_ret
 refine⟨?_,?_,HF.out.2⟩
 ·rfl
 ·have:=HF.out.1;rw[HE.out.1,HE.out.2.1,HE.out.2.2.1];unfold stM plM;rw[HE.out.2.2.2];exact this
end
end Go.Proofs.YtjeomlickkpebaaGreatDoor
set_option linter.unusedSimpArgs false
namespace Go.Proofs.YtjeomlickkpebaaGreatDoor
open Go.RowKit
theorem Tryz.infoBlk:(Tryz.prog.info? 150).map (fun i=>(i.zero,i.size,i.bytes))=some (some (.agg #[.int .i64 0,.int .i64 0,.int .i64 0]),3,24):=by kernel_rfl
section
variable {c:Col} {w:World} {U S P O cs n:Nat} {bv:Value} {Bs:List Blk} {st pl ob:Nat→Nat}
theorem PtC.blkset (h:PtC c w U S P O cs bv n Bs st pl ob) {g i:Nat} {v:Value} {Bs':List Blk} (hown:bv.ownBlock=some g) (hlen:Bs'.length=Bs.length) (hset:(yK Bs).set i v=yK Bs') (hi:i<Bs.length*3):PtC c (w.setCell ⟨g,i,none⟩ v) U S P O cs bv n Bs' st pl ob:=by
 obtain⟨b,hb⟩:∃b,Bs[0]? =some b:=⟨_,List.getElem?_eq_getElem (by omega)⟩;obtain⟨g2,cap,hbv,_,_,_,_,hs⟩:=h.g.at_ hb;have e:g2=g:=by
  rw[hbv] at hown;exact Option.some.inj hown
 subst e;exact h.setB hown (hs i Bs' v hlen hset hi)
theorem PtC.blkat (h:PtC c w U S P O cs bv n Bs st pl ob) {g j f t m:Nat} (hown:bv.ownBlock=some g) (hj:Bs[j]? =some (f,t,m)):w.cell? ⟨g,j*3,none⟩=some (.int .i64 (f:Int))∧w.cell? ⟨g,j*3+1,none⟩=some (.int .i64 (t:Int))∧w.cell? ⟨g,j*3+2,none⟩=some (.int .i64 (m:Int))∧(∀i,w.frozen? ⟨g,i,none⟩=false)∧g<w.heap.size:=by
 obtain⟨g2,cap,hbv,_,hg,⟨c0,c1,c2⟩,hf,_⟩:=h.g.at_ hj;have e:g2=g:=by
  rw[hbv] at hown;exact Option.some.inj hown
 subst e;exact⟨c0,c1,c2,hf,hg⟩
theorem PtC.push (h:PtC c w U S P O cs bv n Bs st pl ob) {X:Nat} {b:Blk} (hX:∀(j:Nat) x,(blkZ b)[j]? =some x→w.cell? ⟨X,j,none⟩=some x) (hl:Bs.length≤100000):
  ∃ao cap w2,(Builtin.append_ #[130,130] 130 #[bv,.slice (some ⟨X,0,none⟩) 1 1]).run Tryz.prog w= .ok (.slice ao (Bs.length+1) cap) w2∧w2.cell? ⟨U,2,none⟩=some bv∧w2.frozen? ⟨U,2,none⟩=false∧U<w2.heap.size ∧
   ∃c',StepC (fun a=>a=1) c c' w (w2.setCell ⟨U,2,none⟩ (.slice ao (Bs.length+1) cap))∧PtC c' (w2.setCell ⟨U,2,none⟩ (.slice ao (Bs.length+1) cap)) U S P O cs (.slice ao (Bs.length+1) cap) n (Bs++ [b]) st pl ob:=by
 obtain⟨i0,hi1,hz0,hz1,hz2⟩:=xJ Tryz.infoBlk;obtain⟨v',w2,hr,hown',hgr,_,hat⟩:=run_append_own_at (P:=Tryz.prog) w 0 130 130 150 i0 (.agg #[.int .i64 0,.int .i64 0,.int .i64 0]) 3 24 Tryz.underlying130 hi1 hz0 hz1 hz2 rfl (by decide) bv Bs.length (yK Bs) h.g.own ⟨X,0,none⟩ 1 1 (blkZ b) rfl (fun j x hx=>by
  rw[Zr,Nat.zero_add];exact hX j x hx) (fun x hx=>VO [b] x (by rw[yK,yK,List.append_nil];exact hx)) (by unfold maxLen;omega) (by omega) (Nat.zero_le _)
 have hkeep:KeepW (fun k=>bv.ownBlock≠some k) w w2:=⟨hgr.os,hgr.tape,hgr.output,hgr.size,fun k hk hne=>hgr.block k hk fun e=>hne e.symm⟩;obtain⟨ao,cap,rfl,_⟩:=Zc hown';have lU:=h.boxed.2.2.2.2.1;have hbox2:=(hkeep.same U lU h.gu).trans h.box;have hne:∀B,B<w.heap.size→bv.ownBlock≠some B→(Value.slice ao (Bs.length+1) cap).ownBlock≠some B:=fun B hB hb e=>by
  rcases hat with hat | hat
  ·exact hb (by rw[←hat];exact e)
  ·rw[hat] at e;have e2:w.heap.size=B:=Option.some.inj e;omega
 obtain⟨c2,hc2⟩:∃c2:Col,c2=fun k=>if k=w.heap.size∧(Value.slice ao (Bs.length+1) cap).ownBlock=some k then 1 else c k:=⟨_,rfl⟩;have hold:∀k,k<w.heap.size→c2 k=c k:=fun k hk=>by rw[hc2];exact if_neg (by omega)
 have hs2:StepC (fun a=>a=1) c c2 w w2:=⟨hkeep.mono fun k _ hk e=>hk (h.g.col k e),hold,fun k hk=>by
  rw[hc2];show (if _ then 1 else c k)=0;rw[if_neg ?_]
  ·exact h.fresh k (Nat.le_trans hkeep.size hk)
  ·rintro⟨rfl,e⟩;have:=(World.ownsRow.lt hown' _ e).2;omega⟩
 have cU2:c2 U=1:=by rw[hold U lU];exact h.cU
 have hset:=xD (B:=U) (i:=2) (y:= .slice ao (Bs.length+1) cap) hs2.fresh cU2;have hk3:=zE (ok:=fun k=>k≠U) U 2 none (.slice ao (Bs.length+1) cap) w2 fun h=>h rfl;have nU:=hne U lU h.gu;refine⟨ao,cap,w2,hr,by rw[cell_of_row w2 U 2 _ _ (0,0) hbox2];rfl,frozen_of_row w2 U 2 _ _ hbox2,Nat.lt_of_lt_of_le lU hkeep.size,c2,hs2.trans hset,?_⟩;refine⟨by rw[heap_setCell_same w2 U 2 _ _ _ hbox2];rfl,cU2,by rw[hold S h.s.lt];exact h.cS,by rw[hold P h.p.lt];exact h.cP,by rw[hold O h.o.lt];exact h.cO,(h.s.keep hkeep h.gs).keep hk3 (Ne.symm h.us),(h.p.keep hkeep h.gp).keep hk3 (Ne.symm h.up),(h.o.keep hkeep h.go).keep hk3 (Ne.symm h.uo),⟨?_,fun k e=> ?_⟩,h.cap,h.us,h.up,h.uo,h.sp,h.so,h.po,nU,hne S h.s.lt h.gs,hne P h.p.lt h.gp,hne O h.o.lt h.go,hset.fresh⟩
 ·rw[List.length_append,VN];show (w2.setCell _ _).ownsRow 0 _ 3 _ _ (yK Bs++(blkZ b++ []));rw[List.append_nil];exact zF hown' hk3 fun k e ek=>nU (by rw[←ek];exact e)
 ·rcases hat with hat | hat
  ·have h2:bv.ownBlock=some k:=(by rw[←hat];exact e);rw[hold k (World.ownsRow.lt h.g.own k h2).2];exact h.g.col k h2
  ·have e2:k=w.heap.size:=(by rw[hat] at e;exact (Option.some.inj e).symm);rw[hc2];exact if_pos ⟨e2,e⟩
def KI (c:Col) (w w':World) (U S P O cs n j:Nat) (Bs:List Blk) (st pl ob:Nat→Nat) (e:Ending):Prop:=
 e= .returned (.tuple #[])∧∃c' bv' Bs' ob',StepC (fun a=>a=1) c c' w w'∧PtC c' w' U S P O cs bv' n Bs' st pl ob'∧yx n Bs' st pl ob'∧zAH n j Bs.length Bs Bs' pl ob ob'
set_option maxRecDepth 8000 in
theorem ppart_all (h:PtC c w U S P O cs bv n Bs st pl ob) (hp:yx n Bs st pl ob) (hn:n≤100000) {j f t m:Nat} (hj:Bs[j]? =some (f,t,m)) (hm:f+m=t):
  Calls Tryz.prog 77 #[.pointer (some ⟨U,0,none⟩),.int .i64 (j:Int)] w fun e w'=>KI c w w' U S P O cs n j Bs st pl ob e:=by
 obtain⟨b1,b2,b3,b4⟩:=hp.inb _ _ _ _ hj;have hjl:=(List.getElem?_eq_some_iff.1 hj).1;have hfew:=hp.few;obtain⟨x0,x1,x2,x3,x4,x5⟩:=h.boxed;obtain⟨ao,cap,hbv,hcap⟩:=h.g.form;obtain⟨g,hown⟩:∃g,bv.ownBlock=some g:=by
  obtain⟨g,cap,hbv,_⟩:=h.g.at_ hj;exact⟨g,by rw[hbv];rfl⟩
 have hao:ao=some ⟨g,0,none⟩:=by
  obtain⟨g2,cap2,hbv2,_⟩:=h.g.at_ hj;rw[hbv2] at hown hbv;injection hbv with e1
  rw[←e1];have:=Option.some.inj hown;rw[show g2=g from this]
 subst hao;obtain⟨c0,c1,c2,hgf,hg⟩:=h.blkat hown hj;obtain⟨mid,hmid⟩:∃mid,f+m=mid:=⟨_,rfl⟩;have i1:(f:Int)+(m:Int)=(mid:Int):=by omega
 have hj2:(Bs.set j (f,t,0))[j]? =some (f,t,0):=by rw[List.getElem?_set,if_pos rfl,if_pos hjl]
 have P2:∀q,PtC c ((w.drewN q).setCell ⟨g,j*3+2,none⟩ (.int .i64 0)) U S P O cs bv n (Bs.set j (f,t,0)) st pl ob:=fun q=>(h.drewN q).blkset hown List.length_set (vH Bs j f t m 0 hj) (by omega);have S2:∀q,StepC (fun a=>a=1) c c w ((w.drewN q).setCell ⟨g,j*3+2,none⟩ (.int .i64 0)):=fun q=>(zk h.fresh q).trans (xD h.fresh (h.g.col g hown));have fb:(f:Int)≤100000:=by omega
 have mb:(m:Int)≤100000:=by omega
 have tb:(t:Int)≤100000:=by omega
 have f0:(0:Int)≤(f:Int):=by omega
 have hgm:=hgf (j*3+2);have HBV:=qh hbv;have HOWN:=qh hown;obtain⟨nb,hnb⟩:∃nb,Bs.length=nb:=⟨_,rfl⟩;rw[hbv,hnb] at x2;have hjn:j<nb:=by omega
 obtain⟨y1,y2⟩:=zDT hp hj hm;have hmt:mid=t:=by omega
 have HF:=qh (fun q=>(show KI c w ((w.drewN q).setCell ⟨g,j*3+2,none⟩ (.int .i64 0)) U S P O cs n j Bs st pl ob (.returned (.tuple #[])) from⟨rfl,c,bv,_,ob,S2 q,P2 q,y1,y2⟩));subst hmt;have hcm:∀q,((w.drewN q).setCell ⟨g,j*3+2,none⟩ (.int .i64 0)).cell? ⟨g,j*3+1,none⟩=some (.int .i64 (mid:Int)):=fun q=>((P2 q).blkat hown hj2).2.1;clear h hp hj hm b1 b2 b3 b4 y1 y2 hgf hbv hnb hj2 hown P2 S2 hfew hmid hcap;go_enter Tryz.func77,Tryz.ntmps77;go_wp2
 go_quiet (fail)
 all_goals go_wp2
 (try simp only[Exit.inBlock,Exit.then]);refine bodyPost_ret (results_none rfl _ _ _) rfl ?_;exact HF.out _
theorem StepC.fresh_set {S:Nat→Prop} {c c':Col} {w V:World} {B i:Nat} {y:Value} (h:StepC S c c' w V) (hB:w.heap.size≤B):StepC S c c' w (V.setCell ⟨B,i,none⟩ y):=
 ⟨⟨h.keep.os,h.keep.tape,h.keep.output,by
   have:(V.setCell ⟨B,i,none⟩ y).heap.size=V.heap.size:=(by show (V.heap.modify _ _).size=_;rw[Array.size_modify]);rw[this];exact h.keep.size,fun k hk ho=>by
   have h2:=zE (ok:=fun k=>k≠B) B i none y V fun h=>h rfl;rw[h2.same k (Nat.lt_of_lt_of_le hk h.keep.size) (by omega)];exact h.keep.same k hk ho⟩,h.same,(zd h.fresh).fresh⟩
structure VP (c:Col) (w wr:World) (U S P O cs n j nb p0 q0 p1 q1 LB i:Nat) (bv:Value) (Bs:List Blk) (st pl ob:Nat→Nat):Prop where
 ex:∃obi,PtC c wr U S P O cs bv n (Bs.set j (p1,q1,0)) st pl obi∧∀y,y<n→obi y=if p0≤pl y∧pl y<p0+i then nb else ob y
 sc:StepC (fun a=>a=1) c c w wr
 lb:box3 150 wr LB (.int .i64 (p0:Int)) (.int .i64 (q0:Int)) (.int .i64 0)
theorem VP.next {c:Col} {w wr:World} {U S P O cs n j nb p0 q0 p1 q1 LB i:Nat} {bv:Value} {Bs:List Blk} {st pl ob:Nat→Nat} (h:VP c w wr U S P O cs n j nb p0 q0 p1 q1 LB i bv Bs st pl ob) (hp:yx n Bs st pl ob) (hi:p0+i<n) (hLB:c LB=0):
  VP c w (wr.setCell ⟨O,st (p0+i),none⟩ (.int .i64 (nb:Int))) U S P O cs n j nb p0 q0 p1 q1 LB (i+1) bv Bs st pl ob:=by
 obtain⟨⟨obi,h1,h2⟩,h3,h4⟩:=h;have hk:=hp.inv2 (p0+i) hi;have hne:LB≠O:=fun e=>by rw[e,h1.cO] at hLB;cases hLB
 refine⟨⟨updN obi (st (p0+i)) nb,h1.setO _ _,fun y hy=> ?_⟩,h3.trans (xD h1.fresh h1.cO),h4.keep (zE (ok:=fun k=>k≠O) O _ none _ wr fun h=>h rfl) hne⟩;unfold updN;by_cases e:y=st (p0+i)
 ·rw[if_pos e,e,hk.2,if_pos (by omega)]
 ·rw[if_neg e,h2 y hy];have:pl y≠p0+i:=fun e2=>e (by rw[←e2,(hp.inv1 y hy).2]);by_cases d:p0≤pl y∧pl y<p0+i
  ·rw[if_pos d,if_pos (by omega)]
  ·rw[if_neg d,if_neg (by omega)]
theorem VP.drewN {c:Col} {w wr:World} {U S P O cs n j nb p0 q0 p1 q1 LB i:Nat} {bv:Value} {Bs:List Blk} {st pl ob:Nat→Nat} (h:VP c w wr U S P O cs n j nb p0 q0 p1 q1 LB i bv Bs st pl ob) (q:Nat):
  VP c w (wr.drewN q) U S P O cs n j nb p0 q0 p1 q1 LB i bv Bs st pl ob:=by
 obtain⟨⟨obi,h1,h2⟩,h3,h4⟩:=h;exact⟨⟨obi,h1.drewN q,h2⟩,h3.trans (zk h1.fresh q),h4.keep (zN (fun _=>True) wr q) trivial⟩
set_option maxRecDepth 8000 in
theorem ppart_new (h:PtC c w U S P O cs bv n Bs st pl ob) (hp:yx n Bs st pl ob) (hn:n≤100000) {j f t m:Nat} (hj:Bs[j]? =some (f,t,m)) (h0:0<m) (hm:f+m<t):
  Calls Tryz.prog 77 #[.pointer (some ⟨U,0,none⟩),.int .i64 (j:Int)] w fun e w'=>KI c w w' U S P O cs n j Bs st pl ob e:=by
 obtain⟨b1,b2,b3,b4⟩:=hp.inb _ _ _ _ hj;have hjl:=(List.getElem?_eq_some_iff.1 hj).1;have hfew:=hp.few;obtain⟨x0,x1,x2,x3,x4,x5⟩:=h.boxed;obtain⟨ao,cap,hbv,hcap⟩:=h.g.form;obtain⟨g,hown⟩:∃g,bv.ownBlock=some g:=by
  obtain⟨g,cap,hbv,_⟩:=h.g.at_ hj;exact⟨g,by rw[hbv];rfl⟩
 have hao:ao=some ⟨g,0,none⟩:=by
  obtain⟨g2,cap2,hbv2,_⟩:=h.g.at_ hj;rw[hbv2] at hown hbv;injection hbv with e1
  rw[←e1];have:=Option.some.inj hown;rw[show g2=g from this]
 subst hao;obtain⟨c0,c1,c2,hgf,hg⟩:=h.blkat hown hj;obtain⟨mid,hmid⟩:∃mid,f+m=mid:=⟨_,rfl⟩;have i1:(f:Int)+(m:Int)=(mid:Int):=by omega
 have hj2:(Bs.set j (f,t,0))[j]? =some (f,t,0):=by rw[List.getElem?_set,if_pos rfl,if_pos hjl]
 have P2:∀q,PtC c ((w.drewN q).setCell ⟨g,j*3+2,none⟩ (.int .i64 0)) U S P O cs bv n (Bs.set j (f,t,0)) st pl ob:=fun q=>(h.drewN q).blkset hown List.length_set (vH Bs j f t m 0 hj) (by omega);have S2:∀q,StepC (fun a=>a=1) c c w ((w.drewN q).setCell ⟨g,j*3+2,none⟩ (.int .i64 0)):=fun q=>(zk h.fresh q).trans (xD h.fresh (h.g.col g hown));have fb:(f:Int)≤100000:=by omega
 have mb:(m:Int)≤100000:=by omega
 have tb:(t:Int)≤100000:=by omega
 have f0:(0:Int)≤(f:Int):=by omega
 have hgm:=hgf (j*3+2);have HBV:=qh hbv;have HOWN:=qh hown;obtain⟨nb,hnb⟩:∃nb,Bs.length=nb:=⟨_,rfl⟩;rw[hbv,hnb] at x2;have hjn:j<nb:=by omega
 have HPN:=qh (fun (p q p' q':Nat) (hpq:(p=f∧q=f+m∧p'=f+m∧q'=t)∨(p=f+m∧q=t∧p'=f∧q'=f+m)) (ob':Nat→Nat) (hob:∀y,y<n→ob' y=if p≤pl y∧pl y<q then Bs.length else ob y)=>zDU hp hj h0 hm hpq hob);have HP:=qh hp;have HJ2:=qh hj2;have HNB:=qh hnb;have HJ:=qh hj;have hmt:mid<t:=by omega
 have hmti:¬(mid:Int)=(t:Int):=by omega
 have hfm:f<mid:=by omega
 have htn:t≤n:=b2;have HP2:=qh P2;have HS2:=qh S2;have HC2:=qh (fun q=>(P2 q).blkat hown hj2);have hcm:∀q,((w.drewN q).setCell ⟨g,j*3+2,none⟩ (.int .i64 0)).cell? ⟨g,j*3+1,none⟩=some (.int .i64 (t:Int)):=fun q=>((P2 q).blkat hown hj2).2.1;have hcf:∀q,((w.drewN q).setCell ⟨g,j*3+2,none⟩ (.int .i64 0)).cell? ⟨g,j*3,none⟩=some (.int .i64 (f:Int)):=fun q=>((P2 q).blkat hown hj2).1;have HFC:=qh h.fresh;have HGC:=qh (h.g.col g hown);clear h hp hj b1 b2 b3 b4 hgf hbv hnb hj2 hown P2 S2 hfew hcap;go_enter Tryz.func77,Tryz.ntmps77;go_wp2
 go_quiet (fail)
 all_goals go_wp2
 generalize hD:w.drewN _=D0;have hP2:PtC c (D0.setCell ⟨g,j*3+2,none⟩ (.int .i64 0)) U S P O cs bv n (Bs.set j (f,t,0)) st pl ob:=by rw[←hD];exact HP2.out _
 have hS2:StepC (fun a=>a=1) c c w (D0.setCell ⟨g,j*3+2,none⟩ (.int .i64 0)):=by rw[←hD];exact HS2.out _
 have hLB:(D0.setCell ⟨g,j*3+2,none⟩ (.int .i64 0)).heap.size=w.heap.size:=by
  rw[←hD];show ((w.drewN _).heap.modify _ _).size=_;rw[Array.size_modify];rfl
 obtain⟨W2,hW2⟩:∃W,D0.setCell ⟨g,j*3+2,none⟩ (.int .i64 0)=W:=⟨_,rfl⟩;rw[hW2] at hP2 hS2 hLB;(try rw[hW2]);have hba:=zA W2 (.cells #[.int .i64 (f:Int),.int .i64 (mid:Int),.int .i64 0] 150);have hbx:=box3.new 150 W2 (.int .i64 (f:Int)) (.int .i64 (mid:Int)) (.int .i64 0);rw[hLB] at hbx;have hP4:=hP2.under hba;have hS4:=hS2.trans (StepC.below (S:=fun a=>a=1) hP2.fresh hba);have HLB:Hid (c w.heap.size=0):=qh (HFC.out _ (Nat.le_refl _));obtain⟨LB,hLBe⟩:∃LB,w.heap.size=LB:=⟨_,rfl⟩;have HLW:=qh hLBe;rw[hLBe] at hbx HLB;(try rw[hLBe]);obtain⟨W4,hW4⟩:∃W,W2.alloc (.cells #[.int .i64 (f:Int),.int .i64 (mid:Int),.int .i64 0] 150)=W:=⟨_,rfl⟩;rw[hW4] at hP4 hS4 hbx;(try rw[hW4]);clear hW4 hLBe hba hP2 hS2 hLB hW2 hD hcm hcf x0 x1 x2 x3 x4 x5 c0 c1 c2 hgm hg HP2 HS2 HC2;obtain⟨c0,c1,c2,hgf,hg⟩:=hP4.blkat HOWN.out HJ2.out;have m0:(mid:Int)≤100000:=by omega
 have H4:=qh (And.intro hP4 (And.intro hS4 hbx));by_cases hsm:mid-f≤t-mid
 ·have hsi:(mid:Int)-(f:Int)≤(t:Int)-(mid:Int):=by omega
  clear hP4 hS4 hbx;go_quiet (fail)
  all_goals go_wp2
  generalize hD6:W4.drewN _=D6;have H6:Hid (VP c w (D6.setCell ⟨g,j*3,none⟩ (.int .i64 (mid:Int))) U S P O cs n j nb f mid mid t LB 0 bv Bs st pl ob):=qh (by
   have hl:=(List.getElem?_eq_some_iff.1 HJ2.out).1;have z1:=H4.out.1;have z2:PtC c D6 U S P O cs bv n (Bs.set j (f,t,0)) st pl ob:=(by rw[←hD6];exact z1.drewN _);have z3:StepC (fun a=>a=1) c c w D6:=(by rw[←hD6];exact H4.out.2.1.trans (zk z1.fresh _));have z4:=z2.blkset (Bs':=Bs.set j (mid,t,0)) HOWN.out (by rw[List.length_set,List.length_set]) (by rw[JY _ j f t 0 mid HJ2.out,List.set_set]) (i:=j*3) (v:= .int .i64 (mid:Int)) (by omega);have hne:LB≠g:=fun e=>by
    have h1:=HLB.out;rw[e,HGC.out] at h1;cases h1
   refine⟨⟨ob,z4,fun y _=>by rw[if_neg (by omega)]⟩,z3.trans (xD z2.fresh HGC.out),?_⟩;have z5:box3 150 D6 LB (.int .i64 (f:Int)) (.int .i64 (mid:Int)) (.int .i64 0):=(by rw[←hD6];exact H4.out.2.2.keep (zN (fun _=>True) W4 _) trivial);exact z5.keep (zE (ok:=fun k=>k≠g) g _ none _ D6 fun h=>h rfl) hne)
  obtain⟨W6,hW6⟩:∃W,D6.setCell ⟨g,j*3,none⟩ (.int .i64 (mid:Int))=W:=⟨_,rfl⟩;rw[hW6] at H6;(try rw[hW6]);clear hW6 hD6 H4 c0 c1 c2 hgf hg;have HSL:Hid (((f:Nat):Int)≤((mid:Nat):Int)∧f≤mid∧mid≤n):=qh ⟨by omega,by omega,by omega⟩;obtain⟨x0,x1,x2,x3,x4,x5⟩:=(H6.out.ex.choose_spec.1).boxed;obtain⟨⟨l0,l1,l2⟩,lf⟩:=H6.out.lb.cells;obtain⟨len,hlen⟩:∃len,mid-f=len:=⟨_,rfl⟩;have hleni:((mid:Nat):Int)-((f:Nat):Int)=(len:Int):=by omega
  have hpq1:f≤mid:=by omega
  have hqn:mid≤n:=by omega
  have hqcs:mid≤cs:=by have:=(H6.out.ex.choose_spec.1).cap;omega
  have hpi:((f:Nat):Int)≤((mid:Nat):Int):=by omega
  have hqi:((mid:Nat):Int)≤(cs:Int):=by omega
  go_wp2
  go_quiet (fail)
  all_goals go_wp2
  have H7:Hid (∀q9,VP c w (W6.drewN q9) U S P O cs n j nb f mid mid t LB 0 bv Bs st pl ob):=qh (fun q9=>H6.out.drewN q9);generalize hD9:W6.drewN _=W9;have H8:Hid (VP c w W9 U S P O cs n j nb f mid mid t LB 0 bv Bs st pl ob):=qh (by rw[←hD9];exact H7.out _);clear H7 hD9 H6 x0 x1 x2 x3 x4 x5 l0 l1 l2 lf;go_loopw [77] (fun s77 wr=>∃i:Nat,s77= .int .i64 (i:Int)∧i≤len∧Hid (VP c w wr U S P O cs n j nb f mid mid t LB i bv Bs st pl ob)) (fun s77 _=>len-(intOf s77).toNat)
  case atStart=>exact⟨0,rfl,Nat.zero_le _,H8⟩
  case round=>
   clear H8;obtain⟨i,rfl,hi,HX⟩:=hrel;have i0:(0:Int)≤(i:Int):=(by omega);have i2:(i:Int)≤100000:=(by omega);obtain⟨obi,y1,y2⟩:=HX.out.ex;obtain⟨x0,x1,x2,x3,x4,x5⟩:=y1.boxed;rw[HBV.out,HNB.out] at x2;by_cases hlt:i<len
   ·have hli:(i:Int)<(len:Int):=(by omega);have hpin:f+i<n:=(by omega);have s1:=y1.s.cell hpin;have e1:jL st (f+i)=((st (f+i):Nat):Int):=rfl;obtain⟨x,hx⟩:∃x,st (f+i)=x:=⟨_,rfl⟩;rw[e1,hx] at s1;have hxn:x<n:=(by rw[←hx];exact (HP.out.inv2 _ hpin).1);have fO:=y1.o.frozen x;have lO:=y1.o.lt;have o1:=y1.o.cell hxn;have HN:=qh (HX.out.next HP.out hpin HLB.out);rw[hx] at HN;clear y1 y2 HX hx e1;go_wp2
    go_region
    all_goals go_wp2
    go_roundw
    case rel=>exact⟨i+1,by go_num,hlt,qh (HN.out.drewN 1)⟩
    case measure=>simp[intOf]<;>omega
   ·have hli:¬(i:Int)<(len:Int):=(by omega);have hie:i=len:=(by omega);have hpl:f+len=mid:=(by omega);rw[hie] at y2 HX;rw[hpl] at y2;obtain⟨⟨l0,l1,l2⟩,lf0,lf1,lf2⟩:=HX.out.lb.cells
    have hadd:∀W,Below wr.heap.size wr W→∃ao9 cap9 w9,(Builtin.append_ #[130,130] 130 #[.slice (some ⟨g,0,none⟩) nb cap,.slice (some ⟨W.heap.size,0,none⟩) 1 1]).run Tryz.prog (W.alloc (.cells #[.int .i64 (f:Int),.int .i64 (mid:Int),.int .i64 0] 150))= .ok (.slice ao9 (nb+1) cap9) w9∧w9.cell? ⟨U,2,none⟩=some (.slice (some ⟨g,0,none⟩) nb cap)∧w9.frozen? ⟨U,2,none⟩=false∧U<w9.heap.size ∧
      Hid (KI c w (w9.setCell ⟨U,2,none⟩ (.slice ao9 (nb+1) cap9)) U S P O cs n j Bs st pl ob (.returned (.tuple #[]))):=fun W hW=>by
     have hba:=zA W (.cells #[.int .i64 (f:Int),.int .i64 (mid:Int),.int .i64 0] 150);have hbx:=box3.new 150 W (.int .i64 (f:Int)) (.int .i64 (mid:Int)) (.int .i64 0);obtain⟨ao9,cap9,w9,r1,r2,r3,r4,c9,r5,r6⟩:=((y1.under hW).under hba).push (X:=W.heap.size) (b:=(f,mid,0)) (fun i u hu=>by
      obtain⟨⟨d0,d1,d2⟩,_⟩:=hbx.cells
      match i,hu with
      | 0,hu=>cases hu;exact d0
      | 1,hu=>cases hu;exact d1
      | 2,hu=>cases hu;exact d2) (by rw[List.length_set,HNB.out];have:=HP.out.few;rw[HNB.out] at this;omega)
     rw[List.length_set,HNB.out] at r1 r5 r6;rw[HBV.out,HNB.out] at r1 r2;have hw:=(hW.trans (hba.mono hW.size));obtain⟨z1,z2⟩:=HPN.out f mid mid t (by rw[hmid];exact .inl ⟨rfl,rfl,rfl,rfl⟩) obi (by rw[HNB.out];exact y2);exact⟨ao9,cap9,w9,r1,r2,r3,r4,qh ⟨rfl,c9,_,_,obi,(HX.out.sc.trans (StepC.below y1.fresh hw)).trans r5,r6,z1,z2⟩⟩
    have HADD:=qh hadd;have kb:=Below.refl wr.heap.size wr;have kd:=kb.drew;have nLU:LB≠U:=fun e=>by
     have h1:=HLB.out;rw[e,y1.cU] at h1;cases h1
    clear y1 y2 HX hadd hie;go_wp2
    obtain⟨ao9,cap9,w9,hrun,r2,r3,r4,HR⟩:=HADD.out _ kd;have hrun2:(Builtin.append_ #[130,130] 130 #[.slice (some ⟨g,0,none⟩) nb cap,.slice (some ⟨wr.heap.size,0,none⟩) 1 1]).run Tryz.prog ((wr.alloc (.cells #[.int .i64 (f:Int),.int .i64 (mid:Int),.int .i64 0] 150)).drew)= .ok (.slice ao9 (nb+1) cap9) w9:=hrun;clear hrun;refine wp_region_any (by kernel_rfl) ?_;(try (change wpAny _ _ _ _ _ _ _ (World.drew _)));refine tK 0 ⟨some 93,.move (.tmp 0),128,_,#[],none⟩ ?v1000 rfl (.inl ⟨by rfl,?h1000⟩) ?_;case h1000=>(intro w;go_simp;(try with_reducible rfl))
    (try simp only[Act.put,pA1,pA2,pA3]);refine tK 1 ⟨some 94,.move (.tmp 0),128,_,#[],none⟩ ?v1001 rfl (.inl ⟨by rfl,?h1001⟩) ?_;case h1001=>(intro w;go_simp;(try with_reducible rfl))
    (try simp only[Act.put,pA1,pA2,pA3]);refine tK 2 ⟨some 95,.nilCheck (.tmp 94),0,_,#[⟨1,.data⟩],none⟩ ?v1002 rfl (.inl ⟨by rfl,?h1002⟩) ?_;case h1002=>(intro w;go_simp;(try with_reducible rfl))
    (try simp only[Act.put,pA1,pA2,pA3]);refine tK 3 ⟨some 96,.fieldAddr 132 (.tmp 95) 2,0,_,#[⟨2,.data⟩],none⟩ ?v1003 rfl (.inl ⟨by rfl,?h1003⟩) ?_;case h1003=>(intro w;go_simp;(try with_reducible rfl))
    (try simp only[Act.put,pA1,pA2,pA3]);refine rD [4,5] (aC ⟨some 97,.load 130 (.tmp 96),130,_,eA35_0,none⟩ rfl (fun K hK=> ?_) (aC ⟨some 98,.load 150 (.tmp 6),150,_,#[],none⟩ rfl (fun K hK=> ?_) aN))
    ·skip;go_simp;refine hK _ _ ?_;clear hK K;(try simp only[Act.put,pA1,pA2,pA3]);refine rD [5] (aC ⟨some 98,.load 150 (.tmp 6),150,_,#[],none⟩ rfl (fun K hK=> ?_) aN);go_simp;refine hK _ _ ?_;clear hK K;(try simp only[Act.put,pA1,pA2,pA3]);refine rD [6] (aC ⟨some 99,.buildSlice 130 1 #[(0,.tmp 98)],130,_,XK,none⟩ rfl (fun K hK=> ?_) aN);go_simp;refine hK _ _ ?_;clear hK K;(try simp only[Act.put,pA1,pA2,pA3]);refine rD [7] (aC ⟨some 100,.call ⟨.builtin .append,#[.tmp 97,.tmp 99],#[130,130]⟩,130,_,XL,none⟩ rfl (fun K hK=> ?_) aN);refine xB (by rfl) (.tmp 97) (.tmp 99) 130 (by rfl) (by rfl) (by rfl) hrun2 ?_;refine hK _ _ ?_;clear hK K;(try simp only[Act.put,pA1,pA2,pA3]);refine tK 8 ⟨some 101,.nilCheck (.tmp 93),0,_,XM,none⟩ ?v1004 rfl (.inl ⟨by rfl,?h1004⟩) ?_;case h1004=>(intro w;go_simp;(try with_reducible rfl))
     (try simp only[Act.put,pA1,pA2,pA3]);refine tK 9 ⟨some 102,.fieldAddr 132 (.tmp 101) 2,0,_,XN,none⟩ ?v1005 rfl (.inl ⟨by rfl,?h1005⟩) ?_;case h1005=>(intro w;go_simp;(try with_reducible rfl))
     (try simp only[Act.put,pA1,pA2,pA3]);refine rD [10] (aC ⟨none,.store 130 (.tmp 102) (.tmp 100),0,_,XO,none⟩ rfl (fun K hK=> ?_) aN);go_simp;refine hK _ _ ?_;clear hK K;(try simp only[Act.put,pA1,pA2,pA3]);refine wpAny_done (by kernel_rfl) ?_ _;go_wp2
     go_end0
     exact HR.out
    ·skip;go_simp;refine hK _ _ ?_;clear hK K;(try simp only[Act.put,pA1,pA2,pA3]);refine rD [4,6] (aC ⟨some 97,.load 130 (.tmp 96),130,_,eA35_0,none⟩ rfl (fun K hK=> ?_) (aC ⟨some 99,.buildSlice 130 1 #[(0,.tmp 98)],130,_,XK,none⟩ rfl (fun K hK=> ?_) aN))
     ·skip;go_simp;refine hK _ _ ?_;clear hK K;(try simp only[Act.put,pA1,pA2,pA3]);refine rD [6] (aC ⟨some 99,.buildSlice 130 1 #[(0,.tmp 98)],130,_,XK,none⟩ rfl (fun K hK=> ?_) aN);go_simp;refine hK _ _ ?_;clear hK K;(try simp only[Act.put,pA1,pA2,pA3]);refine rD [7] (aC ⟨some 100,.call ⟨.builtin .append,#[.tmp 97,.tmp 99],#[130,130]⟩,130,_,XL,none⟩ rfl (fun K hK=> ?_) aN);refine xB (by rfl) (.tmp 97) (.tmp 99) 130 (by rfl) (by rfl) (by rfl) hrun2 ?_;refine hK _ _ ?_;clear hK K;(try simp only[Act.put,pA1,pA2,pA3]);refine tK 8 ⟨some 101,.nilCheck (.tmp 93),0,_,XM,none⟩ ?v1006 rfl (.inl ⟨by rfl,?h1006⟩) ?_;case h1006=>(intro w;go_simp;(try with_reducible rfl))
      (try simp only[Act.put,pA1,pA2,pA3]);refine tK 9 ⟨some 102,.fieldAddr 132 (.tmp 101) 2,0,_,XN,none⟩ ?v1007 rfl (.inl ⟨by rfl,?h1007⟩) ?_;case h1007=>(intro w;go_simp;(try with_reducible rfl))
      (try simp only[Act.put,pA1,pA2,pA3]);refine rD [10] (aC ⟨none,.store 130 (.tmp 102) (.tmp 100),0,_,XO,none⟩ rfl (fun K hK=> ?_) aN);go_simp;refine hK _ _ ?_;clear hK K;(try simp only[Act.put,pA1,pA2,pA3]);refine wpAny_done (by kernel_rfl) ?_ _;go_wp2
      go_end0
      exact HR.out
     ·skip;go_simp;refine hK _ _ ?_;clear hK K;(try simp only[Act.put,pA1,pA2,pA3]);refine rD [4] (aC ⟨some 97,.load 130 (.tmp 96),130,_,eA35_0,none⟩ rfl (fun K hK=> ?_) aN);go_simp;refine hK _ _ ?_;clear hK K;(try simp only[Act.put,pA1,pA2,pA3]);refine rD [7] (aC ⟨some 100,.call ⟨.builtin .append,#[.tmp 97,.tmp 99],#[130,130]⟩,130,_,XL,none⟩ rfl (fun K hK=> ?_) aN);refine xB (by rfl) (.tmp 97) (.tmp 99) 130 (by rfl) (by rfl) (by rfl) hrun2 ?_;refine hK _ _ ?_;clear hK K;(try simp only[Act.put,pA1,pA2,pA3]);refine tK 8 ⟨some 101,.nilCheck (.tmp 93),0,_,XM,none⟩ ?v1008 rfl (.inl ⟨by rfl,?h1008⟩) ?_;case h1008=>(intro w;go_simp;(try with_reducible rfl))
      (try simp only[Act.put,pA1,pA2,pA3]);refine tK 9 ⟨some 102,.fieldAddr 132 (.tmp 101) 2,0,_,XN,none⟩ ?v1009 rfl (.inl ⟨by rfl,?h1009⟩) ?_;case h1009=>(intro w;go_simp;(try with_reducible rfl))
      (try simp only[Act.put,pA1,pA2,pA3]);refine rD [10] (aC ⟨none,.store 130 (.tmp 102) (.tmp 100),0,_,XO,none⟩ rfl (fun K hK=> ?_) aN);go_simp;refine hK _ _ ?_;clear hK K;(try simp only[Act.put,pA1,pA2,pA3]);refine wpAny_done (by kernel_rfl) ?_ _;go_wp2
      go_end0
      exact HR.out
 ·skip;have hsi:¬(mid:Int)-(f:Int)≤(t:Int)-(mid:Int):=by omega
  obtain⟨⟨l0,l1,l2⟩,lf0,lf1,lf2⟩:=hbx.cells;have lLB:=hbx.lt;have nLg:LB≠g:=fun e=>by
   have h1:=HLB.out;rw[e,HGC.out] at h1;cases h1
  have ngL:=Ne.symm nLg;clear hP4 hS4 hbx;go_quiet (fail)
  all_goals go_wp2
  go_region
  generalize hD6:W4.drewN _=D6;have hLw:w.heap.size≤LB:=by rw[HLW.out];exact Nat.le_refl _
  have H8:Hid (PtC c ((D6.setCell ⟨LB,0,none⟩ (.int .i64 (mid:Int))).setCell ⟨LB,1,none⟩ (.int .i64 (t:Int))) U S P O cs bv n (Bs.set j (f,t,0)) st pl ob∧StepC (fun a=>a=1) c c w ((D6.setCell ⟨LB,0,none⟩ (.int .i64 (mid:Int))).setCell ⟨LB,1,none⟩ (.int .i64 (t:Int)))∧box3 150 ((D6.setCell ⟨LB,0,none⟩ (.int .i64 (mid:Int))).setCell ⟨LB,1,none⟩ (.int .i64 (t:Int))) LB (.int .i64 (mid:Int)) (.int .i64 (t:Int)) (.int .i64 0)):=qh (by
   have z1:=H4.out.1;have z2:PtC c D6 U S P O cs bv n (Bs.set j (f,t,0)) st pl ob:=(by rw[←hD6];exact z1.drewN _);have z3:StepC (fun a=>a=1) c c w D6:=(by rw[←hD6];exact H4.out.2.1.trans (zk z1.fresh _));have z5:box3 150 D6 LB (.int .i64 (f:Int)) (.int .i64 (mid:Int)) (.int .i64 0):=(by rw[←hD6];exact H4.out.2.2.keep (zN (fun _=>True) W4 _) trivial);have z6:=(z5.set0 (.int .i64 (mid:Int))).set1 (.int .i64 (t:Int));have s1:=zd (B:=LB) (i:=0) (y:= .int .i64 (mid:Int)) z2.fresh;rw[HLB.out] at s1;have z7:=z2.step s1 (by decide);have s2:=zd (B:=LB) (i:=1) (y:= .int .i64 (t:Int)) z7.fresh;rw[HLB.out] at s2;exact⟨z7.step s2 (by decide),(z3.fresh_set hLw).fresh_set hLw,z6⟩)
  obtain⟨W8,hW8⟩:∃W,(D6.setCell ⟨LB,0,none⟩ (.int .i64 (mid:Int))).setCell ⟨LB,1,none⟩ (.int .i64 (t:Int))=W:=⟨_,rfl⟩;rw[hW8] at H8;(try rw[hW8]);clear hW8 hD6 H4 c0 c1 c2 hgf hg l0 l1 l2 lf0 lf1 lf2 lLB;obtain⟨c0,c1,c2,hgf,hg⟩:=H8.out.1.blkat HOWN.out HJ2.out;have hgf1:=hgf (j*3+1);go_wp2
  have H6:Hid (VP c w (W8.setCell ⟨g,j*3+1,none⟩ (.int .i64 (mid:Int))) U S P O cs n j nb mid t f mid LB 0 bv Bs st pl ob):=qh (by
   have hl:=(List.getElem?_eq_some_iff.1 HJ2.out).1;have z4:=H8.out.1.blkset (Bs':=Bs.set j (f,mid,0)) HOWN.out (by rw[List.length_set,List.length_set]) (by rw[jp _ j f t 0 mid HJ2.out,List.set_set]) (i:=j*3+1) (v:= .int .i64 (mid:Int)) (by omega);exact⟨⟨ob,z4,fun y _=>by rw[if_neg (by omega)]⟩,H8.out.2.1.trans (xD H8.out.1.fresh HGC.out),H8.out.2.2.keep (zE (ok:=fun k=>k≠g) g _ none _ _ fun h=>h rfl) nLg⟩)
  obtain⟨W6,hW6⟩:∃W,W8.setCell ⟨g,j*3+1,none⟩ (.int .i64 (mid:Int))=W:=⟨_,rfl⟩;rw[hW6] at H6;(try rw[hW6]);clear hW6 H8 c0 c1 c2 hgf hgf1 hg nLg ngL;have HSL:Hid (((mid:Nat):Int)≤((t:Nat):Int)∧mid≤t∧t≤n):=qh ⟨by omega,by omega,by omega⟩;obtain⟨x0,x1,x2,x3,x4,x5⟩:=(H6.out.ex.choose_spec.1).boxed;obtain⟨⟨l0,l1,l2⟩,lf⟩:=H6.out.lb.cells;obtain⟨len,hlen⟩:∃len,t-mid=len:=⟨_,rfl⟩;have hleni:((t:Nat):Int)-((mid:Nat):Int)=(len:Int):=by omega
  have hpq1:mid≤t:=by omega
  have hqn:t≤n:=by omega
  have hqcs:t≤cs:=by have:=(H6.out.ex.choose_spec.1).cap;omega
  have hpi:((mid:Nat):Int)≤((t:Nat):Int):=by omega
  have hqi:((t:Nat):Int)≤(cs:Int):=by omega
  go_wp2
  go_quiet (fail)
  all_goals go_wp2
  have H7:Hid (∀q9,VP c w (W6.drewN q9) U S P O cs n j nb mid t f mid LB 0 bv Bs st pl ob):=qh (fun q9=>H6.out.drewN q9);generalize hD9:W6.drewN _=W9;have H8:Hid (VP c w W9 U S P O cs n j nb mid t f mid LB 0 bv Bs st pl ob):=qh (by rw[←hD9];exact H7.out _);clear H7 hD9 H6 x0 x1 x2 x3 x4 x5 l0 l1 l2 lf;go_loopw [77] (fun s77 wr=>∃i:Nat,s77= .int .i64 (i:Int)∧i≤len∧Hid (VP c w wr U S P O cs n j nb mid t f mid LB i bv Bs st pl ob)) (fun s77 _=>len-(intOf s77).toNat)
  case atStart=>exact⟨0,rfl,Nat.zero_le _,H8⟩
  case round=>
   clear H8;obtain⟨i,rfl,hi,HX⟩:=hrel;have i0:(0:Int)≤(i:Int):=(by omega);have i2:(i:Int)≤100000:=(by omega);obtain⟨obi,y1,y2⟩:=HX.out.ex;obtain⟨x0,x1,x2,x3,x4,x5⟩:=y1.boxed;rw[HBV.out,HNB.out] at x2;by_cases hlt:i<len
   ·have hli:(i:Int)<(len:Int):=(by omega);have hpin:mid+i<n:=(by omega);have s1:=y1.s.cell hpin;have e1:jL st (mid+i)=((st (mid+i):Nat):Int):=rfl;obtain⟨x,hx⟩:∃x,st (mid+i)=x:=⟨_,rfl⟩;rw[e1,hx] at s1;have hxn:x<n:=(by rw[←hx];exact (HP.out.inv2 _ hpin).1);have fO:=y1.o.frozen x;have lO:=y1.o.lt;have o1:=y1.o.cell hxn;have HN:=qh (HX.out.next HP.out hpin HLB.out);rw[hx] at HN;clear y1 y2 HX hx e1;go_wp2
    go_region
    all_goals go_wp2
    go_roundw
    case rel=>exact⟨i+1,by go_num,hlt,qh (HN.out.drewN 1)⟩
    case measure=>simp[intOf]<;>omega
   ·have hli:¬(i:Int)<(len:Int):=(by omega);have hie:i=len:=(by omega);have hpl:mid+len=t:=(by omega);rw[hie] at y2 HX;rw[hpl] at y2;obtain⟨⟨l0,l1,l2⟩,lf0,lf1,lf2⟩:=HX.out.lb.cells
    have hadd:∀W,Below wr.heap.size wr W→∃ao9 cap9 w9,(Builtin.append_ #[130,130] 130 #[.slice (some ⟨g,0,none⟩) nb cap,.slice (some ⟨W.heap.size,0,none⟩) 1 1]).run Tryz.prog (W.alloc (.cells #[.int .i64 (mid:Int),.int .i64 (t:Int),.int .i64 0] 150))= .ok (.slice ao9 (nb+1) cap9) w9∧w9.cell? ⟨U,2,none⟩=some (.slice (some ⟨g,0,none⟩) nb cap)∧w9.frozen? ⟨U,2,none⟩=false∧U<w9.heap.size ∧
      Hid (KI c w (w9.setCell ⟨U,2,none⟩ (.slice ao9 (nb+1) cap9)) U S P O cs n j Bs st pl ob (.returned (.tuple #[]))):=fun W hW=>by
     have hba:=zA W (.cells #[.int .i64 (mid:Int),.int .i64 (t:Int),.int .i64 0] 150);have hbx:=box3.new 150 W (.int .i64 (mid:Int)) (.int .i64 (t:Int)) (.int .i64 0);obtain⟨ao9,cap9,w9,r1,r2,r3,r4,c9,r5,r6⟩:=((y1.under hW).under hba).push (X:=W.heap.size) (b:=(mid,t,0)) (fun i u hu=>by
      obtain⟨⟨d0,d1,d2⟩,_⟩:=hbx.cells
      match i,hu with
      | 0,hu=>cases hu;exact d0
      | 1,hu=>cases hu;exact d1
      | 2,hu=>cases hu;exact d2) (by rw[List.length_set,HNB.out];have:=HP.out.few;rw[HNB.out] at this;omega)
     rw[List.length_set,HNB.out] at r1 r5 r6;rw[HBV.out,HNB.out] at r1 r2;have hw:=(hW.trans (hba.mono hW.size));obtain⟨z1,z2⟩:=HPN.out mid t f mid (by rw[hmid];exact .inr ⟨rfl,rfl,rfl,rfl⟩) obi (by rw[HNB.out];exact y2);exact⟨ao9,cap9,w9,r1,r2,r3,r4,qh ⟨rfl,c9,_,_,obi,(HX.out.sc.trans (StepC.below y1.fresh hw)).trans r5,r6,z1,z2⟩⟩
    have HADD:=qh hadd;have kb:=Below.refl wr.heap.size wr;have kd:=kb.drew;have nLU:LB≠U:=fun e=>by
     have h1:=HLB.out;rw[e,y1.cU] at h1;cases h1
    clear y1 y2 HX hadd hie;go_wp2
    obtain⟨ao9,cap9,w9,hrun,r2,r3,r4,HR⟩:=HADD.out _ kd;have hrun2:(Builtin.append_ #[130,130] 130 #[.slice (some ⟨g,0,none⟩) nb cap,.slice (some ⟨wr.heap.size,0,none⟩) 1 1]).run Tryz.prog ((wr.alloc (.cells #[.int .i64 (mid:Int),.int .i64 (t:Int),.int .i64 0] 150)).drew)= .ok (.slice ao9 (nb+1) cap9) w9:=hrun;clear hrun;refine wp_region_any (by kernel_rfl) ?_;(try (change wpAny _ _ _ _ _ _ _ (World.drew _)));refine tK 0 ⟨some 93,.move (.tmp 0),128,_,#[],none⟩ ?v1010 rfl (.inl ⟨by rfl,?h1010⟩) ?_;case h1010=>(intro w;go_simp;(try with_reducible rfl))
    (try simp only[Act.put,pA1,pA2,pA3]);refine tK 1 ⟨some 94,.move (.tmp 0),128,_,#[],none⟩ ?v1011 rfl (.inl ⟨by rfl,?h1011⟩) ?_;case h1011=>(intro w;go_simp;(try with_reducible rfl))
    (try simp only[Act.put,pA1,pA2,pA3]);refine tK 2 ⟨some 95,.nilCheck (.tmp 94),0,_,#[⟨1,.data⟩],none⟩ ?v1012 rfl (.inl ⟨by rfl,?h1012⟩) ?_;case h1012=>(intro w;go_simp;(try with_reducible rfl))
    (try simp only[Act.put,pA1,pA2,pA3]);refine tK 3 ⟨some 96,.fieldAddr 132 (.tmp 95) 2,0,_,#[⟨2,.data⟩],none⟩ ?v1013 rfl (.inl ⟨by rfl,?h1013⟩) ?_;case h1013=>(intro w;go_simp;(try with_reducible rfl))
    (try simp only[Act.put,pA1,pA2,pA3]);refine rD [4,5] (aC ⟨some 97,.load 130 (.tmp 96),130,_,eA35_0,none⟩ rfl (fun K hK=> ?_) (aC ⟨some 98,.load 150 (.tmp 6),150,_,#[],none⟩ rfl (fun K hK=> ?_) aN))
    ·skip;go_simp;refine hK _ _ ?_;clear hK K;(try simp only[Act.put,pA1,pA2,pA3]);refine rD [5] (aC ⟨some 98,.load 150 (.tmp 6),150,_,#[],none⟩ rfl (fun K hK=> ?_) aN);go_simp;refine hK _ _ ?_;clear hK K;(try simp only[Act.put,pA1,pA2,pA3]);refine rD [6] (aC ⟨some 99,.buildSlice 130 1 #[(0,.tmp 98)],130,_,XK,none⟩ rfl (fun K hK=> ?_) aN);go_simp;refine hK _ _ ?_;clear hK K;(try simp only[Act.put,pA1,pA2,pA3]);refine rD [7] (aC ⟨some 100,.call ⟨.builtin .append,#[.tmp 97,.tmp 99],#[130,130]⟩,130,_,XL,none⟩ rfl (fun K hK=> ?_) aN);refine xB (by rfl) (.tmp 97) (.tmp 99) 130 (by rfl) (by rfl) (by rfl) hrun2 ?_;refine hK _ _ ?_;clear hK K;(try simp only[Act.put,pA1,pA2,pA3]);refine tK 8 ⟨some 101,.nilCheck (.tmp 93),0,_,XM,none⟩ ?v1014 rfl (.inl ⟨by rfl,?h1014⟩) ?_;case h1014=>(intro w;go_simp;(try with_reducible rfl))
     (try simp only[Act.put,pA1,pA2,pA3]);refine tK 9 ⟨some 102,.fieldAddr 132 (.tmp 101) 2,0,_,XN,none⟩ ?v1015 rfl (.inl ⟨by rfl,?h1015⟩) ?_;case h1015=>(intro w;go_simp;(try with_reducible rfl))
     (try simp only[Act.put,pA1,pA2,pA3]);refine rD [10] (aC ⟨none,.store 130 (.tmp 102) (.tmp 100),0,_,XO,none⟩ rfl (fun K hK=> ?_) aN);go_simp;refine hK _ _ ?_;clear hK K;(try simp only[Act.put,pA1,pA2,pA3]);refine wpAny_done (by kernel_rfl) ?_ _;go_wp2
     go_end0
     exact HR.out
    ·skip;go_simp;refine hK _ _ ?_;clear hK K;(try simp only[Act.put,pA1,pA2,pA3]);refine rD [4,6] (aC ⟨some 97,.load 130 (.tmp 96),130,_,eA35_0,none⟩ rfl (fun K hK=> ?_) (aC ⟨some 99,.buildSlice 130 1 #[(0,.tmp 98)],130,_,XK,none⟩ rfl (fun K hK=> ?_) aN))
     ·skip;go_simp;refine hK _ _ ?_;clear hK K;(try simp only[Act.put,pA1,pA2,pA3]);refine rD [6] (aC ⟨some 99,.buildSlice 130 1 #[(0,.tmp 98)],130,_,XK,none⟩ rfl (fun K hK=> ?_) aN);go_simp;refine hK _ _ ?_;clear hK K;(try simp only[Act.put,pA1,pA2,pA3]);refine rD [7] (aC ⟨some 100,.call ⟨.builtin .append,#[.tmp 97,.tmp 99],#[130,130]⟩,130,_,XL,none⟩ rfl (fun K hK=> ?_) aN);refine xB (by rfl) (.tmp 97) (.tmp 99) 130 (by rfl) (by rfl) (by rfl) hrun2 ?_;refine hK _ _ ?_;clear hK K;(try simp only[Act.put,pA1,pA2,pA3]);refine tK 8 ⟨some 101,.nilCheck (.tmp 93),0,_,XM,none⟩ ?v1016 rfl (.inl ⟨by rfl,?h1016⟩) ?_;case h1016=>(intro w;go_simp;(try with_reducible rfl))
      (try simp only[Act.put,pA1,pA2,pA3]);refine tK 9 ⟨some 102,.fieldAddr 132 (.tmp 101) 2,0,_,XN,none⟩ ?v1017 rfl (.inl ⟨by rfl,?h1017⟩) ?_;case h1017=>(intro w;go_simp;(try with_reducible rfl))
      (try simp only[Act.put,pA1,pA2,pA3]);refine rD [10] (aC ⟨none,.store 130 (.tmp 102) (.tmp 100),0,_,XO,none⟩ rfl (fun K hK=> ?_) aN);go_simp;refine hK _ _ ?_;clear hK K;(try simp only[Act.put,pA1,pA2,pA3]);refine wpAny_done (by kernel_rfl) ?_ _;go_wp2
      go_end0
      exact HR.out
     ·skip;go_simp;refine hK _ _ ?_;clear hK K;(try simp only[Act.put,pA1,pA2,pA3]);refine rD [4] (aC ⟨some 97,.load 130 (.tmp 96),130,_,eA35_0,none⟩ rfl (fun K hK=> ?_) aN);go_simp;refine hK _ _ ?_;clear hK K;(try simp only[Act.put,pA1,pA2,pA3]);refine rD [7] (aC ⟨some 100,.call ⟨.builtin .append,#[.tmp 97,.tmp 99],#[130,130]⟩,130,_,XL,none⟩ rfl (fun K hK=> ?_) aN);refine xB (by rfl) (.tmp 97) (.tmp 99) 130 (by rfl) (by rfl) (by rfl) hrun2 ?_;refine hK _ _ ?_;clear hK K;(try simp only[Act.put,pA1,pA2,pA3]);refine tK 8 ⟨some 101,.nilCheck (.tmp 93),0,_,XM,none⟩ ?v1018 rfl (.inl ⟨by rfl,?h1018⟩) ?_;case h1018=>(intro w;go_simp;(try with_reducible rfl))
      (try simp only[Act.put,pA1,pA2,pA3]);refine tK 9 ⟨some 102,.fieldAddr 132 (.tmp 101) 2,0,_,XN,none⟩ ?v1019 rfl (.inl ⟨by rfl,?h1019⟩) ?_;case h1019=>(intro w;go_simp;(try with_reducible rfl))
      (try simp only[Act.put,pA1,pA2,pA3]);refine rD [10] (aC ⟨none,.store 130 (.tmp 102) (.tmp 100),0,_,XO,none⟩ rfl (fun K hK=> ?_) aN);go_simp;refine hK _ _ ?_;clear hK K;(try simp only[Act.put,pA1,pA2,pA3]);refine wpAny_done (by kernel_rfl) ?_ _;go_wp2
      go_end0
      exact HR.out
end
def zBM (f:Nat→Int) (a m:Nat):List Int:=(List.range m).map fun i=>f (a+i)
theorem QG (f:Nat→Int) (a m:Nat):(zBM f a m).length=m:=by unfold zBM;rw[List.length_map,List.length_range]
theorem zBN {f:Nat→Int} {a m j:Nat} (h:j<m):(zBM f a m)[j]? =some (f (a+j)):=by
 unfold zBM;rw[List.getElem?_map,List.getElem?_range h];rfl
theorem zEK {f:Nat→Int} {a m j:Nat} {x:Int} (h:(zBM f a m)[j]? =some x):j<m∧x=f (a+j):=by
 have hj:=(List.getElem?_eq_some_iff.1 h).1;rw[QG] at hj;rw[zBN hj] at h;exact⟨hj,(Option.some.inj h).symm⟩
theorem zEL {N:Nat} {w:World} {v:Value} {us:List Value} {T:TypeId} (h:w.ownsRow N T 1 v us.length us):jO (fun k=>N≤k) w v us.length us:=by
 obtain⟨hl,⟨rfl,h0⟩ | ⟨g,cap,cur,rfl,h3,hg,hn,_,_,hx⟩⟩:=h
 ·have:us= []:=List.eq_nil_of_length_eq_zero h0;subst this;exact jO.nil _ _
 ·refine⟨_,cap,rfl,hn,fun j u hu=>⟨g,0,rfl,h3,?_⟩⟩;rw[Nat.zero_add,cell_of_row _ _ _ cur T (0,0) hg];rw[←hx,List.getElem?_take] at hu;split at hu
  ·rw[←Array.getElem?_toList];exact hu
  ·cases hu
set_option maxRecDepth 100000 in
theorem pclone_any {w:World} {X n a m cs:Nat} {f:Nat→Int} (h:ArrF w X n f) (hm:a+m≤n) (hn:n≤100000):
  Calls Tryz.prog 75 #[.slice (some ⟨X,a,none⟩) m cs] w fun e w'=>∃v,e= .returned v∧yZ w.heap.size w' v (zBM f a m)∧Below w.heap.size w w':=by
 obtain⟨i0,hi,hz0,hz1,hz2⟩:=xJ Tryz.infoIntN;have he:∀w:World,(binOp .eql 39 (.slice (some ⟨X,a,none⟩) m cs) (.slice none 0 0)).run Tryz.prog w= .ok (.bool false) w:=fun _=>rfl;have HX:=Lib.hid h;have HI:=Lib.hid hi;have H0:=Lib.hid hz0;have H1:=Lib.hid hz1;have H2:=Lib.hid hz2;have HL:=Lib.hid (QG f a m);clear h hi hz0 hz1 hz2;go_enter Tryz.func75,Tryz.ntmps75;go_wp2_with (at_builtin;refine wpList_append_own _ rfl _ _ 39 rfl w.heap.size 3 i0 (.int .i64 0) 1 8 Tryz.underlying39 HI.out H0.out H1.out H2.out rfl (by decide) _ _ _ rfl (World.ownsRow_made w #[] 0 (Nat.le_refl _) (Nat.zero_le _) rfl) ⟨X,a,none⟩ m cs (xK (zBM f a m)) rfl ?qc1 ?qc2 ?qc3 ?qc4 ?qc5 ?qc6 ?_)
 case qc1=>rw[zP,HL.out,Nat.mul_one]
 case qc2=>
  intro j u hj;unfold xK at hj;rw[List.getElem?_map] at hj;cases hs:(zBM f a m)[j]? with
  | none=>rw[hs] at hj;cases hj
  | some x=>
   rw[hs] at hj;cases hj;obtain⟨h1,rfl⟩:=zEK hs;rw[Addr.add_lit];refine Lib.cell?_alloc_some _ ?_;exact HX.out.cell (by omega)
 case qc3=>
  intro u hu;obtain⟨x,_,rfl⟩:=List.mem_map.1 hu;rfl
 case qc4=>unfold maxLen;omega
 case qc5=>omega
 case qc6=>simp
 intro v' w1 hown hgrow hnil;have hF:Hid (yZ w.heap.size w1 v' (zBM f a m)∧Below w.heap.size w w1):=Lib.hid (by
  refine⟨⟨?_,by rw[HL.out];omega⟩,((Below.refl _ w).alloc (Nat.le_refl _) _).grown hgrow (by simp) (by intro k hk;simp[Value.ownBlock] at hk;omega)⟩;have:=zEL (us:=xK (zBM f a m)) (N:=w.heap.size) (w:=w1) (v:=v') (T:=3) (by
   rw[zP,HL.out]
   simpa using hown)
  rw[zP] at this;exact this)
 clear hown hgrow hnil;go_wp2
 go_ret
 exact⟨v',rfl,hF.out⟩
theorem x8 {w w':World} {v u v':Value} {ops:Array Oper} {rest:List Oper} {o:Oper} {a:Act} {Q:Exit→Act→World→Prop} (hgd:o.guard=none) (s x:Operand) (t:TypeId)
  (ho:o.op= .call ⟨ .builtin .append,#[s,x],#[t,t]⟩)
  (hs:a.eval s=v) (hx:a.eval x=u) (hr:(Builtin.append_ #[t,t] o.type #[v,u]).run Tryz.prog w= .ok v' w') (h:wpList Tryz.prog ops Q rest (a.put o.dst v') w'):wpList Tryz.prog ops Q (o::rest) a w:=by
 refine wpList_plain hgd fun K hK=> ?_;unfold Oper.wp execOp;simp only[ho,resolve,invoke,builtin,Sem.run_bind,Sem.run_pure,Result.andThen_ok,List.map_toArray,List.map_cons,List.map_nil,hs,hx,hr];exact hK _ _ h
theorem StepC.narrow3 {c c':Col} {w w':World} (h:StepC (fun a=>a=1∨a=3) c c' w w') (h3:∀k,k<w.heap.size→c k≠3):StepC (fun a=>a=1) c c' w w':=
 ⟨⟨h.keep.os,h.keep.tape,h.keep.output,h.keep.size,fun k hk hc=>h.keep.same k hk fun e=>e.elim hc (h3 k hk)⟩,h.same,h.fresh⟩
def kQ (l:List Nat):List Int:=l.map Int.ofNat
theorem xt (l:List Nat):(kQ l).length=l.length:=List.length_map _
theorem ZZ {l:List Nat} {i x:Nat} (h:l[i]? =some x):(kQ l)[i]? =some (x:Int):=by unfold kQ;rw[List.getElem?_map,h];rfl
theorem vI (l:List Nat) (x:Nat):xK (kQ (l++ [x]))=xK (kQ l)++ [.int .i64 (x:Int)]:=by unfold xK kQ;rw[List.map_append,List.map_append];rfl
structure vJ (c:Col) (w:World) (G n:Nat) (bk:Nat→Nat→List Nat):Prop where
 col:c G=0
 lt:G<w.heap.size
 cel:∀z b,z<n→b<256→∃u,w.cell? ⟨G,z*256+b,none⟩=some u∧yO c w u (xK (kQ (bk z b)))
section
variable {Q:Nat→Prop} {c c':Col} {w w':World} {U S P O cs n G:Nat} {bv:Value} {Bs:List Blk} {st pl ob:Nat→Nat} {bk:Nat→Nat→List Nat}
theorem vJ.step (h:vJ c w G n bk) (hs:StepC Q c c' w w') (h0:¬Q 0):vJ c' w' G n bk:=
 ⟨by rw[hs.same G h.lt];exact h.col,Nat.lt_of_lt_of_le h.lt hs.keep.size,fun z b hz hb=>by
  obtain⟨u,h1,h2⟩:=h.cel z b hz hb;exact⟨u,hs.keep.cell h1 (by rw[h.col];exact h0),h2.step hs h0⟩⟩
def PbI (c:Col) (w wr:World) (U S P O cs n G:Nat) (d:Dfa) (q0 K0:Nat) (ob0:Nat→Nat) (bk:Nat→Nat→List Nat) (v:Value) (ws:List Int) (B:Nat):Prop:=
 ∃c' bv' Bs' st' pl' ob',StepC (fun a=>a=1) c c' w wr∧PtC c' wr U S P O cs bv' n Bs' st' pl' ob'∧yx n Bs' st' pl' ob'∧(∀y,y<n→¬MkP Bs' pl' ob' y)∧zAJ d q0 K0 B ob0 ob'∧K0≤Bs'.length∧yO c' wr v (xK ws)∧vJ c' wr G n bk
def YU (c:Col) (w wr:World) (U S P O cs n G:Nat) (K0:Nat) (ob1:Nat→Nat) (bk:Nat→Nat→List Nat) (v:Value) (ws:List Int) (u:Value) (us:List Int) (M:Nat→Prop) (hv:Value):Prop:=
 ∃c' bv' Bs' st' pl' hs,StepC (fun a=>a=1) c c' w wr∧PtC c' wr U S P O cs bv' n Bs' st' pl' ob1∧MkI n M hs Bs' st' pl' ob1∧K0≤Bs'.length∧yO c' wr v (xK ws)∧vJ c' wr G n bk∧RowC c' 3 3 wr hv (xK (kQ hs))∧yO c' wr u (xK us)
def zIX (c:Col) (w wr:World) (U S P O cs n G:Nat) (K0 K1:Nat) (ob1:Nat→Nat) (bk:Nat→Nat→List Nat) (v:Value) (ws:List Int) (M:Nat→Prop) (hv:Value) (hs:List Nat) (k:Nat):Prop:=
 ∃c' bv' Bs' st' pl' ob',StepC (fun a=>a=1) c c' w wr∧PtC c' wr U S P O cs bv' n Bs' st' pl' ob'∧yx n Bs' st' pl' ob'∧yy n K1 M ob1 (fun j=>j∈hs.take k) Bs' pl' ob'∧K0≤K1∧yO c' wr v (xK ws)∧vJ c' wr G n bk∧RowC c' 3 3 wr hv (xK (kQ hs))
theorem jO.cellN {ok:Nat→Prop} {l:List Int} {g o m cap i k:Nat} {x:Int} (h:jO ok w (.slice (some ⟨g,o,none⟩) m cap) k (xK l)) (hi:l[i]? =some x):w.cell? ⟨g,o+i,none⟩=some (.int .i64 x):=by
 obtain⟨ao,cap',hv,_,hx⟩:=h;obtain⟨g',o',h1,_,h3⟩:=hx i _ (ZO hi);rw[h1] at hv;injection hv with e1
 injection e1 with e1
 injection e1 with e2 e3
 rw[e2,e3];exact h3
theorem jO.someN {ok:Nat→Prop} {l:List Int} {ao:Option Addr} {m cap i k:Nat} {x:Int} (h:jO ok w (.slice ao m cap) k (xK l)) (hi:l[i]? =some x):∃g o,ao=some ⟨g,o,none⟩:=by
 obtain⟨ao',cap',hv,_,hx⟩:=h;obtain⟨g',o',h1,_,h3⟩:=hx i _ (ZO hi);injection hv with e1
 exact⟨g',o',e1.trans h1⟩
theorem yO.form {v:Value} {l:List Int} (h:yO c w v (xK l)):∃ao cap,v= .slice ao l.length cap∧l.length≤cap:=by
 obtain⟨ao,cap,hv,hn,_⟩:=h;rw[zP] at hv hn;exact⟨ao,cap,hv,hn⟩
set_option maxRecDepth 8000 in
theorem zH2 {d:Dfa} {q0 gcap:Nat} (h:PtC c w U S P O cs bv n Bs st pl ob) (hp:yx n Bs st pl ob) (hno:∀y,y<n→¬MkP Bs pl ob y) (hd:OkD d) (hn:n=d.n+1) (hn2:n≤100000) (hb:vJ c w G n bk) (hbk:BkO d bk) (hq0:q0<Bs.length) (hc3:∀k,k<w.heap.size→c k≠3):
  Calls Tryz.prog 59 #[.pointer (some ⟨U,0,none⟩),.int .i64 (q0:Int),.slice (some ⟨G,0,none⟩) n gcap] w fun e w'=>e= .returned (.tuple #[])∧∃v ws,PbI c w w' U S P O cs n G d q0 Bs.length ob bk v ws 256:=by
 obtain⟨⟨f,t,m0⟩,hj⟩:∃b,Bs[q0]? =some b:=⟨_,List.getElem?_eq_getElem hq0⟩;obtain⟨b1,b2,b3,b4⟩:=hp.inb _ _ _ _ hj;obtain⟨x0,x1,x2,x3,x4,x5⟩:=h.boxed;obtain⟨g,cap,hbv,hcap,hg,⟨c0,c1,c2⟩,hgf,hset⟩:=h.g.at_ hj;dsimp only at c0 c1 c2;obtain⟨ml,hml⟩:∃ml,t-f=ml:=⟨_,rfl⟩;have HCL:=qh (fun W (hb:Below w.heap.size w W)=>pclone_any (X:=S) (n:=n) (a:=f) (m:=ml) (cs:=cs-f) (f:=jL st) (h.s.under hb) (by omega) hn2);have HCAP:=h.cap;have fb:(f:Int)≤100000:=by omega
 have tb:(t:Int)≤100000:=by omega
 have ft:(f:Int)≤(t:Int):=by omega
 have tc:(t:Int)≤(cs:Int):=by omega
 have tcn:t≤cs:=by omega
 have ftn:f≤t:=by omega
 obtain⟨nb,hnb⟩:∃nb,Bs.length=nb:=⟨_,rfl⟩;have HNB:=qh hnb;have HQ0:=qh hq0;rw[hbv,hnb] at x2;rw[hnb] at hcap hq0;have HP:=qh hp;have HX:=qh h;have HJ:=qh hj;have HBK:=qh (And.intro hb (And.intro hbk hno));have HML:=qh hml;have kb:=Below.refl w.heap.size w;have kd:=kb.drew;have HS:=qh (fun (W:World) (hb:Below w.heap.size w W)=>show W.cell? ⟨U,0,none⟩=some (.slice (some ⟨S,0,none⟩) n cs)∧W.cell? ⟨U,2,none⟩=some (.slice (some ⟨g,0,none⟩) nb cap)∧W.cell? ⟨g,q0*3,none⟩=some (.int .i64 (f:Int))∧W.cell? ⟨g,q0*3+1,none⟩=some (.int .i64 (t:Int)) from⟨(keep_below (fun _=>True) hb).cell x0 trivial,(keep_below (fun _=>True) hb).cell x2 trivial,(keep_below (fun _=>True) hb).cell c0 trivial,(keep_below (fun _=>True) hb).cell c1 trivial⟩);have hcf:cs≠f:=by omega
 have HN:=qh hn;have HD:=qh hd;have HC3:=qh hc3;clear h hp hj hset hgf hb hbk hno c2 b4 hbv hnb hn hd hc3;go_enter Tryz.func59,Tryz.ntmps59;go_wp2
 go_region_held3 (fun W=>W.cell? ⟨U,0,none⟩=some (.slice (some ⟨S,0,none⟩) n cs)∧W.cell? ⟨U,2,none⟩=some (.slice (some ⟨g,0,none⟩) nb cap)∧W.cell? ⟨g,q0*3,none⟩=some (.int .i64 (f:Int))∧W.cell? ⟨g,q0*3+1,none⟩=some (.int .i64 (t:Int))) (first | exact HS.out _ kd | exact HS.out _ kc) (first | (go_simp;go_at_call 75;refine (HCL.out _ kd).mono ?_;rintro e w2 ⟨v,rfl,hv,hb2⟩;have kc:=kd.trans (hb2.mono kd.size)))
 have kc':=kc;obtain⟨ws,hws⟩:∃ws,zBM (jL st) f ml=ws:=⟨_,rfl⟩;rw[hws] at hv;have hwl:ws.length=ml:=by rw[←hws];exact QG _ _ _
 obtain⟨wa,hwa⟩:∃wa:Nat→Nat,(fun i=>st (f+i))=wa:=⟨_,rfl⟩;have HW:Hid ((∀i,i<ml→ws[i]? =some ((wa i:Nat):Int)∧wa i≤d.n)∧(∀i k,i<ml→k<ml→wa i=wa k→i=k)∧∀z,z≤d.n→(ob z=q0↔∃i,i<ml∧z=wa i)):=qh (by
  have hn1:=HN.out;refine⟨fun i hi=>⟨?_,?_⟩,fun i k hi hk e=> ?_,fun z hz=> ?_⟩
  ·rw[←hws,zBN hi,←hwa];rfl
  ·rw[←hwa];have:=(HP.out.inv2 (f+i) (by omega)).1;show st (f+i)≤_;omega
  ·rw[←hwa] at e;have e':st (f+i)=st (f+k):=e;have h1:=(HP.out.inv2 (f+i) (by omega)).2;rw[e',(HP.out.inv2 (f+k) (by omega)).2] at h1;omega
  ·rw[HP.out.in_iff (by omega) HJ.out,←hwa];constructor
   ·intro e;refine⟨pl z-f,by omega,?_⟩;show z=st (f+(pl z-f));rw[show f+(pl z-f)=pl z by omega,(HP.out.inv1 z (by omega)).2]
   ·rintro⟨i,hi,rfl⟩;show f≤pl (st (f+i))∧pl (st (f+i))<t;rw[(HP.out.inv2 (f+i) (by omega)).2];omega)
 have hcel:yO c w2 v (xK ws):=by
  have:=hv.1;rw[←zP] at this;exact this.mono fun k _ hk=>HX.out.fresh k hk
 obtain⟨vo,vcap,hve,hvc⟩:=hcel.form;rw[hwl] at hve hvc;have h0m:0<ml:=by omega
 have h00:=(HW.out.1 0 h0m).1;have HWL:=qh hwl;have mlb:(ml:Int)≤100000:=by omega
 have H0:Hid (PbI c w w2 U S P O cs n G d q0 Bs.length ob bk v ws 0):=qh ⟨c,bv,Bs,st,pl,ob,StepC.below HX.out.fresh kc',HX.out.under kc',HP.out,HBK.out.2.2,Vp,Nat.le_refl _,hcel,HBK.out.1.step (StepC.below (S:=fun a=>a=1) HX.out.fresh kc') (by decide)⟩;subst hve;obtain⟨vg,vf,rfl⟩:=jO.someN hcel h00;have HBO:=qh HBK.out.2.1;have HKQ:Hid (0=0):=qh rfl;clear hv hb2 kc kc' hcel hws hwl h00 hwa x0 x1 x2 x3 x4 x5 hg c0 c1 HCL HS HBK HX HJ HML HP HQ0 fb tb ft tc tcn ftn b1 b2 b3 hml hcf kb kd HKQ;clear HNB hq0 hcap;go_wp2
 go_loopw [37] (fun s37 wr=>∃b:Nat,s37= .int .i64 (b:Int)∧b≤256∧Hid (PbI c w wr U S P O cs n G d q0 Bs.length ob bk (.slice (some ⟨vg,vf,none⟩) ml vcap) ws b)) (fun s37 _=>256-(intOf s37).toNat)
 case atStart=>exact⟨0,rfl,by decide,H0⟩
 case round=>
  clear H0;obtain⟨b,rfl,hb,HX1⟩:=hrel;rcases (show b=256∨b<256 by omega) with hb2 | hb2
  ·subst hb2;have hbi:¬((256:Nat):Int)<256:=(by omega);go_wp2
   go_end0
   exact⟨rfl,_,_,HX1.out⟩
  ·have hbi:(b:Int)<256:=(by omega);obtain⟨c1,bv1,Bs1,st1,pl1,ob1,y1,y2,y3,y4,y5,y6,y7,y8⟩:=HX1.out;have H1:Hid (YU c w wr U S P O cs n G Bs.length ob1 bk (.slice (some ⟨vg,vf,none⟩) ml vcap) ws (.slice (some ⟨vg,vf,none⟩) ml vcap) ws (MW d wa b 0 []) (.slice none 0 0)):=qh ⟨c1,bv1,Bs1,st1,pl1,[],y1,y2,(MkI.start y3 y4).congr fun y _=>⟨fun e=>e.elim,fun e=>e.elim (fun⟨k,h1,_⟩=>absurd h1 (Nat.not_lt_zero _)) fun e=>absurd e List.not_mem_nil⟩,y6,y7,y8,RowC.nil _ _ _ _,y7⟩;have HB1:=qh y5;clear y1 y2 y3 y4 y5 y6 y7 y8 HX1;go_wp2
   go_loopw [8,42] (fun s8 s42 wr=>∃i:Nat,s42= .int .i64 (i:Int)∧i≤ml∧Hid (YU c w wr U S P O cs n G Bs.length ob1 bk (.slice (some ⟨vg,vf,none⟩) ml vcap) ws (.slice (some ⟨vg,vf,none⟩) ml vcap) ws (MW d wa b i []) s8)) (fun _ s42 _=>ml-(intOf s42).toNat)
   case atStart=>exact⟨0,rfl,Nat.zero_le _,H1⟩
   case round=>
    clear H1;obtain⟨i,rfl,hi,HX2⟩:=hrel;have i0:(0:Int)≤(i:Int):=(by omega);by_cases hlt:i<ml
    ·have hli:(i:Int)<(ml:Int):=(by omega);obtain⟨hwi,hzd⟩:=HW.out.1 i hlt;obtain⟨z,hz⟩:∃z,wa i=z:=⟨_,rfl⟩;rw[hz] at hwi hzd;have hzn:z<n:=(by have:=HN.out;omega);have hL:∃lk,(bk z b).length=lk:=⟨_,rfl⟩;obtain⟨lk,hlk⟩:=hL;have H3:∃uo ucap,lk≤ucap∧wr.cell? ⟨vg,vf+i,none⟩=some (.int .i64 (z:Int))∧wr.cell? ⟨G,z*256+b,none⟩=some (.slice uo lk ucap)∧Hid (YU c w wr U S P O cs n G Bs.length ob1 bk (.slice (some ⟨vg,vf,none⟩) ml vcap) ws (.slice uo lk ucap) (kQ (bk z b)) (MW d wa b i ((bk z b).take 0)) u8):=by
      obtain⟨c2,bv2,Bs2,st2,pl2,hs2,z1,z2,z3,z4,z5,z6,z7,z8⟩:=HX2.out;obtain⟨u,hu1,hu2⟩:=z6.cel z b hzn hb2;obtain⟨uo,ucap,rfl,huc⟩:=hu2.form;rw[xt,hlk] at hu1 hu2 huc;exact⟨uo,ucap,huc,jO.cellN z5 hwi,hu1,qh ⟨c2,bv2,Bs2,st2,pl2,hs2,z1,z2,z3,z4,z5,z6,z7,hu2⟩⟩
     obtain⟨uo,ucap,huc,hx1,hx2,H3⟩:=H3;have lkb:lk≤n:=by
      have hnd:=HBO.out.nd z b hzd hb2;have:=pig lk n (fun k=>(bk z b).getD k 0) (fun k hk=> ?_) fun k1 k2 h12 hk e=> ?_
      ·exact this
      ·have hk2:k<(bk z b).length:=(by omega);have e1:(bk z b).getD k 0=(bk z b)[k]:=(by rw[List.getD_eq_getElem?_getD,List.getElem?_eq_getElem hk2];rfl);show (bk z b).getD k 0<n;rw[e1];have:=((HBO.out.mem z b _ hzd hb2).1 (List.getElem_mem hk2)).1;have:=HN.out;omega
      ·have hk2:k2<(bk z b).length:=(by omega);have hk1:k1<(bk z b).length:=(by omega);have e1:(bk z b).getD k1 0=(bk z b)[k1]:=(by rw[List.getD_eq_getElem?_getD,List.getElem?_eq_getElem hk1];rfl);have e2:(bk z b).getD k2 0=(bk z b)[k2]:=(by rw[List.getD_eq_getElem?_getD,List.getElem?_eq_getElem hk2];rfl);have e':(bk z b).getD k1 0=(bk z b).getD k2 0:=e;rw[e1,e2] at e';exact List.pairwise_iff_getElem.1 hnd k1 k2 hk1 hk2 h12 e'
     have lkb2:(lk:Int)≤100000:=(by omega);have HLK:=qh hlk;have HZ:=qh hz;clear HX2 hwi hz hlk lkb;go_wp2
     go_loopw [8,53] (fun s8 s53 wr=>∃k:Nat,s53= .int .i64 (k:Int)∧k≤lk∧Hid (YU c w wr U S P O cs n G Bs.length ob1 bk (.slice (some ⟨vg,vf,none⟩) ml vcap) ws (.slice uo lk ucap) (kQ (bk z b)) (MW d wa b i ((bk z b).take k)) s8)) (fun _ s53 _=>lk-(intOf s53).toNat)
     case atStart=>exact⟨0,rfl,Nat.zero_le _,H3⟩
     case round=>
      clear H3 hx1 hx2;obtain⟨k,rfl,hk,HX3⟩:=hrel;have k0:(0:Int)≤(k:Int):=(by omega);by_cases hltk:k<lk
      ·have hlki:(k:Int)<(lk:Int):=(by omega);obtain⟨c2,bv2,Bs2,st2,pl2,hs2,z1,z2,z3,z4,z5,z6,z7,z8⟩:=HX3.out;have hkl:k<(bk z b).length:=(by rw[HLK.out];exact hltk);have hxk:(bk z b)[k]? =some (bk z b)[k]:=List.getElem?_eq_getElem hkl;obtain⟨x,hx⟩:∃x,(bk z b)[k]=x:=⟨_,rfl⟩;rw[hx] at hxk;have hu:=ZZ hxk;obtain⟨ug,uf,rfl⟩:=jO.someN z8 hu;have hux:=jO.cellN z8 hu;have hMW:=zI6 (d:=d) (bk:=bk) (wa:=wa) (m:=ml) (i:=i) (k:=k) (x:=x) HBO.out (fun i hi=>(HW.out.1 i hi).2) HW.out.2.1 hb2 hlt (by rw[HZ.out];exact hxk);rw[HZ.out] at hMW;have hxn:x<n:=(by have:=HN.out;omega);obtain⟨f,t,m,hj,_⟩:=z3.par.blk x hxn;have hnm:¬MkP Bs2 pl2 ob1 x:=fun e=>hMW.2 ((z3.mrk x hxn).1 e);have HMK:=qh (zBL z2 z3.par hn2 hxn hj hnm);have HST:=qh (z3.step hxn hj hMW.2);have HMW:Hid (∀y,(MW d wa b i ((bk z b).take k) y∨y=x)↔MW d wa b i ((bk z b).take (k+1)) y):=qh fun y=>by
        have:=zGW (d:=d) (bk:=bk) (wa:=wa) (b:=b) (i:=i) (k:=k) (x:=x) y (by rw[HZ.out];exact hxk);rw[HZ.out] at this;exact this
       have HZZ:=qh (And.intro z1 (And.intro z4 (And.intro z5 (And.intro z6 (And.intro z7 z8)))));have HFW:=qh z3.few;clear z1 z2 z3 z4 z5 z6 z7 z8 HX3 hu hMW hnm hx hxk hkl;go_wp2_with fail
       go_fit HMK.out;rintro e w5 ⟨rfl,p1,p2⟩;by_cases hm0:m=0
       ·have hmd:decide (m=0)=true:=decide_eq_true hm0;rw[hmd];obtain⟨z1,z4,z5,z6,z7,z8⟩:=HZZ.out;obtain⟨x0,x1,x2,x3,x4,x5⟩:=p1.boxed;have o1:=p1.o.cell hxn;have lO:=p1.o.lt;obtain⟨j,hjj⟩:∃j,ob1 x=j:=⟨_,rfl⟩;have e1:jL ob1 x=(j:Int):=(by unfold jL;rw[hjj]);rw[e1] at o1;have r5:=z7.step p2 (by decide);have hba:=zA w5 (.cells #[.int .i64 (j:Int)] 3);have hX:(w5.alloc (.cells #[.int .i64 (j:Int)] 3)).cell? ⟨w5.heap.size,0,none⟩=some (.int .i64 (j:Int)):=(by rw[cell_of_row _ _ _ _ _ (0,0) (heap_alloc_new w5 _)];rfl);obtain⟨ao,cp,w6,c6,hrun,q1,q2⟩:=RowC.push (z:= .int .i64 0) (b:=8) (X:=w5.heap.size) (u:= .int .i64 (j:Int)) (p1.fresh.below hba) (r5.step (StepC.below (S:=fun _=>False) p1.fresh hba) (fun e=>e)) 39 39 Tryz.underlying39 Tryz.infoIntN rfl (by decide) hX rfl (by rw[zP,xt];have:=HFW.out;omega);have H6:Hid (YU c w w6 U S P O cs n G Bs.length ob1 bk (.slice (some ⟨vg,vf,none⟩) ml vcap) ws (.slice (some ⟨ug,uf,none⟩) lk ucap) (kQ (bk z b)) (MW d wa b i ((bk z b).take (k+1))) (.slice ao ((xK (kQ hs2)).length+1) cp)):=qh (by
         have hst:=HST.out;rw[if_pos hm0,hjj] at hst;have sQ:StepC (fun a=>a=3) c2 c6 w5 w6:=(StepC.below p1.fresh hba).trans q2;rw[←vI] at q1;have p1':=p1;rw[hjj] at p1';exact⟨c6,bv2,_,_,_,hs2++ [j],(((z1.trans p2).mono fun a e=> .inl e).trans (sQ.mono fun a e=> .inr e)).narrow3 HC3.out,p1'.step sQ (by decide),hst.congr fun y _=>HMW.out y,by rw[List.length_set];exact z4,(z5.step p2 (by decide)).step sQ (by decide),(z6.step p2 (by decide)).step sQ (by decide),q1,(z8.step p2 (by decide)).step sQ (by decide)⟩)
        clear HZZ HST HMK p1 p2 z1 z4 z5 z6 z7 z8 r5 hba hX q1 q2 hjj e1;go_wp2_with (at_builtin;refine x8 rfl (.tmp 60) (.tmp 68) 39 (by rfl) (by rfl) (by rfl) hrun ?_)
        go_roundw
        case rel=>exact⟨k+1,by go_num,by omega,H6⟩
        case measure=>simp[intOf]<;>omega
       ·have hmd:decide (m=0)=false:=decide_eq_false hm0;rw[hmd];have H5:Hid (YU c w w5 U S P O cs n G Bs.length ob1 bk (.slice (some ⟨vg,vf,none⟩) ml vcap) ws (.slice (some ⟨ug,uf,none⟩) lk ucap) (kQ (bk z b)) (MW d wa b i ((bk z b).take (k+1))) u8):=qh (by
         obtain⟨z1,z4,z5,z6,z7,z8⟩:=HZZ.out;have hst:=HST.out;rw[if_neg hm0] at hst;exact⟨c2,bv2,_,_,_,hs2,z1.trans p2,p1,hst.congr fun y _=>HMW.out y,by rw[List.length_set];exact z4,z5.step p2 (by decide),z6.step p2 (by decide),z7.step p2 (by decide),z8.step p2 (by decide)⟩)
        clear HZZ HST HMK p1 p2;go_wp2_with fail
        go_roundw
        case rel=>exact⟨k+1,by go_num,by omega,H5⟩
        case measure=>simp[intOf]<;>omega
      ·have hlki:¬(k:Int)<(lk:Int):=(by omega);have hkk:k=lk:=(by omega);have H5:Hid (YU c w wr U S P O cs n G Bs.length ob1 bk (.slice (some ⟨vg,vf,none⟩) ml vcap) ws (.slice (some ⟨vg,vf,none⟩) ml vcap) ws (MW d wa b (i+1) []) u8):=qh (by
        obtain⟨c2,bv2,Bs2,st2,pl2,hs2,z1,z2,z3,z4,z5,z6,z7,z8⟩:=HX3.out;refine⟨c2,bv2,Bs2,st2,pl2,hs2,z1,z2,z3.congr fun y hy=> ?_,z4,z5,z6,z7,z5⟩;have:=zI7 (d:=d) (bk:=bk) (wa:=wa) (m:=ml) (i:=i) HBO.out (fun i hi=>(HW.out.1 i hi).2) hb2 hlt (y:=y) (by have:=HN.out;omega);rw[HZ.out,HLK.out] at this;rw[hkk];exact this)
       clear HX3;go_wp2
       go_roundw
       case rel=>exact⟨i+1,by go_num,by omega,H5⟩
       case measure=>simp[intOf]<;>omega
    ·have hli:¬(i:Int)<(ml:Int):=(by omega);have hie:i=ml:=(by omega);obtain⟨c2,bv2,Bs2,st2,pl2,hs2,z1,z2,z3,z4,z5,z6,z7,z8⟩:=HX2.out;obtain⟨ho,hcap,rfl,hhc⟩:=z7.form;rw[zP,xt] at hhc;rw[zP,xt] at z7;obtain⟨hl,hhl⟩:∃hl,hs2.length=hl:=⟨_,rfl⟩;have hnl:((xK (kQ hs2)).length:Nat)=hl:=(by rw[zP,xt,hhl]);rw[hnl];rw[hhl] at hhc z7;have z9:MkI n (fun y=>ob (toN d y b)=q0) hs2 Bs2 st2 pl2 ob1:=z3.congr fun y _=>by
      rw[HW.out.2.2 _ (qZ HD.out y b),hie];exact⟨fun e=>e.elim id fun e=>absurd e List.not_mem_nil,.inl⟩
     have hlb:=z9.few;have hlb2:(hl:Int)≤100000:=(by omega);have H4:Hid (zIX c w wr U S P O cs n G Bs.length Bs2.length ob1 bk (.slice (some ⟨vg,vf,none⟩) ml vcap) ws (fun y=>ob (toN d y b)=q0) (.slice ho hl hcap) hs2 0):=qh ⟨c2,bv2,Bs2,st2,pl2,ob1,z1,z2,z3.par,zEA z9,z4,z5,z6,z7⟩;have HM:=qh z9;have HHL:=qh hhl;clear HX2 z1 z2 z3 z4 z5 z6 z7 z8 z9 hhl hnl hlb;go_wp2
     go_loopw [74] (fun s74 wr=>∃k:Nat,s74= .int .i64 (k:Int)∧k≤hl∧Hid (zIX c w wr U S P O cs n G Bs.length Bs2.length ob1 bk (.slice (some ⟨vg,vf,none⟩) ml vcap) ws (fun y=>ob (toN d y b)=q0) (.slice ho hl hcap) hs2 k)) (fun s74 _=>hl-(intOf s74).toNat)
     case atStart=>exact⟨0,rfl,Nat.zero_le _,H4⟩
     case round=>
      clear H4;obtain⟨k,rfl,hk,HX4⟩:=hrel;have k0:(0:Int)≤(k:Int):=(by omega);obtain⟨c3,bv3,Bs3,st3,pl3,ob3,g1,g2,g3,g4,g5,g6,g7,g8⟩:=HX4.out;by_cases hltk:k<hl
      ·have hlki:(k:Int)<(hl:Int):=(by omega);have hkl:k<hs2.length:=(by rw[HHL.out];exact hltk);have hjk:hs2[k]? =some hs2[k]:=List.getElem?_eq_getElem hkl;obtain⟨j,hj⟩:∃j,hs2[k]=j:=⟨_,rfl⟩;rw[hj] at hjk;obtain⟨hg,hf,rfl⟩:=jO.someN g8.rowZ (ZZ hjk);have hjc:=jO.cellN g8.rowZ (ZZ hjk);obtain⟨f,t,m,e1,e2,e3,e4⟩:=Vw HM.out hjk g4 g3;have HPT:Hid (Calls Tryz.prog 77 #[.pointer (some ⟨U,0,none⟩),.int .i64 (j:Int)] wr fun e w'=>KI c3 wr w' U S P O cs n j Bs3 st3 pl3 ob3 e):=qh (by
        rcases Nat.eq_or_lt_of_le e3 with h | h
        ·exact ppart_all g2 g3 hn2 e1 h
        ·exact ppart_new g2 g3 hn2 e1 e2 h)
       have HZZ:=qh (And.intro g1 (And.intro g5 (And.intro g6 (And.intro g7 (And.intro g8 e4)))));clear g1 g2 g3 g4 g5 g6 g7 g8 e1 e2 e3 e4 HX4 hjk hj hkl;go_wp2_with fail
       go_fit HPT.out;rintro e w7 ⟨rfl,c4,bv4,Bs4,ob4,q1,q2,q3,q4⟩;have H5:Hid (zIX c w w7 U S P O cs n G Bs.length Bs2.length ob1 bk (.slice (some ⟨vg,vf,none⟩) ml vcap) ws (fun y=>ob (toN d y b)=q0) (.slice (some ⟨hg,hf,none⟩) hl hcap) hs2 (k+1)):=qh (by
        obtain⟨g1,g5,g6,g7,g8,e4⟩:=HZZ.out;exact⟨c4,bv4,Bs4,st3,pl3,ob4,g1.trans q1,q2,q3,e4 _ _ q4,g5,g6.step q1 (by decide),g7.step q1 (by decide),g8.step q1 (by decide)⟩)
       clear HZZ HPT q1 q2 q3 q4;go_wp2_with fail
       go_roundw
       case rel=>exact⟨k+1,by go_num,by omega,H5⟩
       case measure=>simp[intOf]<;>omega
      ·have hlki:¬(k:Int)<(hl:Int):=(by omega);have hkk:k=hl:=(by omega);have H5:Hid (PbI c w wr U S P O cs n G d q0 Bs.length ob bk (.slice (some ⟨vg,vf,none⟩) ml vcap) ws (b+1)):=qh (by
        have hmo:=g4.more;rw[hkk,←HHL.out] at g4;obtain⟨r1,r2⟩:=Vx HM.out g4;rw[HN.out] at r1;exact⟨c3,bv3,Bs3,st3,pl3,ob3,g1,g2,g3,r2,zAK HB1.out r1 g5,Nat.le_trans g5 hmo,g6,g7⟩)
       clear HX4 g1 g2 g3 g4 g5 g6 g7 g8;go_wp2
       go_roundw
       case rel=>exact⟨b+1,by go_num,by omega,H5⟩
       case measure=>simp[intOf]<;>omega
end
def zEM (bk:Nat→Nat→List Nat) (z b:Nat) (l:List Nat):Nat→Nat→List Nat:=fun z' b'=>if z'=z∧b'=b then l else bk z' b'
def JZ (z b:Nat):Nat:=10+(z*256+b)
theorem zH3 {z b z' b':Nat} (hb:b<256) (hb':b'<256) (h:¬(z'=z∧b'=b)):JZ z' b'≠JZ z b:=by
 unfold JZ;omega
structure BkC (c:Col) (w:World) (G N:Nat) (bk:Nat→Nat→List Nat):Prop where
 col:c G=4
 cel:∃(cur:Array Value) (T:TypeId),w.heap[G]? =some (.cells cur T (0,0))∧∀z b,z<N→b<256→∃u,cur[z*256+b]? =some u∧RowC c (JZ z b) 3 w u (xK (kQ (bk z b)))
section
variable {Q:Nat→Prop} {c c':Col} {w w':World} {G N z b:Nat} {bk bk':Nat→Nat→List Nat} {v:Value} {l:List Nat}
theorem BkC.lt (h:BkC c w G N bk):G<w.heap.size:=by
 obtain⟨cur,T,h1,_⟩:=h.cel;exact (Array.getElem?_eq_some_iff.1 h1).1
theorem BkC.frozen (h:BkC c w G N bk) (i:Nat):w.frozen? ⟨G,i,none⟩=false:=by
 obtain⟨cur,T,h1,_⟩:=h.cel;exact frozen_of_row w G i cur _ h1
theorem BkC.at_ (h:BkC c w G N bk) (hz:z<N) (hb:b<256):∃u,w.cell? ⟨G,z*256+b,none⟩=some u∧RowC c (JZ z b) 3 w u (xK (kQ (bk z b))):=by
 obtain⟨cur,T,h1,h2⟩:=h.cel;obtain⟨u,h3,h4⟩:=h2 z b hz hb;exact⟨u,by rw[cell_of_row w G _ cur _ (0,0) h1];exact h3,h4⟩
theorem BkC.congr (h:BkC c w G N bk) (he:∀z b,z<N→b<256→bk z b=bk' z b):BkC c w G N bk':=by
 obtain⟨cur,T,h1,h2⟩:=h.cel;refine⟨h.col,cur,T,h1,fun z b hz hb=> ?_⟩;obtain⟨u,h3,h4⟩:=h2 z b hz hb;exact⟨u,h3,by rw[←he z b hz hb];exact h4⟩
theorem BkC.step (h:BkC c w G N bk) (hs:StepC Q c c' w w') (h4:¬Q 4) (hK:∀z b,¬Q (JZ z b)):BkC c' w' G N bk:=by
 have hl:=h.lt;obtain⟨cur,T,h1,h2⟩:=h.cel;refine⟨by rw[hs.same G hl];exact h.col,cur,T,(hs.keep.same G hl (by rw[h.col];exact h4)).trans h1,fun z b hz hb=> ?_⟩;obtain⟨u,h5,h6⟩:=h2 z b hz hb;exact⟨u,h5,h6.step hs (hK z b)⟩
theorem BkC.put (hf:xA c w) (h:BkC c w G N bk) (hb:b<256) (hv:RowC c (JZ z b) 3 w v (xK (kQ l))):
  StepC (fun a=>a=4) c c w (w.setCell ⟨G,z*256+b,none⟩ v)∧BkC c (w.setCell ⟨G,z*256+b,none⟩ v) G N (zEM bk z b l):=by
 have hs:StepC (fun a=>a=4) c c w (w.setCell ⟨G,z*256+b,none⟩ v):=by
  have:=zd (B:=G) (i:=z*256+b) (y:=v) hf
  rwa [h.col] at this
 have hk:∀z b,¬JZ z b=4:=fun z b=>by unfold JZ;omega
 refine⟨hs,h.col,?_⟩;obtain⟨cur,T,h1,h2⟩:=h.cel;refine⟨cur.setIfInBounds (z*256+b) v,T,heap_setCell_same w G _ cur _ _ h1,fun z' b' hz' hb'=> ?_⟩;obtain⟨u,h5,h6⟩:=h2 z' b' hz' hb';have hlt:=(Array.getElem?_eq_some_iff.1 h5).1;unfold zEM;rw[Array.getElem?_setIfInBounds];by_cases e:z'=z∧b'=b
 ·obtain⟨rfl,rfl⟩:=e;rw[if_pos rfl,if_pos hlt,if_pos ⟨rfl,rfl⟩];exact⟨v,rfl,hv.step hs (hk _ _)⟩
 ·rw[if_neg (fun q=>e (by omega)),if_neg e];exact⟨u,h5,h6.step hs (hk _ _)⟩
theorem BkC.one (hf:xA c w) (h:BkC c w G N bk) (hb:b<256) (x:Nat):
  ∃c',StepC (fun a=>a=4) c c' w ((w.alloc (.cells #[.int .i64 (x:Int)] 3)).setCell ⟨G,z*256+b,none⟩ (.slice (some ⟨w.heap.size,0,none⟩) 1 1))∧BkC c' ((w.alloc (.cells #[.int .i64 (x:Int)] 3)).setCell ⟨G,z*256+b,none⟩ (.slice (some ⟨w.heap.size,0,none⟩) 1 1)) G N (zEM bk z b [x]):=by
 have s1:StepC (fun a=>a=4) c (colAt c (JZ z b) w.heap.size) w (w.alloc (.cells #[.int .i64 (x:Int)] 3)):=StepC.colAt hf _;have s0:StepC (fun _=>False) c (colAt c (JZ z b) w.heap.size) w (w.alloc (.cells #[.int .i64 (x:Int)] 3)):=StepC.colAt hf _;have h1:=h.step s0 (fun e=>e) (fun _ _ e=>e);obtain⟨s2,h2⟩:=h1.put (z:=z) (b:=b) (l:= [x]) s1.fresh hb (RowC.one (c:=c) (w:=w) (A:=JZ z b) (T:=3) (u:= .int .i64 (x:Int)));exact⟨_,s1.trans s2,h2⟩
theorem BkC.push (hf:xA c w) (h:BkC c w G N bk) (hz:z<N) (hb:b<256) (k:Nat) (hl:(bk z b).length≤100000):
  ∃ao0 cap0,w.cell? ⟨G,z*256+b,none⟩=some (.slice ao0 (bk z b).length cap0)∧∃ao cap w2,(Builtin.append_ #[39,39] 39 #[.slice ao0 (bk z b).length cap0,.slice (some ⟨w.heap.size,0,none⟩) 1 1]).run Tryz.prog (w.alloc (.cells #[.int .i64 (k:Int)] 3))= .ok (.slice ao ((bk z b).length+1) cap) w2 ∧
   w2.frozen? ⟨G,z*256+b,none⟩=false∧G<w2.heap.size∧w2.cell? ⟨G,z*256+b,none⟩=some (.slice ao0 (bk z b).length cap0) ∧
   ∃c',StepC (fun a=>4≤a∧a≠5) c c' w (w2.setCell ⟨G,z*256+b,none⟩ (.slice ao ((bk z b).length+1) cap))∧BkC c' (w2.setCell ⟨G,z*256+b,none⟩ (.slice ao ((bk z b).length+1) cap)) G N (zEM bk z b (bk z b++ [k])):=by
 obtain⟨u,hu,hr⟩:=h.at_ hz hb;have hlen:(xK (kQ (bk z b))).length=(bk z b).length:=by rw[zP,xt]
 obtain⟨ao0,cap0,rfl,_⟩:=hr.form;rw[hlen] at hu;obtain⟨ao,cap,w2,c2,h1,h2,h3⟩:=RowC.pushA (z:= .int .i64 0) (b:=8) (u:= .int .i64 (k:Int)) hf hr 39 39 Tryz.underlying39 Tryz.infoIntN rfl (by decide) rfl (by rw[hlen];exact hl);rw[hlen] at h1 h2;rw[←vI] at h2;have hG:=h.lt;obtain⟨cur,T,e1,e2⟩:=h.cel;have hG2:w2.heap[G]? =some (.cells cur T (0,0)):=(h3.keep.same G hG (by rw[h.col];unfold JZ;omega)).trans e1;have cG2:c2 G=4:=by rw[h3.same G hG];exact h.col
 have hs2:StepC (fun a=>a=4) c2 c2 w2 (w2.setCell ⟨G,z*256+b,none⟩ (.slice ao ((bk z b).length+1) cap)):=by
  have:=zd (B:=G) (i:=z*256+b) (y:= .slice ao ((bk z b).length+1) cap) h3.fresh
  rwa [cG2] at this
 have hk:∀z b,¬JZ z b=4:=fun z b=>by unfold JZ;omega
 obtain⟨u0,hu0,hr0⟩:=e2 z b hz hb;refine⟨ao0,cap0,hu,ao,cap,w2,h1,frozen_of_row w2 G _ cur _ hG2,(Array.getElem?_eq_some_iff.1 hG2).1,?_,c2,(h3.mono fun a e=>by subst e;unfold JZ;omega).trans (hs2.mono fun a e=>by subst e;omega),cG2,cur.setIfInBounds (z*256+b) (.slice ao ((bk z b).length+1) cap),T,heap_setCell_same w2 G _ cur _ _ hG2,fun z' b' hz' hb'=> ?_⟩
 ·rw[cell_of_row w2 G _ cur _ (0,0) hG2];rw[cell_of_row w G _ cur _ (0,0) e1] at hu;exact hu
 obtain⟨u,h5,h6⟩:=e2 z' b' hz' hb';have hlt:=(Array.getElem?_eq_some_iff.1 h5).1;unfold zEM;rw[Array.getElem?_setIfInBounds];by_cases e:z'=z∧b'=b
 ·obtain⟨rfl,rfl⟩:=e;rw[if_pos rfl,if_pos hlt,if_pos ⟨rfl,rfl⟩];exact⟨_,rfl,h2.step hs2 (hk _ _)⟩
 ·rw[if_neg (fun q=>e (by omega)),if_neg e];exact⟨u,h5,(h6.step h3 (zH3 hb hb' e)).step hs2 (hk _ _)⟩
theorem BkC.done (h:BkC c w G N bk):vJ (fun _=>0) w G N bk:=by
 refine⟨rfl,h.lt,fun z b hz hb=> ?_⟩;obtain⟨u,h1,h2⟩:=h.at_ hz hb;exact⟨u,h1,h2.rowZ.mono fun _ _ _=>rfl⟩
end
def vm:List Value:=List.replicate 256 (.slice none 0 0)
theorem Tryz.infoWays:(Tryz.prog.info? 127).map (fun i=>(i.zero,i.size,i.bytes))=some (some (.agg vm.toArray),256,6144):=by kernel_rfl
theorem zBO (n:Nat) (hn:n≤1000000) (w:World):(Instr.makeSlice 39 (.int .i64 (n:Int)) (.int .i64 (n:Int))).run Tryz.prog w= .ok (.slice (some ⟨w.heap.size,0,none⟩) n n) (w.alloc (.cells (Array.replicate n (Value.int .i64 0)) 3)):=by
 have h:=run_make_row' (P:=Tryz.prog) 39 3 (.int .i64 0) 8 Tryz.underlying39 Tryz.infoIntN rfl .i64 .i64 n (by omega) (by omega) w;have e:madeCells #[Value.int .i64 0] n=Array.replicate n (Value.int .i64 0):=by
  apply Array.ext';rw[toList_madeCells_one,Array.toList_replicate]
 rw[←e];exact h
theorem ArrF.new (w:World) (n:Nat):ArrF (w.alloc (.cells (Array.replicate n (Value.int .i64 0)) 3)) w.heap.size n (jL fun _=>0):=
 ⟨_,heap_alloc_new w _,by rw[Array.size_replicate];exact Nat.le_refl _,fun i hi=>by rw[Array.getElem?_replicate,if_pos hi];rfl⟩
structure Jf (c:Col) (w:World) (U P O n k:Nat) (sv:Value):Prop where
 box:w.heap[U]? =some (.cells #[sv,.slice (some ⟨P,0,none⟩) n n,.slice none 0 0,.slice (some ⟨O,0,none⟩) n n] 132 (0,0))
 cU:c U=1
 cP:c P=1
 cO:c O=1
 p:ArrF w P n (jL fun _=>0)
 o:ArrF w O n (jL fun _=>0)
 s:RowC c 3 3 w sv (xK (kQ (List.range k)))
 up:U≠P
 uo:U≠O
 po:P≠O
 fresh:xA c w
section
variable {Q:Nat→Prop} {c c':Col} {w w':World} {U P O n k:Nat} {sv:Value}
theorem Jf.lt (h:Jf c w U P O n k sv):U<w.heap.size:=(Array.getElem?_eq_some_iff.1 h.box).1
theorem Jf.cells (h:Jf c w U P O n k sv):w.cell? ⟨U,0,none⟩=some sv∧w.frozen? ⟨U,0,none⟩=false:=by
 refine⟨?_,frozen_of_row w U 0 _ _ h.box⟩;rw[cell_of_row w U _ _ _ (0,0) h.box];rfl
theorem Jf.step (h:Jf c w U P O n k sv) (hs:StepC Q c c' w w') (h1:¬Q 1) (h3:¬Q 3):Jf c' w' U P O n k sv:=
 ⟨(hs.keep.same U h.lt (by rw[h.cU];exact h1)).trans h.box,by rw[hs.same _ h.lt];exact h.cU,by rw[hs.same _ h.p.lt];exact h.cP,by rw[hs.same _ h.o.lt];exact h.cO,h.p.keep hs.keep (by rw[h.cP];exact h1),h.o.keep hs.keep (by rw[h.cO];exact h1),h.s.step hs h3,h.up,h.uo,h.po,hs.fresh⟩
theorem J0 {W:World} {RB:Nat} (hf:xA c W) (hsz:W.heap.size=RB+1) (hPO:(P=RB+1∧O=RB+1+1)∨(P=RB+1+1∧O=RB+1)):
  ∃c',StepC Q c c' W (((W.alloc (.cells (Array.replicate n (Value.int .i64 0)) 3)).alloc (.cells (Array.replicate n (Value.int .i64 0)) 3)).alloc (.cells #[.slice none 0 0,.slice (some ⟨P,0,none⟩) n n,.slice none 0 0,.slice (some ⟨O,0,none⟩) n n] 132)).drew ∧
   Jf c' (((W.alloc (.cells (Array.replicate n (Value.int .i64 0)) 3)).alloc (.cells (Array.replicate n (Value.int .i64 0)) 3)).alloc (.cells #[.slice none 0 0,.slice (some ⟨P,0,none⟩) n n,.slice none 0 0,.slice (some ⟨O,0,none⟩) n n] 132)).drew (RB+1+1+1) P O n 0 (.slice none 0 0):=by
 have a1:=ArrF.new W n;have s1:=StepC.colAt (S:=Q) (A:=1) hf (.cells (Array.replicate n (Value.int .i64 0)) 3);have z1:=zC W (.cells (Array.replicate n (Value.int .i64 0)) 3);have b1:=zA W (.cells (Array.replicate n (Value.int .i64 0)) 3);rw[hsz] at a1 s1 z1;obtain⟨W1,hW1⟩:∃W1,W.alloc (.cells (Array.replicate n (Value.int .i64 0)) 3)=W1:=⟨_,rfl⟩;rw[hW1] at a1 s1 z1 b1 ⊢;have a2:=ArrF.new W1 n;have s2:=StepC.colAt (S:=Q) (A:=1) s1.fresh (.cells (Array.replicate n (Value.int .i64 0)) 3);have z2:=zC W1 (.cells (Array.replicate n (Value.int .i64 0)) 3);have b2:=zA W1 (.cells (Array.replicate n (Value.int .i64 0)) 3);rw[z1] at a2 s2 z2;obtain⟨W2,hW2⟩:∃W2,W1.alloc (.cells (Array.replicate n (Value.int .i64 0)) 3)=W2:=⟨_,rfl⟩;rw[hW2] at a2 s2 z2 b2 ⊢;have a1':=a1.under b2;have s3:=StepC.colAt (S:=Q) (A:=1) s2.fresh (.cells #[.slice none 0 0,.slice (some ⟨P,0,none⟩) n n,.slice none 0 0,.slice (some ⟨O,0,none⟩) n n] 132);have h3:=heap_alloc_new W2 (.cells #[.slice none 0 0,.slice (some ⟨P,0,none⟩) n n,.slice none 0 0,.slice (some ⟨O,0,none⟩) n n] 132);have b3:=zA W2 (.cells #[.slice none 0 0,.slice (some ⟨P,0,none⟩) n n,.slice none 0 0,.slice (some ⟨O,0,none⟩) n n] 132);rw[z2] at s3 h3;have kd:=zN (fun _=>True) (W2.alloc (.cells #[.slice none 0 0,.slice (some ⟨P,0,none⟩) n n,.slice none 0 0,.slice (some ⟨O,0,none⟩) n n] 132)) 1;have hc1:colAt (colAt (colAt c 1 (RB+1)) 1 (RB+1+1)) 1 (RB+1+1+1) (RB+1)=1:=by
  rw[x9 (by omega),x9 (by omega)];exact if_pos rfl
 have hc2:colAt (colAt (colAt c 1 (RB+1)) 1 (RB+1+1)) 1 (RB+1+1+1) (RB+1+1)=1:=by
  rw[x9 (by omega)];exact if_pos rfl
 have k1:=(a1'.under b3).keep kd trivial;have k2:=(a2.under b3).keep kd trivial;refine⟨_,(s1.trans s2).trans (s3.trans ⟨zN _ _ 1,fun _ _=>rfl,s3.fresh⟩),h3,if_pos rfl,?_,?_,?_,?_,RowC.nil _ _ _ _,?_,?_,?_,s3.fresh⟩
 ·rcases hPO with ⟨rfl,rfl⟩ | ⟨rfl,rfl⟩
  ·exact hc1
  ·exact hc2
 ·rcases hPO with ⟨rfl,rfl⟩ | ⟨rfl,rfl⟩
  ·exact hc2
  ·exact hc1
 ·rcases hPO with ⟨rfl,rfl⟩ | ⟨rfl,rfl⟩
  ·exact k1
  ·exact k2
 ·rcases hPO with ⟨rfl,rfl⟩ | ⟨rfl,rfl⟩
  ·exact k2
  ·exact k1
 ·omega
 ·omega
 ·omega
theorem Jf.push (h:Jf c w U P O n k sv) (hk:k≤100000):
  ∃ao cap w2,(Builtin.append_ #[39,39] 39 #[sv,.slice (some ⟨w.heap.size,0,none⟩) 1 1]).run Tryz.prog (w.alloc (.cells #[.int .i64 (k:Int)] 3))= .ok (.slice ao (k+1) cap) w2∧w2.cell? ⟨U,0,none⟩=some sv∧w2.frozen? ⟨U,0,none⟩=false∧U<w2.heap.size ∧
   Hid (∃c',StepC (fun a=>a=1∨a=3) c c' w (w2.setCell ⟨U,0,none⟩ (.slice ao (k+1) cap))∧Jf c' (w2.setCell ⟨U,0,none⟩ (.slice ao (k+1) cap)) U P O n (k+1) (.slice ao (k+1) cap)):=by
 have hba:=zA w (.cells #[.int .i64 (k:Int)] 3);have hX:(w.alloc (.cells #[.int .i64 (k:Int)] 3)).cell? ⟨w.heap.size,0,none⟩=some (.int .i64 (k:Int)):=by rw[cell_of_row _ _ _ _ _ (0,0) (heap_alloc_new w _)];rfl
 have sA:StepC (fun _=>False) c c w (w.alloc (.cells #[.int .i64 (k:Int)] 3)):=StepC.below h.fresh hba;have hA:=h.step sA (fun e=>e) (fun e=>e);have hlen:(xK (kQ (List.range k))).length=k:=by rw[zP,xt,List.length_range]
 obtain⟨ao,cap,w2,c2,hrun,q1,q2⟩:=RowC.push (z:= .int .i64 0) (b:=8) (X:=w.heap.size) (u:= .int .i64 (k:Int)) hA.fresh hA.s 39 39 Tryz.underlying39 Tryz.infoIntN rfl (by decide) hX rfl (by rw[hlen];exact hk);rw[hlen] at hrun q1;have hU2:=(q2.keep.same U hA.lt (by rw[hA.cU];decide)).trans hA.box;have cU2:c2 U=1:=by rw[q2.same _ hA.lt];exact hA.cU
 have hk3:=zE (ok:=fun k=>k≠U) U 0 none (.slice ao (k+1) cap) w2 fun h=>h rfl;have hp2:=hA.p.keep q2.keep (by rw[hA.cP];decide);have ho2:=hA.o.keep q2.keep (by rw[hA.cO];decide);have s3:StepC (fun a=>a=1) c2 c2 w2 (w2.setCell ⟨U,0,none⟩ (.slice ao (k+1) cap)):=xD q2.fresh cU2;refine⟨ao,cap,w2,hrun,by rw[cell_of_row w2 U _ _ _ (0,0) hU2];rfl,frozen_of_row w2 U 0 _ _ hU2,(Array.getElem?_eq_some_iff.1 hU2).1,Lib.hid ⟨c2,((sA.mono fun a e=>e.elim).trans (q2.mono fun a e=> .inr e)).trans (s3.mono fun a e=> .inl e),?_⟩⟩;refine⟨by rw[heap_setCell_same w2 U 0 _ _ _ hU2];rfl,cU2,by rw[q2.same _ hA.p.lt];exact hA.cP,by rw[q2.same _ hA.o.lt];exact hA.cO,hp2.keep hk3 (Ne.symm h.up),ho2.keep hk3 (Ne.symm h.uo),?_,h.up,h.uo,h.po,s3.fresh⟩;rw[List.range_succ,vI];exact q1.step s3 (by decide)
theorem Jf.all (h:Jf c w U P O n n sv) (h0:0<n):∃S cap,sv= .slice (some ⟨S,0,none⟩) n cap∧c S=3∧PtC (colAt c 1 S) w U S P O cap (.slice none 0 0) n [] (fun i=>i) (fun _=>0) (fun _=>0):=by
 have hlen:(xK (kQ (List.range n))).length=n:=by rw[zP,xt,List.length_range]
 have hown:=h.s.own;rw[hlen] at hown;obtain⟨hl,⟨rfl,h1⟩ | ⟨S,cap,cur,rfl,h3,hg,hn,hsz,hfz,hx⟩⟩:=hown
 ·omega
 have cS:c S=3:=h.s.col S rfl;have ne:∀B,c B=1→B≠S:=fun B hB e=>by rw[e,cS] at hB;cases hB
 have co:∀B,c B=1→colAt c 1 S B=1:=fun B hB=>(if_neg (ne B hB)).trans hB;have hS:ArrF w S n (jL fun i=>i):=⟨cur,hg,by omega,fun i hi=>by
  have e1:(xK (kQ (List.range n)))[i]? =some (.int .i64 (i:Int)):=ZO (ZZ (List.getElem?_range hi));rw[←hx,List.getElem?_take] at e1;split at e1
  ·rw[←Array.getElem?_toList];exact e1
  ·cases e1⟩
 refine⟨S,cap,rfl,cS,⟨h.box,co U h.cU,if_pos rfl,co P h.cP,co O h.cO,hS,h.p,h.o,⟨World.ownsRow_nil _ _ _ _,fun k e=>(by cases e)⟩,hn,ne U h.cU,h.up,h.uo,Ne.symm (ne P h.cP),Ne.symm (ne O h.cO),h.po,fun e=>(by cases e),fun e=>(by cases e),fun e=>(by cases e),fun e=>(by cases e),fun k hk=> ?_⟩⟩;show (if k=S then 1 else c k)=0;rw[if_neg (by have:=hS.lt;omega)];exact h.fresh k hk
structure BxC (c:Col) (w:World) (RB RU n:Nat) (ru:Nat→Int):Prop where
 box:w.cell? ⟨RB,0,none⟩=some (.slice (some ⟨RU,0,none⟩) n n)
 row:ArrF w RU n ru
 c1:c RB=0
 c2:c RU=0
theorem BxC.step {RB RU:Nat} {ru:Nat→Int} (h:BxC c w RB RU n ru) (hs:StepC Q c c' w w') (h0:¬Q 0):BxC c' w' RB RU n ru:=
 ⟨hs.keep.cell h.box (by rw[h.c1];exact h0),h.row.keep hs.keep (by rw[h.c2];exact h0),by rw[hs.same _ (rlt h.box)];exact h.c1,by rw[hs.same _ h.row.lt];exact h.c2⟩
theorem PtC.resort {S cs:Nat} {bv:Value} {Bs:List Blk} {st st' pl ob:Nat→Nat} (h:PtC c w U S P O cs bv n Bs st pl ob) (hk:KeepW (fun k=>k≠S) w w') (hs:ArrF w' S n (jL st')):PtC c w' U S P O cs bv n Bs st' pl ob:=
 ⟨(hk.same U h.boxed.2.2.2.2.1 h.us).trans h.box,h.cU,h.cS,h.cP,h.cO,hs,h.p.keep hk (Ne.symm h.sp),h.o.keep hk (Ne.symm h.so),h.g.keep hk fun k e ek=>h.gs (by rw[←ek];exact e),h.cap,h.us,h.up,h.uo,h.sp,h.so,h.po,h.gu,h.gs,h.gp,h.go,fun k hk2=>h.fresh k (Nat.le_trans hk.size hk2)⟩
theorem zEN {g:Nat→Int} (h:PermB 0 n (jL fun i=>i) g):∃st:Nat→Nat,(∀i,g i=(st i:Int))∧(∀i,i<n→st i<n)∧(∀i j,i<n→j<n→st i=st j→i=j)∧∀x,x<n→∃i,i<n∧st i=x:=by
 obtain⟨s,t,h1,h2,h3,h4,h5⟩:=h;refine⟨s,fun i=>h5 i,fun i hi=>(h4 i (Nat.zero_le _) hi).2,fun i j _ _ e=>by rw[←h2 i,e,h2],fun x hx=>⟨t x,?_,h1 x⟩⟩;by_cases c:t x<n
 ·exact c
 ·have:=h3 (t x) (.inr (by omega));rw[h1] at this;omega
end
section
variable {c:Col} {w:World} {M mb:Nat} {nv lv v:Value} {xs:List (List Int)} {us:List Value} {l:List Int}
def zJ5 (c:Col) (w w':World) (M:Nat) (nv:Value) (xs:List (List Int)) (mb:Nat) (l:List Int) (e:Ending):Prop:=
 e= .returned (.int .i64 (zEI xs l))∧∃c' lv' us',StepC (fun a=>a=1) c c' w w'∧MkC c' w' M nv (QS xs l) lv' mb us'
set_option maxRecDepth 8000 in
theorem VQ (h:MkC c w M nv xs lv mb us) (hp:zC2 w) (hl:yO c w v (xK l)) (hll:l.length≤100000) (hn:KH l) (hx:∀x,x∈xs→KH x) (hxs:xs.length≤100000):
  Calls Tryz.prog 45 #[.pointer (some ⟨M,0,none⟩),v] w fun e w'=>zJ5 c w w' M nv xs mb l e:=by
 have hI:=QE hl (by omega);obtain⟨ao,cap,rfl,hcap⟩:=hI.form;by_cases h0:l= []
 ·have HF:Hid (zJ5 c w w M nv xs mb l (.returned (.int .i64 (-1)))):=qh (by
   subst h0;exact⟨rfl,c,lv,us,StepC.below h.fresh (Below.refl _ _),h⟩)
  have hz:l.length=0:=by rw[h0];rfl
  rw[hz];clear h hl hn hx hI h0 hz hcap;go_enter Tryz.func45,Tryz.ntmps45;go_wp2_with fail
  go_ret
  exact HF.out
 have hpos:0<l.length:=List.length_pos_iff.2 h0;have hnil:Z5 l=false:=by
  unfold Z5;cases l with
  | nil=>exact absurd rfl h0
  | cons a l=>rfl
 have HT:=qh (zC6 hI hp hn hll);have HM:=qh h;have hidx:=zEJ hx hn (j:=0);have hlow:=yj (same:=xg) (y:=l) xs 0;have hb3:=h.box.lt;obtain⟨lo,lc,hlv,hlc⟩:=h.row.form;obtain⟨n,hnl⟩:∃n,l.length=n:=⟨_,rfl⟩;obtain⟨k,hk⟩:∃k,xH xg xs l 0=k:=⟨_,rfl⟩;rw[hk] at hidx hlow;by_cases hf:k<0
 ·rw[if_pos hf] at hidx;have HF:Hid (zEI xs l=(xs.length:Int)∧QS xs l=xs++ [l]):=qh (by
   unfold zEI QS;rw[hk,if_neg (by rw[hnil];decide),if_pos hf,if_neg (by rw[hnil];decide),if_pos hf];exact⟨rfl,rfl⟩)
  have HP:=qh (fun (W:World) (hb:Below w.heap.size w W)=>(h.under hb).push (hl.step (S:=fun _=>False) (StepC.below h.fresh hb) (fun e=>e)) (by omega) hidx (by rw[h.el.1];exact hxs) rfl);have HL:=qh (fun (W:World) (hb:Below w.heap.size w W)=>zG5 (h.under hb).map hidx);have HC:=qh (fun (W:World) (hb:Below w.heap.size w W)=>(h.under hb).box);have HS:=qh (fun (W:World) (hb:Below w.heap.size w W)=>StepC.below (S:=fun a=>a=1) h.fresh hb);have hel:=h.el.1;obtain⟨s,hs⟩:∃s,txK l=s:=⟨_,rfl⟩;obtain⟨m,hm⟩:∃m,xs.length=m:=⟨_,rfl⟩;have e1:(⟨(yW l).toArray⟩:ByteArray)=s:=hs;rw[hs] at HL HP;rw[e1] at HT;rw[hel,hm] at HP hlc hlv;rw[hm] at HF;rw[hnl] at hpos hcap HT HP ⊢;have hmm:(m:Int)≤100000:=by omega
  have hni:((n:Int)==0)=false:=beq_eq_false_iff_ne.2 (by omega);clear h hl hn hx hI h0 hidx hk hnil hel hs hm e1 hnl hp;subst hlv;go_enter Tryz.func45,Tryz.ntmps45;go_wp2_with fail
  go_fit HT.out;rintro e w1 ⟨rfl,hb1⟩;have hL:=HL.out w1 hb1;have HB:=qh hb1;obtain⟨⟨b0,b1,b2⟩,f0,f1,f2⟩:=(HC.out w1 hb1).cells;have hM1:=(HC.out w1 hb1).lt;clear hb1;obtain⟨w2,hr2,d1,d2,d3,ao2,cap2,w3,hr3,g1,g2,g3,c',hs3,hM3⟩:=HP.out w1 HB.out;have H3:=qh (And.intro hs3 hM3);clear hs3 hM3;go_wp2_with (at_builtin;refine napp_list (by rfl) _ _ 38 (by rfl) (by rfl) (by rfl) hr3 ?_)
  go_ret
  exact⟨by rw[HF.out.1];rfl,c',_,_,(HS.out w1 HB.out).trans H3.out.1,by rw[HF.out.2];exact H3.out.2⟩
 ·rw[if_neg hf] at hidx;have HF:Hid (zEI xs l=k∧QS xs l=xs):=qh (by
   unfold zEI QS;rw[hk,if_neg (by rw[hnil];decide),if_neg hf,if_neg (by rw[hnil];decide),if_neg hf];exact⟨rfl,rfl⟩)
  have hkn:((k.toNat:Nat):Int)=k:=by omega
  have HL:=qh (fun (W:World) (hb:Below w.heap.size w W)=>by
   have:=zDG (h.under hb).map hidx
   rwa [hkn] at this)
  have HC:=qh (fun (W:World) (hb:Below w.heap.size w W)=>(h.under hb).box);have HS:=qh (fun (W:World) (hb:Below w.heap.size w W)=>(⟨StepC.below (S:=fun a=>a=1) h.fresh hb,h.under hb⟩:StepC (fun a=>a=1) c c w W∧MkC c W M nv xs lv mb us));obtain⟨s,hs⟩:∃s,txK l=s:=⟨_,rfl⟩;have e1:(⟨(yW l).toArray⟩:ByteArray)=s:=hs;rw[hs] at HL;rw[e1] at HT;rw[hnl] at hpos hcap HT ⊢;have hni:((n:Int)==0)=false:=beq_eq_false_iff_ne.2 (by omega);clear h hl hn hx hI h0 hidx hk hnil hs e1 hnl hp hkn hlc HM;subst hlv;go_enter Tryz.func45,Tryz.ntmps45;go_wp2_with fail
  go_fit HT.out;rintro e w1 ⟨rfl,hb1⟩;have hL:=HL.out w1 hb1;have HB:=qh hb1;obtain⟨⟨b0,b1,b2⟩,f0,f1,f2⟩:=(HC.out w1 hb1).cells;clear hb1;go_wp2_with fail
  go_ret
  exact⟨by rw[HF.out.1];rfl,c,_,us,(HS.out w1 HB.out).1,by rw[HF.out.2];exact (HS.out w1 HB.out).2⟩
end
end Go.Proofs.YtjeomlickkpebaaGreatDoor
namespace Go.Proofs.YtjeomlickkpebaaGreatDoor
def EpN (Q:List Sta) (i:Nat):Prop:=∃j s,Eps Q i j∧Q[j]? =some s∧s.kind≠1
theorem EpN.here {Q:List Sta} {i:Nat} {s:Sta} (h:Q[i]? =some s) (hk:s.kind≠1):EpN Q i:=⟨i,s,Eps.refl i,h,hk⟩
theorem EpN.next {Q:List Sta} {i:Nat} {s:Sta} (h:Q[i]? =some s) (hk:s.kind=1) (g:EpN Q s.next):EpN Q i:=by
 obtain⟨j,t,h1,h2⟩:=g;exact⟨j,t,Eps.next h hk h1,h2⟩
theorem EpN.also {Q:List Sta} {i:Nat} {s:Sta} (h:Q[i]? =some s) (hk:s.kind=1) (g:EpN Q s.also):EpN Q i:=by
 obtain⟨j,t,h1,h2⟩:=g;exact⟨j,t,Eps.also h hk h1,h2⟩
def zHK (q:List Sta) (next:Nat) (q':List Sta) (a:Nat):Prop:=∀Q:List Sta,(∀i,q.length≤i→i<q'.length→Q[i]? =q'[i]?)→EpN Q next→EpN Q a
theorem vK (q:List Sta) (a b:Nat):(q++ [zJ a b]).length=q.length+1:=by rw[List.length_append];rfl
theorem zBP {L:List Nat→Prop} {q q1:List Sta} {next a:Nat} (h:xQ L (q++ [zJ next next]) q.length q1 a):(xi q1 q.length a)[q.length]? =some ⟨1,noR,next,a,0⟩:=by
 have:=h.same q.length (by rw[vK];omega);rw[zz] at this;exact XZ q1 q.length a _ this
mutual
theorem yE:∀(n:Nd),Z8 n=true→wfR n→∀(q:List Sta) (next:Nat),zHK q next (buildT n q next).1 (buildT n q next).2
 | .mk k s l,h,hw,q,next=>by
  obtain⟨h1,h2⟩:=qw h;obtain⟨f0,f6,f1,f4,f2,fs⟩:=qx h1;rw[wfR] at hw;rw[buildT];by_cases k1:k=1
  ·rw[if_pos k1];intro Q hQ _;have:=hQ q.length (Nat.le_refl _) (by rw[List.length_append];show _<_+1;omega);rw[zz] at this;exact EpN.here this (by simp[qn])
  rw[if_neg k1];by_cases k2:k=2
  ·rw[if_pos k2];exact J1 l h2 hw.2 q next
  rw[if_neg k2];by_cases k3:k=3
  ·rw[if_pos k3];exact zBQ l (by have:=f2 (.inr k3);omega) h2 hw.2 q next
  rw[if_neg k3];have hlen:(q++ [zJ next next]).length=q.length+1:=vK q next next;by_cases k4:k=4
  ·rw[if_pos k4];have hb:=vP l h2 hw.2 (q++ [zJ next next]) q.length;have hl:=hb.len;intro Q hQ hn;have:=hQ q.length (Nat.le_refl _) (by rw[zg];omega);rw[zBP hb] at this;exact EpN.next this rfl hn
  rw[if_neg k4];by_cases k5:k=5
  ·rw[if_pos k5];have hb:=vP l h2 hw.2 (q++ [zJ next next]) q.length;have hl:=hb.len;intro Q hQ hn;have:=hQ q.length (Nat.le_refl _) (by rw[zg];omega);rw[zBP hb] at this;refine zBR l h2 hw.2 (q++ [zJ next next]) q.length Q (fun i hi hl2=> ?_) (EpN.next this rfl hn);rw[hQ i (by omega) (by rw[zg];exact hl2),qX _ _ _ _ (by omega)]
  rw[if_neg k5];by_cases k6:k=6
  ·rw[if_pos k6];have hb:=vP l h2 hw.2 q next;have hl:=hb.len;intro Q hQ hn;have:=hQ (j8 l q next).1.length hl (by rw[vK];omega);rw[zz] at this;exact EpN.also this rfl hn
  rw[if_neg k6];exact fun _ _ hn=>hn
theorem J1:∀(l:List Nd),qu l=true→wfL l→∀(q:List Sta) (next:Nat),zHK q next (yH l q next).1 (yH l q next).2
 | [],_,_,_,_=>fun _ _ hn=>hn
 | n::l,h,hw,q,next=>by
  rw[qu,Bool.and_eq_true] at h;rw[wfL] at hw;rw[yH];have hb:=Ji l h.2 hw.2 q next;have hg:=xl n h.1 hw.1 (yH l q next).1 (yH l q next).2;have h1:=hb.len;have h2:=hg.len;intro Q hQ hn;refine yE n h.1 hw.1 _ _ Q (fun i hi hl=>hQ i (by omega) hl) (J1 l h.2 hw.2 q next Q (fun i hi hl=> ?_) hn);rw[hQ i hi (by omega),hg.same i hl]
theorem zBQ:∀(l:List Nd),0<l.length→qu l=true→wfL l→∀(q:List Sta) (next:Nat),zHK q next (XY l q next).1 (XY l q next).2
 | [],h0,_,_,_,_=>absurd h0 (Nat.lt_irrefl _)
 | n::l,_,h,hw,q,next=>by
  rw[qu,Bool.and_eq_true] at h;rw[wfL] at hw;rw[XY];exact XP l h.2 hw.2 (xj n) q _ _ next (xl n h.1 hw.1 q next) (yE n h.1 hw.1 q next)
theorem XP:∀(l:List Nd),qu l=true→wfL l→∀(L:List Nat→Prop) (q q1:List Sta) (a next:Nat),xQ L q next q1 a→zHK q next q1 a→zHK q next (qP l q1 a next).1 (qP l q1 a next).2
 | [],_,_,_,_,_,_,_,_,hl=>hl
 | n::l,h,hw,L,q,q1,a,next,hb,hl=>by
  rw[qu,Bool.and_eq_true] at h;rw[wfL] at hw;rw[qP];have hg:=xl n h.1 hw.1 q1 next;have h1:=hb.len;have h2:=hg.len;refine XP l h.2 hw.2 _ q _ _ next (hb.alt hg) (fun Q hQ hn=> ?_);have:=hQ (buildT n q1 next).1.length (by omega) (by rw[vK];omega);rw[zz] at this;refine EpN.next this rfl (hl Q (fun i hi hl2=> ?_) hn);rw[hQ i hi (by rw[vK];omega),zv (by omega),hg.same i hl2]
theorem zBR:∀(l:List Nd),qu l=true→wfL l→∀(q:List Sta) (next:Nat),zHK q next (j8 l q next).1 (j8 l q next).2
 | [],_,_,_,_=>fun _ _ hn=>hn
 | n::l,h,hw,q,next=>by
  rw[qu,Bool.and_eq_true] at h;rw[wfL] at hw;rw[j8];exact yE n h.1 hw.1 q next
end
theorem XQ:∀(l:List Nd) (j:Nat) (q:List Sta) (first:List Int),vR l→(∃a,a∈first∧0≤a∧∀Q:List Sta,(∀i,i<q.length→Q[i]? =q[i]?)→EpN Q a.toNat)→∃a,a∈(qD l j q first).2∧0≤a∧EpN (qD l j q first).1 a.toNat
 | [],j,q,first,_,⟨a,ha,h0,h⟩=>⟨a,ha,h0,h q fun _ _=>rfl⟩
 | n::l,j,q,first,hg,⟨a,ha,h0,h⟩=>by
  rw[qD];have hb:=xl n (hg n (by simp)).1 (hg n (by simp)).2 (q++ [endS j]) q.length;have h1:=hb.len;have hlen:(q++ [endS j]).length=q.length+1:=by rw[List.length_append];rfl
  refine XQ l (j+1) _ _ (fun m hm=>hg m (by simp[hm])) ⟨a,by simp[ha],h0,fun Q hQ=>h Q fun i hi=> ?_⟩;rw[hQ i (by omega),hb.same i (by omega),zv hi]
theorem KJ (l:List Nd) (h0:l≠ []) (hg:vR l):∃a,a∈(zt l).2∧0≤a∧EpN (zt l).1 a.toNat:=by
 cases l with
 | nil=>exact absurd rfl h0
 | cons n l=>
  unfold zt;rw[qD];have hb:=xl n (hg n (by simp)).1 (hg n (by simp)).2 ([]++ [endS 0]) ([]:List Sta).length;have hl:=yE n (hg n (by simp)).1 (hg n (by simp)).2 ([]++ [endS 0]) ([]:List Sta).length;refine XQ l 1 _ _ (fun m hm=>hg m (by simp[hm])) ⟨((buildT n ([]++ [endS 0]) ([]:List Sta).length).2:Int),List.mem_append_right _ (List.mem_singleton.2 rfl),Int.natCast_nonneg _,fun Q hQ=> ?_⟩;rw[Int.toNat_natCast];refine hl Q (fun i _ hi=>hQ i hi) ?_;have:=hQ 0 (Nat.lt_of_lt_of_le Nat.zero_lt_one (show 1≤_ from hb.len));rw[hb.same 0 (show 0<1 by decide)] at this;exact EpN.here this (by simp[endS])
theorem zBS {q:List Sta} (hq:∀(i:Nat) (s:Sta),q[i]? =some s→Zh q.length s) {l:List Int} (hl:InQ q l) {a:Int} (ha:a∈l) (he:EpN q a.toNat):reachP q l≠ []:=by
 obtain⟨l1,_,a1,s1,d1⟩:=jv q hq l (noneB q.length) hl (zi _);obtain⟨j,s,h1,h2,h3⟩:=he;have d1':∀i,(marksP q l (noneB q.length)).getD i false=true→X3 q (marksP q l (noneB q.length)) i:=fun i h=>by
  rcases d1 i h with h | h
  ·rw[noneB_get] at h;cases h
  ·exact h
 have key:∀ {i j:Nat},Eps q i j→(marksP q l (noneB q.length)).getD i false=true→(marksP q l (noneB q.length)).getD j false=true:=fun h=>by
  induction h with
  | refl a=>exact fun h=>h
  | next h hk _ ih=>exact fun hm=>ih (d1' _ hm _ h hk).1
  | also h hk _ ih=>exact fun hm=>ih (d1' _ hm _ h hk).2
 have hj:=key h1 (a1 a ha);have hm:(j:Int)∈reachP q l:=(qQ q _ _ _).2 ⟨j,rfl,(List.getElem?_eq_some_iff.1 h2).1,hj,by rw[h2,Option.map_some];exact fun e=>h3 (Option.some.inj e)⟩;intro e;rw[e] at hm;cases hm
theorem start_ne {L:List ByteArray} (h:xG L=0):reachP (quE L) (fiE L)≠ []:=by
 obtain⟨hm,_⟩:=jE h;have h0:zI L≠ []:=fun e=>by
  unfold xG at h;have:L.length=0:=by rw[show L.length=(zI L).length from (List.length_map _).symm,e];rfl
  rw[if_pos (.inl this)] at h;cases h
 obtain⟨a,ha,_,he⟩:=KJ (zI L) h0 (nodes_good L);exact zBS hm.ok hm.in_ ha he
end Go.Proofs.YtjeomlickkpebaaGreatDoor
