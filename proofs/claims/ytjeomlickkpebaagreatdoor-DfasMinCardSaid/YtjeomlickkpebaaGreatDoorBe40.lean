/-
  dfas.parted: what lies in memory while the lists are made. No call is walked here.
-/
import Derived.Test.YtjeomlickkpebaaGreatDoorBe36
import Derived.Test.YtjeomlickkpebaaGreatDoorBe39
namespace Go.Proofs.YtjeomlickkpebaaGreatDoor
open Go.RowKit
section
variable {w w':World} {v:Value} {d:Dfa}
theorem DfV.all (h:DfV w v d) (hp:0<d.n):∃B g o cap,v= .pointer (some ⟨B,0,none⟩)∧w.cell? ⟨B,0,none⟩=some (.slice (some ⟨g,o,none⟩) d.n cap)∧d.n≤cap ∧
  ∀k,k<d.n→∃r,r.length=256∧(∀b,b<256→r[b]? =some (d.to k b))∧w.rangeAt g (o+k*257) (staD (r,d.acc k)):=by
 obtain⟨B,g,o,cap,h1,h2,h3,_⟩:=h.sta hp;refine⟨B,g,o,cap,h1,h2,h3,fun k hk=> ?_⟩;obtain⟨B',g',o',cap',e1,e2,_,_,_,r,h4,h5,h6⟩:=h.sta hk;rw[h1] at e1;cases e1;rw[h2] at e2;cases e2;exact⟨r,h4,h5,h6⟩
end
theorem zIG (n:Nat) (hn:n≤1000000) (w:World):(Instr.makeSlice 125 (.int .i64 (n:Int)) (.int .i64 (n:Int))).run Tryz.prog w= .ok (.slice (some ⟨w.heap.size,0,none⟩) n n) (w.alloc (.cells (Array.replicate (n*256) (Value.slice none 0 0)) 127)):=by
 obtain⟨i,hi,hz,hs,hb⟩:=xJ Tryz.infoWays;have hr:=run_make (P:=Tryz.prog) w 125 127 i (.agg vm.toArray) Tryz.underlying125 hi hz .i64 .i64 (n:Int) (n:Int) (by omega) (Int.le_refl _) (by rw[hb];omega) (by omega);simp only[Int.toNat_natCast,hs] at hr;have e:madeCells (Value.agg vm.toArray).cells (n*256)=Array.replicate (n*256) (Value.slice none 0 0):=by
  have hs:vm.toArray.size=256:=by rw[List.size_toArray];exact List.length_replicate
  have hz:∀x,vm.toArray[x%vm.toArray.size]! =Value.slice none 0 0:=fun x=>by
   have hj:x%vm.toArray.size<vm.toArray.size:=Nat.mod_lt _ (by rw[hs];decide);rw[getElem!_pos vm.toArray _ hj,List.getElem_toArray];exact List.getElem_replicate _
  show (Array.range (n*256)).map (fun x=>vm.toArray[x%vm.toArray.size]!)=_;rw[show (fun x=>vm.toArray[x%vm.toArray.size]!)=fun _=>Value.slice none 0 0 from funext hz];refine Array.ext' ?_;rw[Array.toList_map,Array.toList_range,Array.toList_replicate];exact List.ext_getElem (by simp) fun i h1 h2=>by simp
 rw[e] at hr;exact hr
def KU (n B:Nat):Nat→Nat→List Nat:=fun z b=>if z=n∧b<B then [n] else []
def ruF (d:Dfa) (k:Nat) (i:Nat):Int:=if i<k then d.acc i else if i=d.n then -1 else 0
def yG (w wr:World) (G RU N:Nat) (bk:Nat→Nat→List Nat) (ru:Nat→Int):Prop:=
 ∃c,StepC (fun a=>a≠0) (fun _=>0) c w wr∧BkC c wr G N bk∧ArrF wr RU N ru∧c RU=5
section
variable {w wr wr':World} {G RU N:Nat} {bk bk':Nat→Nat→List Nat} {ru ru':Nat→Int}
theorem yG.congr (h:yG w wr G RU N bk ru) (h1:∀z b,z<N→b<256→bk z b=bk' z b) (h2:∀i,i<N→ru i=ru' i):yG w wr G RU N bk' ru':=by
 obtain⟨c,x1,x2,x3,x4⟩:=h;exact⟨c,x1,x2.congr h1,x3.congr h2,x4⟩
theorem yG.under (h:yG w wr G RU N bk ru) (hb:Below wr.heap.size wr wr'):yG w wr' G RU N bk ru:=by
 obtain⟨c,x1,x2,x3,x4⟩:=h;have s:StepC (fun _=>False) c c wr wr':=StepC.below x1.fresh hb;exact⟨c,x1.trans (s.mono fun _ e=>e.elim),x2.step s (fun e=>e) (fun _ _ e=>e),x3.under hb,x4⟩
theorem yG.below (h:yG w wr G RU N bk ru):Below w.heap.size w wr:=by
 obtain⟨c,x1,_⟩:=h;exact x1.under0 fun e=>e rfl
theorem yG.arr (h:yG w wr G RU N bk ru):ArrF wr RU N ru:=by
 obtain⟨c,_,_,x3,_⟩:=h;exact x3
theorem yG.back (h:yG w wr G RU N bk ru):vJ (fun _=>0) wr G N bk:=by
 obtain⟨c,_,x2,_⟩:=h;exact x2.done
theorem yG.rule (h:yG w wr G RU N bk ru) (i:Nat) (a:Int):yG w (wr.setCell ⟨RU,i,none⟩ (.int .i64 a)) G RU N bk (fun k=>if k=i then a else ru k):=by
 obtain⟨c,x1,x2,x3,x4⟩:=h;have s:StepC (fun k=>k=5) c c wr (wr.setCell ⟨RU,i,none⟩ (.int .i64 a)):=by
  have:=zd (B:=RU) (i:=i) (y:= .int .i64 a) x1.fresh
  rwa [x4] at this
 exact⟨c,x1.trans (s.mono fun a e=>by subst e;decide),x2.step s (by decide) (fun z b=>by unfold JZ;omega),x3.set i a,x4⟩
theorem yG.sink (h:yG w wr G RU N bk ru) {z b:Nat} (hb:b<256) (x:Nat):yG w ((wr.alloc (.cells #[.int .i64 (x:Int)] 3)).setCell ⟨G,z*256+b,none⟩ (.slice (some ⟨wr.heap.size,0,none⟩) 1 1)) G RU N (zEM bk z b [x]) ru:=by
 obtain⟨c,x1,x2,x3,x4⟩:=h;obtain⟨c',s,y2⟩:=x2.one (z:=z) x1.fresh hb x;exact⟨c',x1.trans (s.mono fun a e=>by subst e;decide),y2,x3.keep s.keep (by rw[x4];decide),by rw[s.same _ x3.lt];exact x4⟩
theorem yG.push (h:yG w wr G RU N bk ru) {z b:Nat} (hz:z<N) (hb:b<256) (k:Nat) (hl:(bk z b).length≤100000):
  ∃ao0 cap0,wr.cell? ⟨G,z*256+b,none⟩=some (.slice ao0 (bk z b).length cap0)∧∃ao cap w2,(Builtin.append_ #[39,39] 39 #[.slice ao0 (bk z b).length cap0,.slice (some ⟨wr.heap.size,0,none⟩) 1 1]).run Tryz.prog (wr.alloc (.cells #[.int .i64 (k:Int)] 3))= .ok (.slice ao ((bk z b).length+1) cap) w2 ∧
   w2.frozen? ⟨G,z*256+b,none⟩=false∧G<w2.heap.size∧w2.cell? ⟨G,z*256+b,none⟩=some (.slice ao0 (bk z b).length cap0) ∧
   yG w (w2.setCell ⟨G,z*256+b,none⟩ (.slice ao ((bk z b).length+1) cap)) G RU N (zEM bk z b (bk z b++ [k])) ru:=by
 obtain⟨c,x1,x2,x3,x4⟩:=h;obtain⟨ao0,cap0,h1,ao,cap,w2,h2,h3,h4,h5,c',s,y2⟩:=x2.push x1.fresh hz hb k hl;exact⟨ao0,cap0,h1,ao,cap,w2,h2,h3,h4,h5,c',x1.trans (s.mono fun a e=>by omega),y2,x3.keep s.keep (by rw[x4];omega),by rw[s.same _ x3.lt];exact x4⟩
theorem Jb {W:World} {n R G:Nat} (hRG:(R=W.heap.size∧G=W.heap.size+1∧wr=((W.alloc (.cells (Array.replicate n (Value.int .i64 0)) 3)).alloc (.cells (Array.replicate (n*256) (Value.slice none 0 0)) 127)).drew) ∨
  (G=W.heap.size∧R=W.heap.size+1∧wr=((W.alloc (.cells (Array.replicate (n*256) (Value.slice none 0 0)) 127)).alloc (.cells (Array.replicate n (Value.int .i64 0)) 3)).drew)):yG W wr G R n (fun _ _=> []) (fun _=>0):=by
 have key:∀(W1 W2:World) (c:Col),StepC (fun a=>a≠0) (fun _=>0) c W W1→wr=W1.drew→c G=4→c R=5→W1.heap[G]? =some (.cells (Array.replicate (n*256) (Value.slice none 0 0)) 127 (0,0))→W1.heap[R]? =some (.cells (Array.replicate n (Value.int .i64 0)) 3 (0,0))→yG W wr G R n (fun _ _=> []) (fun _=>0):=fun W1 _ c hs hw hG hR h1 h2=>by
  subst hw;have hd:Below W1.heap.size W1 W1.drew:=(Below.refl _ _).drew;refine yG.under ⟨c,hs,⟨hG,_,_,h1,fun z b hz hb=>⟨.slice none 0 0,?_,RowC.nil _ _ _ _⟩⟩,⟨_,h2,by rw[Array.size_replicate];exact Nat.le_refl _,fun i hi=>by rw[Array.getElem?_replicate,if_pos hi]⟩,hR⟩ hd;rw[Array.getElem?_replicate,if_pos];have:z*256+256≤n*256:=by omega
  omega
 have f0:xA (fun _=>0) W:=fun _ _=>rfl;rcases hRG with ⟨h1,h2,h3⟩ | ⟨h1,h2,h3⟩
 ·have s1:=StepC.colAt (S:=fun a=>a≠0) (A:=5) f0 (.cells (Array.replicate n (Value.int .i64 0)) 3);have e1:=zC W (.cells (Array.replicate n (Value.int .i64 0)) 3);have n1:=heap_alloc_new W (.cells (Array.replicate n (Value.int .i64 0)) 3);have s2:=StepC.colAt (S:=fun a=>a≠0) (A:=4) s1.fresh (.cells (Array.replicate (n*256) (Value.slice none 0 0)) 127);have k2:=keep_below (fun _=>True) (zA (W.alloc (.cells (Array.replicate n (Value.int .i64 0)) 3)) (.cells (Array.replicate (n*256) (Value.slice none 0 0)) 127));have n2:=heap_alloc_new (W.alloc (.cells (Array.replicate n (Value.int .i64 0)) 3)) (.cells (Array.replicate (n*256) (Value.slice none 0 0)) 127);rw[e1] at s2 n2;refine key _ W _ (s1.trans s2) h3 (by rw[h2];exact if_pos rfl) (by rw[h1,x9 (by omega)];exact if_pos rfl) (by rw[h2];exact n2) ?_;rw[h1];exact (k2.same _ (by rw[e1];omega) trivial).trans n1
 ·have s1:=StepC.colAt (S:=fun a=>a≠0) (A:=4) f0 (.cells (Array.replicate (n*256) (Value.slice none 0 0)) 127);have e1:=zC W (.cells (Array.replicate (n*256) (Value.slice none 0 0)) 127);have n1:=heap_alloc_new W (.cells (Array.replicate (n*256) (Value.slice none 0 0)) 127);have s2:=StepC.colAt (S:=fun a=>a≠0) (A:=5) s1.fresh (.cells (Array.replicate n (Value.int .i64 0)) 3);have k2:=keep_below (fun _=>True) (zA (W.alloc (.cells (Array.replicate (n*256) (Value.slice none 0 0)) 127)) (.cells (Array.replicate n (Value.int .i64 0)) 3));have n2:=heap_alloc_new (W.alloc (.cells (Array.replicate (n*256) (Value.slice none 0 0)) 127)) (.cells (Array.replicate n (Value.int .i64 0)) 3);rw[e1] at s2 n2;refine key _ W _ (s1.trans s2) h3 (by rw[h1,x9 (by omega)];exact if_pos rfl) (by rw[h2];exact if_pos rfl) ?_ (by rw[h2];exact n2);rw[h1];exact (k2.same _ (by rw[e1];omega) trivial).trans n1
end
section
variable {c:Col} {w:World} {U S P O cs n G:Nat} {bv:Value} {Bs:List Blk} {st pl ob:Nat→Nat} {bk:Nat→Nat→List Nat}
theorem PtC.pale3 (h:PtC c w U S P O cs bv n Bs st pl ob):PtC (Go.Proofs.YtjeomlickkpebaaGreatDoor.pale c 3) w U S P O cs bv n Bs st pl ob:=
 ⟨h.box,zu h.cU (by decide),zu h.cS (by decide),zu h.cP (by decide),zu h.cO (by decide),h.s,h.p,h.o,⟨h.g.own,fun k e=>zu (h.g.col k e) (by decide)⟩,h.cap,h.us,h.up,h.uo,h.sp,h.so,h.po,h.gu,h.gs,h.gp,h.go,h.fresh.pale⟩
theorem vJ.pale (h:vJ c w G n bk):vJ (Go.Proofs.YtjeomlickkpebaaGreatDoor.pale c 3) w G n bk:=
 ⟨jF h.col,h.lt,fun z b hz hb=>by
  obtain⟨u,h1,h2⟩:=h.cel z b hz hb;exact⟨u,h1,h2.pale⟩⟩
end
def zJ0 (w wr:World) (U S P O cs G N:Nat) (d:Dfa) (bk:Nat→Nat→List Nat) (k nb:Nat):Prop:=
 ∃c bv Bs st pl ob,StepC (fun a=>a=1) (fun _=>0) c w wr∧PtC c wr U S P O cs bv N Bs st pl ob∧yx N Bs st pl ob∧(∀y,y<N→¬MkP Bs pl ob y)∧zI1 d k ob∧vJ c wr G N bk∧(∀i,c i≠3)∧Bs.length=nb
end Go.Proofs.YtjeomlickkpebaaGreatDoor
