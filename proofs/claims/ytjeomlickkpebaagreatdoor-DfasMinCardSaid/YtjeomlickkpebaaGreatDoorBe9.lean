/-
  Texts of this proof, one behind the other; each begins with its own remark.
-/
import Derived.Test.YtjeomlickkpebaaGreatDoorBe7
import Derived.Test.YtjeomlickkpebaaGreatDoorBe8
namespace Go.Proofs.YtjeomlickkpebaaGreatDoor
open Go.RowKit
def ArrF (w:World) (X n:Nat) (f:Nat→Int):Prop:=∃cur:Array Value,w.heap[X]? =some (.cells cur 3 (0,0))∧n≤cur.size∧∀i,i<n→cur[i]? =some (.int .i64 (f i))
section
variable {w w':World} {X n i:Nat} {f g:Nat→Int}
theorem ArrF.lt (h:ArrF w X n f):X<w.heap.size:=by
 obtain⟨cur,h1,_⟩:=h;exact (Array.getElem?_eq_some_iff.1 h1).1
theorem ArrF.cell (h:ArrF w X n f) (hi:i<n):w.cell? ⟨X,i,none⟩=some (.int .i64 (f i)):=by
 obtain⟨cur,h1,_,h3⟩:=h;rw[cell_of_row w X i cur _ (0,0) h1];exact h3 i hi
theorem ArrF.frozen (h:ArrF w X n f) (i:Nat):w.frozen? ⟨X,i,none⟩=false:=by
 obtain⟨cur,h1,_⟩:=h;exact frozen_of_row w X i cur _ h1
theorem ArrF.keep {ok:Nat→Prop} (h:ArrF w X n f) (hk:KeepW ok w w') (ho:ok X):ArrF w' X n f:=by
 have hl:=h.lt;obtain⟨cur,h1,h2⟩:=h;exact⟨cur,(hk.same X hl ho).trans h1,h2⟩
theorem ArrF.under (h:ArrF w X n f) (hb:Below w.heap.size w w'):ArrF w' X n f:=h.keep (keep_below (fun _=>True) hb) trivial
theorem ArrF.congr (h:ArrF w X n f) (he:∀i,i<n→f i=g i):ArrF w X n g:=by
 obtain⟨cur,h1,h2,h3⟩:=h;exact⟨cur,h1,h2,fun i hi=>by rw[←he i hi];exact h3 i hi⟩
theorem ArrF.set (h:ArrF w X n f) (i:Nat) (a:Int):ArrF (w.setCell ⟨X,i,none⟩ (.int .i64 a)) X n (fun k=>if k=i then a else f k):=by
 obtain⟨cur,h1,h2,h3⟩:=h;refine⟨cur.setIfInBounds i (.int .i64 a),heap_setCell_same w X i cur _ _ h1,by rw[Array.size_setIfInBounds];exact h2,fun k hk=> ?_⟩;rw[Array.getElem?_setIfInBounds];by_cases c:i=k
 ·subst c;rw[if_pos rfl,if_pos (by omega)];show _=some (Value.int .i64 (if i=i then a else f i));rw[if_pos rfl]
 ·rw[if_neg c];show _=some (Value.int .i64 (if k=i then a else f k));rw[if_neg (fun e=>c e.symm)];exact h3 k hk
theorem ArrF.swap {p q:Nat} (h:ArrF w X n f):ArrF ((w.setCell ⟨X,p,none⟩ (.int .i64 (f q))).setCell ⟨X,q,none⟩ (.int .i64 (f p))) X n (kM f p q):=
 ((h.set p (f q)).set q (f p)).congr fun k _=>by
   unfold kM;show (if k=q then f p else if k=p then f q else f k)=if k=p then f q else if k=q then f p else f k;by_cases c:k=q
   ·by_cases d:k=p
    ·rw[if_pos c,if_pos d,←c,←d]
    ·rw[if_pos c,if_neg d,if_pos c]
   ·rw[if_neg c];by_cases d:k=p
    ·rw[if_pos d,if_pos d]
    ·rw[if_neg d,if_neg d,if_neg c]
theorem vE (w:World) (X p q:Nat) (y z:Value):KeepW (fun k=>k≠X) w ((w.setCell ⟨X,p,none⟩ y).setCell ⟨X,q,none⟩ z):=
 (zE X p none y w fun h=>h rfl).trans (zE X q none z _ fun h=>h rfl)
end
end Go.Proofs.YtjeomlickkpebaaGreatDoor
namespace Go.Proofs.YtjeomlickkpebaaGreatDoor
structure MkI (n:Nat) (M:Nat→Prop) (hs:List Nat) (Bs:List Blk) (st pl ob:Nat→Nat):Prop where
 par:yx n Bs st pl ob
 mrk:∀y,y<n→(MkP Bs pl ob y↔M y)
 nd:hs.Nodup
 hit:∀j,j∈hs↔∃y,y<n∧ob y=j∧M y
section
variable {n:Nat} {M M':Nat→Prop} {hs:List Nat} {Bs:List Blk} {st pl ob:Nat→Nat}
theorem MkI.congr (h:MkI n M hs Bs st pl ob) (hm:∀y,y<n→(M y↔M' y)):MkI n M' hs Bs st pl ob:=
 ⟨h.par,fun y hy=>(h.mrk y hy).trans (hm y hy),h.nd,fun j=>(h.hit j).trans ⟨fun⟨y,h1,h2,h3⟩=>⟨y,h1,h2,(hm y h1).1 h3⟩,fun⟨y,h1,h2,h3⟩=>⟨y,h1,h2,(hm y h1).2 h3⟩⟩⟩
theorem MkI.start (hp:yx n Bs st pl ob) (hno:∀y,y<n→¬MkP Bs pl ob y):MkI n (fun _=>False) [] Bs st pl ob:=
 ⟨hp,fun y hy=>⟨hno y hy,fun e=>e.elim⟩,List.nodup_nil,fun _=>⟨fun e=>absurd e List.not_mem_nil,fun⟨_,_,_,e⟩=>e.elim⟩⟩
theorem MkI.step (h:MkI n M hs Bs st pl ob) {x f t m:Nat} (hx:x<n) (hj:Bs[ob x]? =some (f,t,m)) (hM:¬M x):
  MkI n (fun y=>M y∨y=x) (if m=0 then hs++ [ob x] else hs) (Bs.set (ob x) (f,t,m+1)) (stM st (pl x) (f+m) x) (plM pl (pl x) (f+m) x (st (f+m))) ob:=by
 have hmk:¬MkP Bs pl ob x:=fun e=>hM ((h.mrk x hx).1 e);obtain⟨_,_,hp2,hm2⟩:=Yx h.par hx hj hmk;have hin:=h.par.in_iff hx hj;have hb:=h.par.inb _ _ _ _ hj;have hzero:m=0↔ob x∉hs:=by
  constructor
  ·intro e hmem;obtain⟨y,h1,h2,h3⟩:=(h.hit _).1 hmem;have hjy:Bs[ob y]? =some (f,t,m):=(by rw[h2];exact hj);have:=(qd hjy).1 ((h.mrk y h1).2 h3);have:=(h.par.in_iff h1 hj).1 h2;omega
  ·intro hno;by_cases c:m=0
   ·exact c
   ·refine absurd ((h.hit _).2 ⟨st f,(h.par.inv2 f (by omega)).1,hb.2.2.2 f (Nat.le_refl _) hb.1,?_⟩) hno;have hjy:Bs[ob (st f)]? =some (f,t,m):=(by rw[hb.2.2.2 f (Nat.le_refl _) hb.1];exact hj);refine (h.mrk _ (h.par.inv2 f (by omega)).1).1 ((qd hjy).2 ?_);rw[(h.par.inv2 f (by omega)).2];omega
 refine⟨hp2,fun y hy=>(hm2 y hy).trans ⟨fun e=>e.elim (fun e=> .inl ((h.mrk y hy).1 e)) .inr,fun e=>e.elim (fun e=> .inl ((h.mrk y hy).2 e)) .inr⟩,?_,fun j=> ?_⟩
 ·split
  ·rename_i c;refine List.nodup_append.2 ⟨h.nd,List.nodup_cons.2 ⟨List.not_mem_nil,List.nodup_nil⟩,fun a ha b hb e=> ?_⟩;rw[List.mem_singleton] at hb;subst hb;subst e;exact hzero.1 c ha
  ·exact h.nd
 ·split
  ·rename_i c;rw[List.mem_append,List.mem_singleton,h.hit];constructor
   ·rintro (⟨y,h1,h2,h3⟩ | e)
    ·exact⟨y,h1,h2,.inl h3⟩
    ·exact⟨x,hx,e.symm,.inr rfl⟩
   ·rintro⟨y,h1,h2,h3 | h3⟩
    ·exact .inl ⟨y,h1,h2,h3⟩
    ·subst h3;exact .inr h2.symm
  ·rename_i c;rw[h.hit];constructor
   ·rintro⟨y,h1,h2,h3⟩;exact⟨y,h1,h2,.inl h3⟩
   ·rintro⟨y,h1,h2,h3 | h3⟩
    ·exact⟨y,h1,h2,h3⟩
    ·subst h3;have:j∈hs:=Classical.byContradiction fun q=>c (hzero.2 (by rw[h2];exact q));exact (h.hit j).1 this
theorem MkI.few (h:MkI n M hs Bs st pl ob):hs.length≤n:=by
 have hK:=h.par.few;refine Nat.le_trans (pig hs.length Bs.length (fun i=>hs.getD i 0) (fun j hj=> ?_) fun i j hij hj e=> ?_) hK
 ·have:hs.getD j 0=hs[j]:=by rw[List.getD_eq_getElem?_getD,List.getElem?_eq_getElem hj];rfl
  show hs.getD j 0<_;rw[this];obtain⟨y,h1,h2,_⟩:=(h.hit _).1 (List.getElem_mem hj);rw[←h2];exact h.par.lt h1
 ·have hi:i<hs.length:=by omega
  have e1:hs.getD i 0=hs[i]:=by rw[List.getD_eq_getElem?_getD,List.getElem?_eq_getElem hi];rfl
  have e2:hs.getD j 0=hs[j]:=by rw[List.getD_eq_getElem?_getD,List.getElem?_eq_getElem hj];rfl
  have e':hs.getD i 0=hs.getD j 0:=e;rw[e1,e2] at e';exact List.pairwise_iff_getElem.1 h.nd i j hi hj hij e'
end
structure BkO (d:Dfa) (bk:Nat→Nat→List Nat):Prop where
 nd:∀z b,z≤d.n→b<256→(bk z b).Nodup
 mem:∀z b y,z≤d.n→b<256→(y∈bk z b↔y≤d.n∧toN d y b=z)
def MW (d:Dfa) (wa:Nat→Nat) (b i:Nat) (L:List Nat) (y:Nat):Prop:=(∃k,k<i∧toN d y b=wa k)∨y∈L
section
variable {d:Dfa} {bk:Nat→Nat→List Nat} {wa:Nat→Nat} {b i k x m:Nat}
theorem zGW (y:Nat) (hx:(bk (wa i) b)[k]? =some x):(MW d wa b i ((bk (wa i) b).take k) y∨y=x)↔MW d wa b i ((bk (wa i) b).take (k+1)) y:=by
 unfold MW;rw[List.take_add_one,hx,List.mem_append];show _↔_∨_∨y∈ [x];rw[List.mem_singleton,or_assoc]
theorem zI6 (hb:BkO d bk) (hwa:∀i,i<m→wa i≤d.n) (hinj:∀i k,i<m→k<m→wa i=wa k→i=k) (hbb:b<256) (hi:i<m) (hx:(bk (wa i) b)[k]? =some x):x≤d.n∧¬MW d wa b i ((bk (wa i) b).take k) x:=by
 obtain⟨hk,hxe⟩:=List.getElem?_eq_some_iff.1 hx;obtain⟨h1,h2⟩:=(hb.mem (wa i) b x (hwa i hi) hbb).1 (by rw[←hxe];exact List.getElem_mem hk);refine⟨h1,?_⟩;rintro (⟨k',h3,h4⟩ | h3)
 ·rw[h2] at h4;have:=hinj i k' hi (by omega) h4;omega
 ·obtain⟨j,hj,e⟩:=List.mem_iff_getElem.1 h3;rw[List.length_take] at hj;rw[List.getElem_take] at e;have:=List.pairwise_iff_getElem.1 (hb.nd (wa i) b (hwa i hi) hbb) j k (by omega) hk (by omega);exact this (e.trans hxe.symm)
theorem zI7 (hb:BkO d bk) (hwa:∀i,i<m→wa i≤d.n) (hbb:b<256) (hi:i<m) {y:Nat} (hy:y≤d.n):MW d wa b i ((bk (wa i) b).take (bk (wa i) b).length) y↔MW d wa b (i+1) [] y:=by
 rw[List.take_length];unfold MW;rw[hb.mem _ _ _ (hwa i hi) hbb];constructor
 ·rintro (⟨k,h1,h2⟩ | ⟨_,h2⟩)
  ·exact .inl ⟨k,by omega,h2⟩
  ·exact .inl ⟨i,by omega,h2⟩
 ·rintro (⟨k,h1,h2⟩ | h2)
  ·by_cases c:k=i
   ·subst c;exact .inr ⟨hy,h2⟩
   ·exact .inl ⟨k,by omega,h2⟩
  ·cases h2
end
section
variable {n:Nat} {M:Nat→Prop} {hs:List Nat} {Bs Bs1:List Blk} {st pl ob st1 pl1 ob1:Nat→Nat}
theorem zEA (h:MkI n M hs Bs st pl ob):yy n Bs.length M ob (fun j=>j∈hs.take 0) Bs pl ob:=by
 have:=YC (n:=n) (K0:=Bs.length) (H:=M) (ob:=ob) h.mrk (Nat.le_refl _);rw[show (fun j=>j∈hs.take 0)=fun _:Nat=>False from funext fun j=>propext ⟨fun e=>absurd (List.take_zero▸e) List.not_mem_nil,fun e=>e.elim⟩];exact this
theorem Vw (h:MkI n M hs Bs1 st1 pl1 ob1) {k j:Nat} (hj:hs[k]? =some j) (g:yy n Bs1.length M ob1 (fun j=>j∈hs.take k) Bs pl ob) (hp:yx n Bs st pl ob):
  ∃f t m,Bs[j]? =some (f,t,m)∧0<m∧f+m≤t∧∀Bs' ob',zAH n j Bs.length Bs Bs' pl ob ob'→yy n Bs1.length M ob1 (fun j=>j∈hs.take (k+1)) Bs' pl ob':=by
 obtain⟨hk,hke⟩:=List.getElem?_eq_some_iff.1 hj;obtain⟨y,h1,h2,h3⟩:=(h.hit j).1 (by rw[←hke];exact List.getElem_mem hk);have hnot:j∉hs.take k:=fun e=>by
  obtain⟨i,hi,e2⟩:=List.mem_iff_getElem.1 e;rw[List.length_take] at hi;rw[List.getElem_take] at e2;exact List.pairwise_iff_getElem.1 h.nd i k (by omega) hk (by omega) (e2.trans hke.symm)
 obtain⟨h4,h5⟩:=g.left y h1 (by rw[h2];exact hnot);obtain⟨f,t,m,h6,h7⟩:=h5.2 h3;rw[h4,h2] at h6;have h8:=(hp.in_iff h1 h6).1 (by rw[h4,h2]);have h9:=hp.inb _ _ _ _ h6;refine⟨f,t,m,h6,by omega,h9.2.2.1,fun Bs' ob' ho=> ?_⟩;have:=Vo g hp hnot (by rw[←h2];exact h.par.lt h1) ho;rw[show (fun i=>i∈hs.take (k+1))=fun i=>i∈hs.take k∨i=j from funext fun i=>propext (by
  rw[List.take_add_one,hj,List.mem_append];show _∨i∈ [j]↔_;rw[List.mem_singleton])]
 exact this
theorem Vx (h:MkI n M hs Bs1 st1 pl1 ob1) (g:yy n Bs1.length M ob1 (fun j=>j∈hs.take hs.length) Bs pl ob):zIU n Bs1.length M ob1 ob∧∀y,y<n→¬MkP Bs pl ob y:=by
 rw[List.take_length] at g;exact zAI g fun y hy hM=>(h.hit _).2 ⟨y,hy,rfl,hM⟩
end
end Go.Proofs.YtjeomlickkpebaaGreatDoor
namespace Go.Proofs.YtjeomlickkpebaaGreatDoor
open Go.RowKit
def zIW (w w':World) (X n:Nat) (g:Nat→Int) (e:Ending):Prop:=e= .returned (.tuple #[])∧ArrF w' X n g∧KeepW (fun k=>k≠X) w w'
section
variable {w:World} {X n:Nat} {f:Nat→Int}
theorem zEB (h:ArrF w X n f) {a b k cap:Nat} (hab:a+k≤b) (hb:b+k≤n) (hn:n≤100000) (c:Value):
  Calls Tryz.prog 106 #[.slice (some ⟨X,0,none⟩) n cap,.int .i64 a,.int .i64 b,.int .i64 k,c] w fun e w'=>zIW w w' X n (exF f a b k) e:=by
 have H0:Hid (ArrF w X n (exF f a b 0)∧KeepW (fun k=>k≠X) w w):=qh ⟨by rw[Xs];exact h,KeepW.refl _ _⟩;clear h;go_enter Tryz.func106,Tryz.ntmps106;go_wp2_with fail
 go_loopw [10] (fun s10 wr=>∃i:Nat,s10= .int .i64 (i:Int)∧i≤k∧Hid (ArrF wr X n (exF f a b i)∧KeepW (fun k=>k≠X) w wr)) (fun s10 _=>k-(intOf s10).toNat)
 case atStart=>exact⟨0,rfl,Nat.zero_le _,H0⟩
 case round=>
  obtain⟨i,rfl,hi,HX⟩:=hrel;clear H0;by_cases hlt:i<k
  ·have hA:=HX.out.1;have c1:=hA.cell (i:=a+i) (by omega);have c2:=hA.cell (i:=b+i) (by omega);have f1:=hA.frozen (a+i);have f2:=hA.frozen (b+i);have hX:=hA.lt;have q1:((a+i:Nat):Int)=(a:Int)+(i:Int):=(by omega);have q2:((b+i:Nat):Int)=(b:Int)+(i:Int):=(by omega);obtain⟨x,hx⟩:∃x,exF f a b i (a+i)=x:=⟨_,rfl⟩;obtain⟨y,hy⟩:∃y,exF f a b i (b+i)=y:=⟨_,rfl⟩;have HS:Hid (ArrF ((wr.setCell ⟨X,a+i,none⟩ (.int .i64 y)).setCell ⟨X,b+i,none⟩ (.int .i64 x)) X n (exF f a b (i+1))∧KeepW (fun k=>k≠X) w ((wr.setCell ⟨X,a+i,none⟩ (.int .i64 y)).setCell ⟨X,b+i,none⟩ (.int .i64 x))):=qh ⟨by
    rw[←hx,←hy,←Yu f (by omega)];exact hA.swap,HX.out.2.trans (vE wr X _ _ _ _)⟩
   rw[hx] at c1;rw[hy] at c2;have n1:(0:Int)≤(a:Int)+(i:Int):=(by omega);have n2:(0:Int)≤(b:Int)+(i:Int):=(by omega);have n3:(a:Int)+(i:Int)<(n:Int):=(by omega);have n4:(b:Int)+(i:Int)<(n:Int):=(by omega);have n5:(a:Int)+(i:Int)≤100000:=(by omega);have n6:(b:Int)+(i:Int)≤100000:=(by omega);have hik:(i:Int)<(k:Int):=(by omega);clear hA hx hy HX;go_wp2_with fail
   go_region
   have H2:Hid (ArrF ((wr.setCell ⟨X,a+i,none⟩ (.int .i64 y)).setCell ⟨X,b+i,none⟩ (.int .i64 x)).drew X n (exF f a b (i+1))∧KeepW (fun k=>k≠X) w ((wr.setCell ⟨X,a+i,none⟩ (.int .i64 y)).setCell ⟨X,b+i,none⟩ (.int .i64 x)).drew):=qh ⟨HS.out.1.keep (qb (fun _=>True) _) trivial,HS.out.2.trans (qb _ _)⟩;clear HS;go_wp2_with fail
   go_roundw
   case rel=>exact⟨i+1,by go_num,hlt,H2⟩
   case measure=>simp[intOf]<;>omega
  ·have hik:¬(i:Int)<(k:Int):=(by omega);have he:i=k:=(by omega);rw[he] at HX;clear he;go_wp2_with fail
   go_end0
   exact⟨rfl,HX.out⟩
theorem zBB (h:ArrF w X n f) {a m b cap:Nat} (ham:a<m) (hmb:m<b) (hb:b≤n) (hn:n≤100000) (c:Value):
  Calls Tryz.prog 99 #[.slice (some ⟨X,0,none⟩) n cap,.int .i64 a,.int .i64 m,.int .i64 b,c] w fun e w'=>zIW w w' X n (j7 f a m b) e:=by
 obtain⟨i0,hi0⟩:∃i0,m-a=i0:=⟨_,rfl⟩;obtain⟨j0,hj0⟩:∃j0,b-m=j0:=⟨_,rfl⟩;have HSW:=qh (fun (W:World) (g:Nat→Int) (hg:ArrF W X n g) (p q k:Nat) (h1:p+k≤q) (h2:q+k≤n)=>zEB (cap:=cap) hg h1 h2 hn c);have H0:Hid (∃g,ArrF w X n g∧j7 g (m-i0) m (m+j0)=j7 f a m b∧KeepW (fun k=>k≠X) w w):=qh ⟨f,h,by rw[show m-i0=a by omega,show m+j0=b by omega],KeepW.refl _ _⟩;have hA:(m:Int)-(a:Int)=(i0:Int):=by omega
 have hB:(b:Int)-(m:Int)=(j0:Int):=by omega
 have hi1:0<i0:=by omega
 have hj1:0<j0:=by omega
 have hi2:i0≤m:=by omega
 have hj2:m+j0≤n:=by omega
 clear h;go_enter Tryz.func99,Tryz.ntmps99;go_wp2_with fail
 go_loopw [10,11] (fun s10 s11 wr=>∃i j:Nat,s10= .int .i64 (i:Int)∧s11= .int .i64 (j:Int)∧0<i∧0<j∧i≤m∧m+j≤n∧Hid (∃g,ArrF wr X n g∧j7 g (m-i) m (m+j)=j7 f a m b∧KeepW (fun k=>k≠X) w wr)) (fun s10 s11 _=>(intOf s10).toNat+(intOf s11).toNat)
 case atStart=>exact⟨i0,j0,by go_num,by go_num,hi1,hj1,hi2,hj2,H0⟩
 case round=>
  clear H0 hA hB hi1 hj1 hi2 hj2 hi0 hj0;obtain⟨i,j,rfl,rfl,hi,hj,him,hjn,HX⟩:=hrel;have m1:(m:Int)-(i:Int)=((m-i:Nat):Int):=by omega
  have b1:(m:Int)≤100000:=by omega
  have b2:(i:Int)≤(m:Int):=by omega
  have b3:(m:Int)+(j:Int)≤100000:=by omega
  have b4:(0:Int)≤(i:Int):=by omega
  have b5:(0:Int)≤(j:Int):=by omega
  by_cases hij:i=j
  ·have h1:((i:Int) != (j:Int))=false:=(by rw[hij];simp);have HE:Hid (Calls Tryz.prog 106 #[.slice (some ⟨X,0,none⟩) n cap,.int .i64 ((m:Int)-(i:Int)),.int .i64 m,.int .i64 i,c] wr fun e w'=>zIW w w' X n (j7 f a m b) e):=qh (by
    obtain⟨g,g1,g2,g3⟩:=HX.out;rw[m1];refine (HSW.out wr g g1 (m-i) m i (by omega) (by omega)).mono ?_;rintro e w' ⟨rfl,q1,q2⟩;rw[zAE g him,show m+i=m+j by omega,g2] at q1;exact⟨rfl,q1,g3.trans q2⟩)
   clear HX HSW m1 hij;go_wp2_with fail
   go_fit HE.out;rintro e w2 ⟨rfl,q⟩;have HQ:=qh q;clear q;go_wp2_with fail
   go_end0
   exact⟨rfl,HQ.out⟩
  ·have h1:((i:Int) != (j:Int))=true:=(by rw[bne_iff_ne];omega);by_cases hlt:j<i
   ·have h2:(j:Int)<(i:Int):=(by omega);have HE:Hid (Calls Tryz.prog 106 #[.slice (some ⟨X,0,none⟩) n cap,.int .i64 ((m:Int)-(i:Int)),.int .i64 m,.int .i64 j,c] wr fun e w'=>e= .returned (.tuple #[])∧∃g,ArrF w' X n g∧j7 g (m-(i-j)) m (m+j)=j7 f a m b∧KeepW (fun k=>k≠X) w w'):=qh (by
     obtain⟨g,g1,g2,g3⟩:=HX.out;rw[m1];refine (HSW.out wr g g1 (m-i) m j (by omega) (by omega)).mono ?_;rintro e w' ⟨rfl,q1,q2⟩;exact⟨rfl,_,q1,by rw[zFH g hlt him,g2],g3.trans q2⟩)
    clear HX HSW m1;go_wp2_with fail
    go_fit HE.out;rintro e w2 ⟨rfl,q⟩;have HQ:=qh q;clear q;go_wp2_with fail
    go_roundw
    case rel=>exact⟨i-j,j,by go_num,rfl,by omega,hj,by omega,hjn,HQ⟩
    case measure=>simp[intOf]<;>omega
   ·have h2:¬(j:Int)<(i:Int):=(by omega);have m2:(m:Int)+(j:Int)-(i:Int)=((m+j-i:Nat):Int):=(by omega);have HE:Hid (Calls Tryz.prog 106 #[.slice (some ⟨X,0,none⟩) n cap,.int .i64 ((m:Int)-(i:Int)),.int .i64 ((m:Int)+(j:Int)-(i:Int)),.int .i64 i,c] wr fun e w'=>e= .returned (.tuple #[])∧∃g,ArrF w' X n g∧j7 g (m-i) m (m+(j-i))=j7 f a m b∧KeepW (fun k=>k≠X) w w'):=qh (by
     obtain⟨g,g1,g2,g3⟩:=HX.out;rw[m1,m2];refine (HSW.out wr g g1 (m-i) (m+j-i) i (by omega) (by omega)).mono ?_;rintro e w' ⟨rfl,q1,q2⟩;exact⟨rfl,_,q1,by rw[zFI g (by omega) him,g2],g3.trans q2⟩)
    clear HX HSW m1 m2;go_wp2_with fail
    go_fit HE.out;rintro e w2 ⟨rfl,q⟩;have HQ:=qh q;clear q;go_wp2_with fail
    go_roundw
    case rel=>exact⟨i,j-i,rfl,by go_num,hi,by omega,him,by omega,HQ⟩
    case measure=>simp[intOf]<;>omega
end
structure KY (w:World) (RB RU n:Nat) (ru:Nat→Int):Prop where
 box:w.cell? ⟨RB,0,none⟩=some (.slice (some ⟨RU,0,none⟩) n n)
 row:ArrF w RU n ru
 low:∀i,i<n→ -100000≤ru i∧ru i≤100000
def YM (RB:Nat):Value:= .func (.func 74) #[] #[.pointer (some ⟨RB,0,none⟩)]
def xC (ru:Nat→Int) (x:Int):Int:=ru x.toNat
def InF (n:Nat) (f:Nat→Int):Prop:=∀i,i<n→0≤f i∧f i<(n:Int)
def vj (w w':World) (X n a b:Nat) (ru f:Nat→Int) (e:Ending):Prop:=e= .returned (.tuple #[])∧∃g,ArrF w' X n g∧PermB a b f g∧zZ (xC ru) a b g∧KeepW (fun k=>k≠X) w w'
section
variable {w w':World} {RB RU X n:Nat} {ru f g:Nat→Int}
theorem KY.keep {ok:Nat→Prop} (h:KY w RB RU n ru) (hk:KeepW ok w w') (h1:ok RB) (h2:ok RU):KY w' RB RU n ru:=⟨hk.cell h.box h1,h.row.keep hk h2,h.low⟩
theorem InF.perm {a b:Nat} (h:InF n f) (hp:PermB a b f g) (hb:b≤n):InF n g:=fun i hi=>by
 by_cases c:i<a∨b≤i
 ·rw[hp.out c];exact h i hi
 ·obtain⟨j,j1,j2,e⟩:=hp.inn (i:=i) (by omega) (by omega);rw[e];exact h j (by omega)
theorem ZW (h:KY w RB RU n ru) {x y:Int} (hx:0≤x∧x<(n:Int)) (hy:0≤y∧y<(n:Int)):
  Calls Tryz.prog 74 #[.int .i64 x,.int .i64 y,.pointer (some ⟨RB,0,none⟩)] w fun e w'=>e= .returned (.int .i64 (xC ru x-xC ru y))∧∃q,w'=w.drewN q:=by
 have c0:=h.box;have c1:=h.row.cell (i:=x.toNat) (by omega);have c2:=h.row.cell (i:=y.toNat) (by omega);have l1:=h.low x.toNat (by omega);have l2:=h.low y.toNat (by omega);obtain⟨p,hp⟩:∃p,ru x.toNat=p:=⟨_,rfl⟩;obtain⟨q,hq⟩:∃q,ru y.toNat=q:=⟨_,rfl⟩;have HR:Hid (xC ru x-xC ru y=p-q):=qh (by unfold xC;rw[hp,hq]);rw[hp] at c1 l1;rw[hq] at c2 l2;obtain⟨x0,x1⟩:=hx;obtain⟨y0,y1⟩:=hy;obtain⟨p0,p1⟩:=l1;obtain⟨q0,q1⟩:=l2;have d0: -9223372036854775808≤p-q:=by omega
 have d1:p-q≤9223372036854775807:=by omega
 clear h hp hq;go_enter Tryz.func74,Tryz.ntmps74;go_wp2_with fail
 all_goals (try go_quiet (fail))
 all_goals (go_wp2_with fail)
 go_ret
 exact⟨by rw[HR.out];rfl,nq,rfl⟩
theorem zGX (h:ArrF w X n f) (hc:KY w RB RU n ru) (hb1:RB≠X) (hb2:RU≠X) (hin:InF n f) {a b cap:Nat} (hab:a≤b) (hb:b≤n) (hn:n≤100000):
  Calls Tryz.prog 93 #[.slice (some ⟨X,0,none⟩) n cap,.int .i64 a,.int .i64 b,YM RB] w fun e w'=>vj w w' X n a b ru f e:=by
 have HK:=qh (fun (W:World) (hk:KeepW (fun k=>k≠X) w W)=>hc.keep hk hb1 hb2);have HIN:=qh hin;have H0:Hid (∃g,ArrF w X n g∧PermB a b f g∧zZ (xC ru) a (a+1) g∧KeepW (fun k=>k≠X) w w):=qh ⟨f,h,PermB.refl _ _ _,zZ.small (Nat.le_refl _),KeepW.refl _ _⟩;have a0:(0:Int)≤(a:Int):=by omega
 have a1:(a:Int)≤100000:=by omega
 clear h hc hin;unfold YM;go_enter Tryz.func93,Tryz.ntmps93;go_wp2_with fail
 go_loopw [8] (fun s8 wr=>∃i:Nat,s8= .int .i64 (i:Int)∧a<i∧(i≤b∨i=a+1)∧Hid (∃g,ArrF wr X n g∧PermB a b f g∧zZ (xC ru) a i g∧KeepW (fun k=>k≠X) w wr)) (fun s8 _=>b-(intOf s8).toNat)
 case atStart=>exact⟨a+1,by go_num,Nat.lt_succ_self _,.inr rfl,H0⟩
 case round=>
  clear H0;obtain⟨i,rfl,hai,hib,HX⟩:=hrel;have i0:(0:Int)≤(i:Int):=by omega
  have i1:(i:Int)≤100001:=by omega
  by_cases hlt:i<b
  ·have hlti:(i:Int)<(b:Int):=(by omega);have H1:Hid (∃g,ArrF wr X n g∧PermB a b f g∧zHJ (xC ru) a i i g∧KeepW (fun k=>k≠X) w wr):=qh (by
    obtain⟨g,g1,g2,g3,g4⟩:=HX.out;exact⟨g,g1,g2,zAC g3,g4⟩)
   clear HX;go_wp2_with fail
   go_loopw [9] (fun s9 wr=>∃j:Nat,s9= .int .i64 (j:Int)∧a≤j∧j≤i∧Hid (∃g,ArrF wr X n g∧PermB a b f g∧zHJ (xC ru) a i j g∧KeepW (fun k=>k≠X) w wr)) (fun s9 _=>(intOf s9).toNat)
   case atStart=>exact⟨i,rfl,by omega,Nat.le_refl _,H1⟩
   case round=>
    clear H1;obtain⟨j,rfl,haj,hji,HX⟩:=hrel;have j0:(0:Int)≤(j:Int):=(by omega);have j1:(j:Int)≤100001:=(by omega);by_cases hja:a<j
    ·obtain⟨g,g1,g2,g3,g4⟩:=HX.out;have hin:=HIN.out.perm g2 hb;have k1:=hin j (by omega);have k2:=hin (j-1) (by omega);have c1:=g1.cell (i:=j) (by omega);have c2:=g1.cell (i:=j-1) (by omega);have f1:=g1.frozen j;have f2:=g1.frozen (j-1);have hX:=g1.lt;have HC:=qh (fun m:Nat=>ZW ((HK.out wr g4).keep (zN (fun _=>True) wr m) trivial trivial) k1 k2);have hjl:j<n:=(by omega);have HG:=qh (And.intro g1 (And.intro g2 (And.intro g3 g4)));obtain⟨x,hx⟩:∃x,g j=x:=⟨_,rfl⟩;obtain⟨y,hy⟩:∃y,g (j-1)=y:=⟨_,rfl⟩;have HXY:=qh (And.intro hx hy);have HSW:=qh (g1.swap (p:=j) (q:=j-1));rw[hx,hy] at HC HSW;rw[hx] at c1;rw[hy] at c2;clear g1 g2 g3 g4 hin k1 k2 HX hx hy;go_wp2
     go_quiet (first | (go_at_call 74;refine Calls.quiet_of (HC.out _)))
     all_goals go_wp2
     ·have hl:xC ru x-xC ru y<0:=by assumption
      go_region
      all_goals go_wp2
      go_roundw
      case rel=>
       refine⟨j-1,by go_num,by omega,by omega,qh ?_⟩;obtain⟨g1,g2,g3,g4⟩:=HG.out;obtain⟨x1,x2⟩:=HXY.out;refine⟨kM g j (j-1),?_,g2.trans (PermB.swap g (by omega) (by omega) (by omega) (by omega)),zDR g3 hja hji (by rw[x1,x2];omega),?_⟩
       ·obtain⟨cur,q1,q2⟩:=HSW.out;exact⟨cur,q1,q2⟩
       ·exact (g4.trans (zN _ wr nq)).trans ((vE (wr.drewN nq) X _ _ _ _).trans (qb _ _))
      case measure=>simp[intOf]<;>omega
     ·have hl:¬xC ru x-xC ru y<0:=by first | assumption | omega
      go_roundw
      case rel=>
       refine⟨i+1,by go_num,by omega,.inl hlt,qh ?_⟩;obtain⟨g1,g2,g3,g4⟩:=HG.out;obtain⟨x1,x2⟩:=HXY.out;exact⟨g,g1.keep (zN (fun _=>True) wr nq) trivial,g2,zAD g3 (.inr (by rw[x1,x2];omega)),g4.trans (zN _ wr nq)⟩
      case measure=>simp[intOf]<;>omega
    ·have H2:Hid (∀q,∃g,ArrF (wr.drewN q) X n g∧PermB a b f g∧zZ (xC ru) a (i+1) g∧KeepW (fun k=>k≠X) w (wr.drewN q)):=qh (by
      obtain⟨g,g1,g2,g3,g4⟩:=HX.out;exact fun q=>⟨g,g1.keep (zN (fun _=>True) _ _) trivial,g2,zAD g3 (.inl (by omega)),g4.trans (zN _ _ _)⟩)
     clear HX;go_wp2
     go_quiet (fail)
     all_goals go_wp2
     go_roundw
     case rel=>exact⟨i+1,by go_num,by omega,.inl hlt,qh (H2.out nq)⟩
     case measure=>simp[intOf]<;>omega
  ·have hlti:¬(i:Int)<(b:Int):=(by omega);have H2:Hid (∃g,ArrF wr X n g∧PermB a b f g∧zZ (xC ru) a b g∧KeepW (fun k=>k≠X) w wr):=qh (by
    obtain⟨g,g1,g2,g3,g4⟩:=HX.out;exact⟨g,g1,g2,g3.part (Nat.le_refl _) (by omega),g4⟩)
   clear HX;go_wp2_with fail
   go_end0
   exact⟨rfl,H2.out⟩
end
end Go.Proofs.YtjeomlickkpebaaGreatDoor
