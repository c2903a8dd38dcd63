/-
  slices.SortStableFunc, plain: places permuted, places in order, parts turned round, two ordered parts made one. No call is walked here.
-/
import Derived.Test.YtjeomlickkpebaaGreatDoorBe6
namespace Go.Proofs.YtjeomlickkpebaaGreatDoor
def PermB (a b:Nat) (f g:Nat→Int):Prop:=
 ∃σ τ:Nat→Nat,(∀i,σ (τ i)=i)∧(∀i,τ (σ i)=i)∧(∀i,(i<a∨b≤i)→σ i=i)∧(∀i,a≤i→i<b→a≤σ i∧σ i<b)∧∀i,g i=f (σ i)
def swapF (f:Nat→Int) (i j:Nat):Nat→Int:=fun k=>if k=i then f j else if k=j then f i else f k
def SortB (r:Int→Int) (a b:Nat) (f:Nat→Int):Prop:=∀i j,a≤i→i<j→j<b→r (f i)≤r (f j)
section
variable {a b m i j k:Nat} {f g l:Nat→Int} {r:Int→Int}
theorem PermB.refl (a b:Nat) (f:Nat→Int):PermB a b f f:=⟨id,id,fun _=>rfl,fun _=>rfl,fun _ _=>rfl,fun _ h1 h2=>⟨h1,h2⟩,fun _=>rfl⟩
theorem PermB.trans (h:PermB a b f g) (k:PermB a b g l):PermB a b f l:=by
 obtain⟨s,t,h1,h2,h3,h4,h5⟩:=h;obtain⟨u,v,k1,k2,k3,k4,k5⟩:=k;refine⟨fun i=>s (u i),fun i=>v (t i),fun i=> ?_,fun i=> ?_,fun i hi=> ?_,fun i hi hj=> ?_,fun i=> ?_⟩
 ·show s (u (v (t i)))=i;rw[k1,h1]
 ·show v (t (s (u i)))=i;rw[h2,k2]
 ·show s (u i)=i;rw[k3 i hi,h3 i hi]
 ·obtain⟨c1,c2⟩:=k4 i hi hj;exact h4 _ c1 c2
 ·rw[k5,h5]
theorem PermB.mono {a' b':Nat} (h:PermB a b f g) (ha:a'≤a) (hb:b≤b'):PermB a' b' f g:=by
 obtain⟨s,t,h1,h2,h3,h4,h5⟩:=h;refine⟨s,t,h1,h2,fun i hi=>h3 i (by omega),fun i hi hj=> ?_,h5⟩;by_cases c:i<a∨b≤i
 ·rw[h3 i c];exact⟨hi,hj⟩
 ·have:=h4 i (by omega) (by omega);omega
theorem PermB.swap (f:Nat→Int) (hi:a≤i) (hi2:i<b) (hj:a≤j) (hj2:j<b):PermB a b f (swapF f i j):=by
 have inv:∀k,(fun k=>if k=i then j else if k=j then i else k) ((fun k=>if k=i then j else if k=j then i else k) k)=k:=fun k=>by
  dsimp only;by_cases c:k=i
  ·by_cases d:j=i
   ·simp[c,d]
   ·simp[c]
  ·by_cases d:k=j
   ·simp[d]
   ·simp[c,d]
 refine⟨fun k=>if k=i then j else if k=j then i else k,fun k=>if k=i then j else if k=j then i else k,inv,inv,fun k hk=> ?_,fun k hk hk2=> ?_,fun k=> ?_⟩
 ·show (if k=i then j else if k=j then i else k)=k;rw[if_neg (by omega),if_neg (by omega)]
 ·show a≤(if k=i then j else if k=j then i else k)∧(if k=i then j else if k=j then i else k)<b;split
  ·exact⟨hj,hj2⟩
  ·split
   ·exact⟨hi,hi2⟩
   ·exact⟨hk,hk2⟩
 ·show (if k=i then f j else if k=j then f i else f k)=f (if k=i then j else if k=j then i else k);split
  ·rfl
  ·split<;>rfl
theorem PermB.out (h:PermB a b f g) (hi:i<a∨b≤i):g i=f i:=by
 obtain⟨s,t,h1,h2,h3,h4,h5⟩:=h;rw[h5,h3 i hi]
theorem PermB.inn (h:PermB a b f g) (hi:a≤i) (hj:i<b):∃j,a≤j∧j<b∧g i=f j:=by
 obtain⟨s,t,h1,h2,h3,h4,h5⟩:=h;exact⟨s i,(h4 i hi hj).1,(h4 i hi hj).2,h5 i⟩
theorem SortB.congr (h:SortB r a b f) (he:∀i,a≤i→i<b→g i=f i):SortB r a b g:=fun i j h1 h2 h3=>by
 rw[he i h1 (by omega),he j (by omega) h3];exact h i j h1 h2 h3
theorem SortB.le (h:SortB r a b f) (h1:a≤i) (h2:i≤j) (h3:j<b):r (f i)≤r (f j):=by
 by_cases c:i=j
 ·subst c;exact Int.le_refl _
 ·exact h i j h1 (by omega) h3
theorem SortB.small (h:b≤a+1):SortB r a b f:=fun i j h1 h2 h3=>by omega
theorem SortB.part {a' b':Nat} (h:SortB r a b f) (ha:a≤a') (hb:b'≤b):SortB r a' b' f:=fun i j h1 h2 h3=>h i j (by omega) h2 (by omega)
def InsI (r:Int→Int) (a i j:Nat) (f:Nat→Int):Prop:=∀x y,a≤x→x<y→y≤i→y≠j→r (f x)≤r (f y)
theorem ins_start (h:SortB r a i f):InsI r a i i f:=fun x y h1 h2 h3 h4=>h x y h1 h2 (by omega)
theorem ins_end (h:InsI r a i j f) (hj:j=a∨¬r (f j)<r (f (j-1))):SortB r a (i+1) f:=fun x y h1 h2 h3=>by
 by_cases c:y=j
 ·subst c;rcases hj with hj | hj
  ·omega
  ·by_cases d:x=y-1
   ·subst d;omega
   ·have:=h x (y-1) h1 (by omega) (by omega) (by omega);omega
 ·exact h x y h1 h2 (by omega) c
theorem ins_step (h:InsI r a i j f) (ha:a<j) (hi:j≤i) (hlt:r (f j)<r (f (j-1))):InsI r a i (j-1) (swapF f j (j-1)):=fun x y h1 h2 h3 h4=>by
 unfold swapF;by_cases c:y=j
 ·subst c;rw[if_pos rfl];by_cases d:x=y-1
  ·rw[if_neg (by omega),if_pos d];omega
  ·rw[if_neg (by omega),if_neg d];exact h x (y-1) h1 (by omega) (by omega) (by omega)
 ·rw[if_neg c,if_neg h4];by_cases d:x=j
  ·rw[if_pos d];exact h (j-1) y (by omega) (by omega) h3 c
  ·rw[if_neg d];by_cases e:x=j-1
   ·rw[if_pos e];exact h j y (by omega) (by omega) h3 c
   ·rw[if_neg e];exact h x y h1 h2 h3 c
def movF (f:Nat→Int) (a k:Nat):Nat→Int:=fun x=>if a≤x∧x<k then f (x+1) else if x=k then f a else f x
def movB (f:Nat→Int) (m k:Nat):Nat→Int:=fun x=>if k<x∧x≤m then f (x-1) else if x=k then f m else f x
theorem movF_zero (f:Nat→Int) (a:Nat):movF f a a=f:=by
 funext x;unfold movF;rw[if_neg (by omega)];split
 ·rename_i h;rw[h]
 ·rfl
theorem movF_step (f:Nat→Int) (h:a≤k):swapF (movF f a k) k (k+1)=movF f a (k+1):=by
 funext x;unfold swapF movF;by_cases c:x=k
 ·subst c;rw[if_pos rfl,if_neg (by omega),if_neg (by omega),if_pos (by omega)]
 ·rw[if_neg c];by_cases d:x=k+1
  ·subst d;rw[if_pos rfl,if_neg (by omega),if_pos rfl,if_neg (by omega),if_pos rfl]
  ·rw[if_neg d];by_cases e:a≤x∧x<k
   ·rw[if_pos e,if_pos (by omega)]
   ·rw[if_neg e,if_neg c,if_neg (by omega),if_neg d]
theorem movF_sorted (hs:SortB r (a+1) b f) (hi:a+1≤i) (hb:i≤b) (hlo:∀y,a+1≤y→y<i→r (f y)<r (f a)) (hhi:∀y,i≤y→y<b→r (f a)≤r (f y)):SortB r a b (movF f a (i-1)):=fun x y h1 h2 h3=>by
 unfold movF;by_cases c:x<i-1
 ·rw[if_pos (by omega)];by_cases d:y<i-1
  ·rw[if_pos (by omega)];exact hs (x+1) (y+1) (by omega) (by omega) (by omega)
  ·rw[if_neg (by omega)];by_cases e:y=i-1
   ·rw[if_pos e];exact Int.le_of_lt (hlo (x+1) (by omega) (by omega))
   ·rw[if_neg e];exact hs.le (by omega) (by omega) h3
 ·rw[if_neg (by omega),if_neg (c:=a≤y∧y<i-1) (by omega),if_neg (c:=y=i-1) (by omega)];by_cases d:x=i-1
  ·rw[if_pos d];exact hhi y (by omega) h3
  ·rw[if_neg d];exact hs x y (by omega) h2 h3
theorem movB_zero (f:Nat→Int) (m:Nat):movB f m m=f:=by
 funext x;unfold movB;rw[if_neg (by omega)];split
 ·rename_i h;rw[h]
 ·rfl
theorem movB_step (f:Nat→Int) (h:k≤m) (h0:0<k):swapF (movB f m k) k (k-1)=movB f m (k-1):=by
 funext x;unfold swapF movB;by_cases c:x=k
 ·subst c;rw[if_pos rfl,if_neg (by omega),if_neg (by omega),if_pos (by omega)]
 ·rw[if_neg c];by_cases d:x=k-1
  ·subst d;rw[if_pos rfl,if_neg (by omega),if_pos rfl,if_neg (by omega),if_pos rfl]
  ·rw[if_neg d];by_cases e:k<x∧x≤m
   ·rw[if_pos e,if_pos (by omega)]
   ·rw[if_neg e,if_neg c,if_neg (by omega),if_neg d]
theorem movB_sorted (hs:SortB r a m f) (hi:a≤i) (hb:i≤m) (hlo:∀y,a≤y→y<i→r (f y)≤r (f m)) (hhi:∀y,i≤y→y<m→r (f m)<r (f y)):SortB r a (m+1) (movB f m i):=fun x y h1 h2 h3=>by
 unfold movB;by_cases c:i<x
 ·rw[if_pos (by omega),if_pos (by omega)];exact hs (x-1) (y-1) (by omega) (by omega) (by omega)
 ·rw[if_neg (by omega)];by_cases d:x=i
  ·rw[if_pos d,if_pos (by omega)];exact Int.le_of_lt (hhi (y-1) (by omega) (by omega))
  ·rw[if_neg d];by_cases e:i<y
   ·rw[if_pos (by omega)];exact hs.le h1 (by omega) (by omega)
   ·rw[if_neg (by omega)];by_cases g:y=i
    ·rw[if_pos g];exact hlo x h1 (by omega)
    ·rw[if_neg g];exact hs x y h1 h2 (by omega)
def rotF (f:Nat→Int) (a m b:Nat):Nat→Int:=fun x=>if a≤x∧x<a+(b-m) then f (x+(m-a)) else if a+(b-m)≤x∧x<b then f (x-(b-m)) else f x
def exF (f:Nat→Int) (a b n:Nat):Nat→Int:=fun x=>if a≤x∧x<a+n then f (x-a+b) else if b≤x∧x<b+n then f (x-b+a) else f x
theorem exF_zero (f:Nat→Int) (a b:Nat):exF f a b 0=f:=by
 funext x;unfold exF;rw[if_neg (by omega),if_neg (by omega)]
theorem exF_step (f:Nat→Int) {n:Nat} (h:a+n<b):swapF (exF f a b n) (a+n) (b+n)=exF f a b (n+1):=by
 funext x;unfold swapF exF;by_cases c:x=a+n
 ·subst c;rw[if_pos rfl,if_neg (by omega),if_neg (by omega),if_pos (by omega)];congr 1;omega
 ·rw[if_neg c];by_cases d:x=b+n
  ·subst d;rw[if_pos rfl,if_neg (by omega),if_neg (by omega),if_neg (by omega),if_pos (by omega)];congr 1;omega
  ·rw[if_neg d];by_cases e:a≤x∧x<a+n
   ·rw[if_pos e,if_pos (by omega)]
   ·rw[if_neg e,if_neg (c:=a≤x∧x<a+(n+1)) (by omega)];by_cases g:b≤x∧x<b+n
    ·rw[if_pos g,if_pos (by omega)]
    ·rw[if_neg g,if_neg (by omega)]
theorem exF_perm (f:Nat→Int) {n p q:Nat} (h:a+n≤b) (hp:p≤a) (hq:b+n≤q):PermB p q f (exF f a b n):=by
 induction n with
 | zero=>rw[exF_zero];exact PermB.refl _ _ _
 | succ n ih=>
  rw[←exF_step f (by omega)];exact (ih (by omega) (by omega)).trans (PermB.swap _ (by omega) (by omega) (by omega) (by omega))
theorem rot_gt (f:Nat→Int) (h:j<i) (hi:i≤m):rotF (exF f (m-i) m j) (m-(i-j)) m (m+j)=rotF f (m-i) m (m+j):=by
 funext x;unfold rotF exF;by_cases c1:x<m-i
 ·simp (disch:=omega) only[if_neg]
 ·by_cases c2:x<m-i+j
  ·simp (disch:=omega) only[if_neg,if_pos];congr 1;omega
  ·by_cases c3:x<m
   ·by_cases c4:x<m-(i-j)+j
    ·simp (disch:=omega) only[if_neg,if_pos];congr 1;omega
    ·simp (disch:=omega) only[if_neg,if_pos]
   ·by_cases c4:x<m-(i-j)+j
    ·simp (disch:=omega) only[if_neg,if_pos];congr 1;omega
    ·by_cases c5:x<m+j
     ·simp (disch:=omega) only[if_neg,if_pos]
     ·simp (disch:=omega) only[if_neg]
theorem rot_lt (f:Nat→Int) (h:i<j) (hi:i≤m):rotF (exF f (m-i) (m+j-i) i) (m-i) m (m+(j-i))=rotF f (m-i) m (m+j):=by
 funext x;unfold rotF exF;by_cases c1:x<m-i
 ·simp (disch:=omega) only[if_neg]
 ·by_cases c2:x<m+(j-i)-i
  ·by_cases c3:x+i<m+j-i
   ·by_cases c4:x+i<m
    ·omega
    ·simp (disch:=omega) only[if_neg,if_pos]
   ·omega
  ·by_cases c3:x<m+(j-i)
   ·simp (disch:=omega) only[if_neg,if_pos];congr 1;omega
   ·by_cases c5:x<m+j
    ·simp (disch:=omega) only[if_neg,if_pos];congr 1;omega
    ·simp (disch:=omega) only[if_neg]
theorem rot_eq (f:Nat→Int) (hi:i≤m):exF f (m-i) m i=rotF f (m-i) m (m+i):=by
 funext x;unfold rotF exF;by_cases c1:x<m-i
 ·simp (disch:=omega) only[if_neg]
 ·by_cases c2:x<m
  ·simp (disch:=omega) only[if_neg,if_pos];congr 1;omega
  ·by_cases c3:x<m+i
   ·simp (disch:=omega) only[if_neg,if_pos];congr 1;omega
   ·simp (disch:=omega) only[if_neg]
structure TurnI (r:Int→Int) (f:Nat→Int) (a m b s:Nat):Prop where
 lo:a≤s
 hi:s≤m
 e1:m≤(a+b)/2+m-s
 e2:(a+b)/2+m-s≤b
 left:∀x y,a≤x→x<s→(a+b)/2+m-s≤y→y<b→r (f x)≤r (f y)
 right:∀x y,s≤x→x<m→m≤y→y<(a+b)/2+m-s→r (f y)≤r (f x)
structure SeekI (r:Int→Int) (f:Nat→Int) (p lo hi s t:Nat):Prop where
 l1:lo≤s
 l2:s≤t
 l3:t≤hi
 low:∀c,lo≤c→c<s→r (f c)≤r (f (p-c))
 high:∀c,t≤c→c<hi→r (f (p-c))<r (f c)
theorem turn_of (ha:a<m) (hb:m<b) (hs1:SortB r a m f) (hs2:SortB r m b f) {lo hi s:Nat} (h:SeekI r f ((a+b)/2+m-1) lo hi s s)
  (hlh:if (a+b)/2<m then lo=(a+b)/2+m-b∧hi=(a+b)/2 else lo=a∧hi=m):TurnI r f a m b s:=by
 have h1:=h.l1;have h3:=h.l3;have hA:(a≤lo)∧hi≤m∧((lo=a)∨(a+b)/2+m-lo=b)∧(hi=m∨hi=(a+b)/2)∧(a+b)/2+m-lo≤b:=by
  split at hlh<;>omega
 obtain⟨q1,q2,q3,q4,q5⟩:=hA;refine⟨by omega,by omega,?_,by omega,fun x y hx1 hx2 hy1 hy2=> ?_,fun x y hx1 hx2 hy1 hy2=> ?_⟩
 ·rcases q4 with q4 | q4
  ·have:(a+b)/2+m-m≤(a+b)/2+m-s:=(by omega);split at hlh<;>omega
  ·omega
 ·by_cases c:s=lo
  ·rcases q3 with q3 | q3
   ·omega
   ·omega
  ·have:=h.low (s-1) (by omega) (by omega);have e1:r (f x)≤r (f (s-1)):=hs1.le hx1 (by omega) (by omega);have e2:r (f ((a+b)/2+m-1-(s-1)))≤r (f y):=by
    refine hs2.le ?_ (by omega) hy2;split at hlh<;>omega
   omega
 ·by_cases c:s=hi
  ·rcases q4 with q4 | q4
   ·omega
   ·omega
  ·have:=h.high s (Nat.le_refl _) (by omega);have e1:r (f s)≤r (f x):=hs1.le (by omega) hx1 hx2;have e2:r (f y)≤r (f ((a+b)/2+m-1-s)):=by
    refine hs2.le hy1 (by omega) ?_;split at hlh<;>omega
   omega
theorem SeekI.start {lo hi p:Nat} (h:lo≤hi):SeekI r f p lo hi lo hi:=⟨Nat.le_refl _,h,Nat.le_refl _,fun c h1 h2=>by omega,fun c h1 h2=>by omega⟩
theorem SeekI.up {lo hi p s t c:Nat} (h:SeekI r f p lo hi s t) (hc:s≤c) (hc2:c<t) (hm:∀x y,lo≤x→x≤y→y<hi→r (f x)≤r (f y)∧r (f (p-y))≤r (f (p-x))) (hle:¬r (f (p-c))<r (f c)):SeekI r f p lo hi (c+1) t:=
 ⟨by have:=h.l1;omega,by omega,h.l3,fun x h1 h2=>by
  have:=hm x c h1 (by omega) (by have:=h.l3;omega);omega,h.high⟩
theorem SeekI.down {lo hi p s t c:Nat} (h:SeekI r f p lo hi s t) (hc:s≤c) (hc2:c<t) (hm:∀x y,lo≤x→x≤y→y<hi→r (f x)≤r (f y)∧r (f (p-y))≤r (f (p-x))) (hlt:r (f (p-c))<r (f c)):SeekI r f p lo hi s c:=
 ⟨h.l1,hc,by have:=h.l3;omega,h.low,fun x h1 h2=>by
  have:=hm c x (by have:=h.l1;omega) h1 h2;omega⟩
theorem rot_perm_aux (f:Nat→Int) {p q:Nat}:∀(n i j m:Nat),i+j≤n→i≤m→p≤m-i→m+j≤q→PermB p q f (rotF f (m-i) m (m+j)):=by
 intro n
 induction n generalizing f with
 | zero=>
  intro i j m hn hi hp hq;have hi0:i=0:=by omega
  have hj0:j=0:=by omega
  subst hi0;subst hj0;have:=rot_eq f (m:=m) (i:=0) (by omega);rw[←this,exF_zero];exact PermB.refl _ _ _
 | succ n ih=>
  intro i j m hn hi hp hq;by_cases c0:i=0
  ·subst c0;have:rotF f (m-0) m (m+j)=f:=by
    funext x;unfold rotF;by_cases c:m-0≤x∧x<m-0+(m+j-m)
    ·rw[if_pos c];congr 1;omega
    ·rw[if_neg c,if_neg (by omega)]
   rw[this];exact PermB.refl _ _ _
  ·by_cases c1:j=0
   ·subst c1;have:rotF f (m-i) m (m+0)=f:=by
     funext x;unfold rotF;rw[if_neg (by omega)];split
     ·congr 1;omega
     ·rfl
    rw[this];exact PermB.refl _ _ _
   ·by_cases c2:i=j
    ·subst c2;rw[←rot_eq f hi];exact exF_perm f (by omega) hp (by omega)
    ·by_cases c3:j<i
     ·rw[←rot_gt f c3 hi];exact (exF_perm f (by omega) hp (by omega)).trans (ih _ (i-j) j m (by omega) (by omega) (by omega) (by omega))
     ·rw[←rot_lt f (by omega) hi];exact (exF_perm f (by omega) hp (by omega)).trans (ih _ i (j-i) m (by omega) (by omega) (by omega) (by omega))
theorem rot_perm (f:Nat→Int) {p q s e:Nat} (h1:s≤m) (h2:m≤e) (hp:p≤s) (hq:e≤q):PermB p q f (rotF f s m e):=by
 have:=rot_perm_aux f (p:=p) (q:=q) (m-s+(e-m)) (m-s) (e-m) m (Nat.le_refl _) (by omega) (by omega) (by omega)
 rwa [show m-(m-s)=s by omega,show m+(e-m)=e by omega] at this
theorem rot_none (f:Nat→Int) {s e:Nat} (h1:s≤m) (h2:m≤e) (h:s=m∨m=e):rotF f s m e=f:=by
 funext x;unfold rotF;rcases h with rfl | rfl
 ·by_cases c:s≤x∧x<s+(e-s)
  ·rw[if_pos c];congr 1;omega
  ·rw[if_neg c,if_neg (by omega)]
 ·rw[if_neg (by omega)];split
  ·congr 1;omega
  ·rfl
theorem turn_parts (ha:a<m) (_:m<b) (hs1:SortB r a m f) (hs2:SortB r m b f) {s e mid:Nat} (hmid:mid=(a+b)/2) (he:e=mid+m-s) (h:TurnI r f a m b s) (hg:g=rotF f s m e):
  SortB r a s g∧SortB r s mid g∧SortB r mid e g∧SortB r e b g∧∀x y,a≤x→x<mid→mid≤y→y<b→r (g x)≤r (g y):=by
 subst hmid;subst he;subst hg;obtain⟨h1,h2,h3,h4,h5,h6⟩:=h;have A:∀x,x<s→rotF f s m ((a+b)/2+m-s) x=f x:=fun x hx=>by unfold rotF;rw[if_neg (by omega),if_neg (by omega)]
 have B:∀x,s≤x→x<(a+b)/2→rotF f s m ((a+b)/2+m-s) x=f (x+(m-s)):=fun x hx hx2=>by unfold rotF;rw[if_pos (by omega)]
 have C:∀x,(a+b)/2≤x→x<(a+b)/2+m-s→rotF f s m ((a+b)/2+m-s) x=f (x-((a+b)/2+m-s-m)):=fun x hx hx2=>by unfold rotF;rw[if_neg (by omega),if_pos (by omega)]
 have D:∀x,(a+b)/2+m-s≤x→rotF f s m ((a+b)/2+m-s) x=f x:=fun x hx=>by unfold rotF;rw[if_neg (by omega),if_neg (by omega)]
 refine⟨fun x y h1 h2 h3=> ?_,fun x y h1 h2 h3=> ?_,fun x y h1 h2 h3=> ?_,fun x y h1 h2 h3=> ?_,fun x y hx1 hx2 hy1 hy2=> ?_⟩
 ·rw[A x (by omega),A y (by omega)];exact hs1 x y h1 h2 (by omega)
 ·rw[B x (by omega) (by omega),B y (by omega) (by omega)];exact hs2 _ _ (by omega) (by omega) (by omega)
 ·rw[C x (by omega) (by omega),C y (by omega) (by omega)];exact hs1 _ _ (by omega) (by omega) (by omega)
 ·rw[D x (by omega),D y (by omega)];exact hs2 _ _ (by omega) (by omega) (by omega)
 ·by_cases c:x<s
  ·rw[A x c];by_cases d:y<(a+b)/2+m-s
   ·rw[C y hy1 d];exact hs1.le hx1 (by omega) (by omega)
   ·rw[D y (by omega)];exact h5 x y hx1 c (by omega) hy2
  ·rw[B x (by omega) hx2];by_cases d:y<(a+b)/2+m-s
   ·rw[C y hy1 d];exact h6 _ _ (by omega) (by omega) (by omega) (by omega)
   ·rw[D y (by omega)];exact hs2.le (by omega) (by omega) hy2
theorem sort_join {mid:Nat} (h1:SortB r a mid f) (h2:SortB r mid b f) (h3:∀x y,a≤x→x<mid→mid≤y→y<b→r (f x)≤r (f y)):SortB r a b f:=fun x y hx hxy hy=>by
 by_cases c:y<mid
 ·exact h1 x y hx hxy c
 ·by_cases d:x<mid
  ·exact h3 x y hx d (by omega) hy
  ·exact h2 x y (by omega) hxy hy
theorem le_perm {mid:Nat} (h3:∀x y,a≤x→x<mid→mid≤y→y<b→r (f x)≤r (f y)) {l:Nat→Int} (p1:PermB a mid f g) (p2:PermB mid b g l):∀x y,a≤x→x<mid→mid≤y→y<b→r (l x)≤r (l y):=fun x y hx hx2 hy hy2=>by
 rw[p2.out (.inl hx2)];obtain⟨i,i1,i2,hi⟩:=p1.inn hx hx2;obtain⟨j,j1,j2,hj⟩:=p2.inn hy hy2;rw[hi,hj,p1.out (.inr (by omega))];exact h3 i j i1 i2 j1 j2
end
end Go.Proofs.YtjeomlickkpebaaGreatDoor
