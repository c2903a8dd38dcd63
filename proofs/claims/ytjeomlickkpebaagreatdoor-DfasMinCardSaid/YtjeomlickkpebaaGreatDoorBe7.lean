/-
  Texts of this proof, one behind the other; each begins with its own remark.
-/
import Derived.Test.YtjeomlickkpebaaGreatDoorBe6
import Derived.Test.YtjeomlickkpebaaGreatDoorBe3
namespace Go.Proofs.YtjeomlickkpebaaGreatDoor
def PermB (a b:Nat) (f g:Nat→Int):Prop:=
 ∃σ τ:Nat→Nat,(∀i,σ (τ i)=i)∧(∀i,τ (σ i)=i)∧(∀i,(i<a∨b≤i)→σ i=i)∧(∀i,a≤i→i<b→a≤σ i∧σ i<b)∧∀i,g i=f (σ i)
def kM (f:Nat→Int) (i j:Nat):Nat→Int:=fun k=>if k=i then f j else if k=j then f i else f k
def zZ (r:Int→Int) (a b:Nat) (f:Nat→Int):Prop:=∀i j,a≤i→i<j→j<b→r (f i)≤r (f j)
section
variable {a b m i j k:Nat} {f g l:Nat→Int} {r:Int→Int}
theorem PermB.refl (a b:Nat) (f:Nat→Int):PermB a b f f:=⟨id,id,fun _=>rfl,fun _=>rfl,fun _ _=>rfl,fun _ h1 h2=>⟨h1,h2⟩,fun _=>rfl⟩
theorem PermB.trans (h:PermB a b f g) (k:PermB a b g l):PermB a b f l:=by
 obtain⟨s,t,h1,h2,h3,h4,h5⟩:=h;obtain⟨u,v,k1,k2,k3,k4,k5⟩:=k;refine⟨fun i=>s (u i),fun i=>v (t i),fun i=> ?_,fun i=> ?_,fun i hi=> ?_,fun i hi hj=> ?_,fun i=> ?_⟩
 ·show s (u (v (t i)))=i;rw[k1,h1]
 ·show v (t (s (u i)))=i;rw[h2,k2]
 ·show s (u i)=i;rw[k3 i hi,h3 i hi]
 ·obtain⟨c1,c2⟩:=k4 i hi hj;exact h4 _ c1 c2
 ·rw[k5,h5]
theorem PermB.mono {a' b':Nat} (h:PermB a b f g) (ha:a'≤a) (hb:b≤b'):PermB a' b' f g:=by
 obtain⟨s,t,h1,h2,h3,h4,h5⟩:=h;refine⟨s,t,h1,h2,fun i hi=>h3 i (by omega),fun i hi hj=> ?_,h5⟩;by_cases c:i<a∨b≤i
 ·rw[h3 i c];exact⟨hi,hj⟩
 ·have:=h4 i (by omega) (by omega);omega
theorem PermB.swap (f:Nat→Int) (hi:a≤i) (hi2:i<b) (hj:a≤j) (hj2:j<b):PermB a b f (kM f i j):=by
 have inv:∀k,(fun k=>if k=i then j else if k=j then i else k) ((fun k=>if k=i then j else if k=j then i else k) k)=k:=fun k=>by
  dsimp only;by_cases c:k=i
  ·by_cases d:j=i
   ·simp[c,d]
   ·simp[c]
  ·by_cases d:k=j
   ·simp[d]
   ·simp[c,d]
 refine⟨fun k=>if k=i then j else if k=j then i else k,fun k=>if k=i then j else if k=j then i else k,inv,inv,fun k hk=> ?_,fun k hk hk2=> ?_,fun k=> ?_⟩
 ·show (if k=i then j else if k=j then i else k)=k;rw[if_neg (by omega),if_neg (by omega)]
 ·show a≤(if k=i then j else if k=j then i else k)∧(if k=i then j else if k=j then i else k)<b;split
  ·exact⟨hj,hj2⟩
  ·split
   ·exact⟨hi,hi2⟩
   ·exact⟨hk,hk2⟩
 ·show (if k=i then f j else if k=j then f i else f k)=f (if k=i then j else if k=j then i else k);split
  ·rfl
  ·split<;>rfl
theorem PermB.out (h:PermB a b f g) (hi:i<a∨b≤i):g i=f i:=by
 obtain⟨s,t,h1,h2,h3,h4,h5⟩:=h;rw[h5,h3 i hi]
theorem PermB.inn (h:PermB a b f g) (hi:a≤i) (hj:i<b):∃j,a≤j∧j<b∧g i=f j:=by
 obtain⟨s,t,h1,h2,h3,h4,h5⟩:=h;exact⟨s i,(h4 i hi hj).1,(h4 i hi hj).2,h5 i⟩
theorem zZ.congr (h:zZ r a b f) (he:∀i,a≤i→i<b→g i=f i):zZ r a b g:=fun i j h1 h2 h3=>by
 rw[he i h1 (by omega),he j (by omega) h3];exact h i j h1 h2 h3
theorem zZ.le (h:zZ r a b f) (h1:a≤i) (h2:i≤j) (h3:j<b):r (f i)≤r (f j):=by
 by_cases c:i=j
 ·subst c;exact Int.le_refl _
 ·exact h i j h1 (by omega) h3
theorem zZ.small (h:b≤a+1):zZ r a b f:=fun i j h1 h2 h3=>by omega
theorem zZ.part {a' b':Nat} (h:zZ r a b f) (ha:a≤a') (hb:b'≤b):zZ r a' b' f:=fun i j h1 h2 h3=>h i j (by omega) h2 (by omega)
def zHJ (r:Int→Int) (a i j:Nat) (f:Nat→Int):Prop:=∀x y,a≤x→x<y→y≤i→y≠j→r (f x)≤r (f y)
theorem zAC (h:zZ r a i f):zHJ r a i i f:=fun x y h1 h2 h3 h4=>h x y h1 h2 (by omega)
theorem zAD (h:zHJ r a i j f) (hj:j=a∨¬r (f j)<r (f (j-1))):zZ r a (i+1) f:=fun x y h1 h2 h3=>by
 by_cases c:y=j
 ·subst c;rcases hj with hj | hj
  ·omega
  ·by_cases d:x=y-1
   ·subst d;omega
   ·have:=h x (y-1) h1 (by omega) (by omega) (by omega);omega
 ·exact h x y h1 h2 (by omega) c
theorem zDR (h:zHJ r a i j f) (ha:a<j) (hi:j≤i) (hlt:r (f j)<r (f (j-1))):zHJ r a i (j-1) (kM f j (j-1)):=fun x y h1 h2 h3 h4=>by
 unfold kM;by_cases c:y=j
 ·subst c;rw[if_pos rfl];by_cases d:x=y-1
  ·rw[if_neg (by omega),if_pos d];omega
  ·rw[if_neg (by omega),if_neg d];exact h x (y-1) h1 (by omega) (by omega) (by omega)
 ·rw[if_neg c,if_neg h4];by_cases d:x=j
  ·rw[if_pos d];exact h (j-1) y (by omega) (by omega) h3 c
  ·rw[if_neg d];by_cases e:x=j-1
   ·rw[if_pos e];exact h j y (by omega) (by omega) h3 c
   ·rw[if_neg e];exact h x y h1 h2 h3 c
def Ys (f:Nat→Int) (a k:Nat):Nat→Int:=fun x=>if a≤x∧x<k then f (x+1) else if x=k then f a else f x
def Yt (f:Nat→Int) (m k:Nat):Nat→Int:=fun x=>if k<x∧x≤m then f (x-1) else if x=k then f m else f x
theorem Qw (f:Nat→Int) (a:Nat):Ys f a a=f:=by
 funext x;unfold Ys;rw[if_neg (by omega)];split
 ·rename_i h;rw[h]
 ·rfl
theorem Qx (f:Nat→Int) (h:a≤k):kM (Ys f a k) k (k+1)=Ys f a (k+1):=by
 funext x;unfold kM Ys;by_cases c:x=k
 ·subst c;rw[if_pos rfl,if_neg (by omega),if_neg (by omega),if_pos (by omega)]
 ·rw[if_neg c];by_cases d:x=k+1
  ·subst d;rw[if_pos rfl,if_neg (by omega),if_pos rfl,if_neg (by omega),if_pos rfl]
  ·rw[if_neg d];by_cases e:a≤x∧x<k
   ·rw[if_pos e,if_pos (by omega)]
   ·rw[if_neg e,if_neg c,if_neg (by omega),if_neg d]
theorem YA (hs:zZ r (a+1) b f) (hi:a+1≤i) (hb:i≤b) (hlo:∀y,a+1≤y→y<i→r (f y)<r (f a)) (hhi:∀y,i≤y→y<b→r (f a)≤r (f y)):zZ r a b (Ys f a (i-1)):=fun x y h1 h2 h3=>by
 unfold Ys;by_cases c:x<i-1
 ·rw[if_pos (by omega)];by_cases d:y<i-1
  ·rw[if_pos (by omega)];exact hs (x+1) (y+1) (by omega) (by omega) (by omega)
  ·rw[if_neg (by omega)];by_cases e:y=i-1
   ·rw[if_pos e];exact Int.le_of_lt (hlo (x+1) (by omega) (by omega))
   ·rw[if_neg e];exact hs.le (by omega) (by omega) h3
 ·rw[if_neg (by omega),if_neg (c:=a≤y∧y<i-1) (by omega),if_neg (c:=y=i-1) (by omega)];by_cases d:x=i-1
  ·rw[if_pos d];exact hhi y (by omega) h3
  ·rw[if_neg d];exact hs x y (by omega) h2 h3
theorem Qy (f:Nat→Int) (m:Nat):Yt f m m=f:=by
 funext x;unfold Yt;rw[if_neg (by omega)];split
 ·rename_i h;rw[h]
 ·rfl
theorem Qz (f:Nat→Int) (h:k≤m) (h0:0<k):kM (Yt f m k) k (k-1)=Yt f m (k-1):=by
 funext x;unfold kM Yt;by_cases c:x=k
 ·subst c;rw[if_pos rfl,if_neg (by omega),if_neg (by omega),if_pos (by omega)]
 ·rw[if_neg c];by_cases d:x=k-1
  ·subst d;rw[if_pos rfl,if_neg (by omega),if_pos rfl,if_neg (by omega),if_pos rfl]
  ·rw[if_neg d];by_cases e:k<x∧x≤m
   ·rw[if_pos e,if_pos (by omega)]
   ·rw[if_neg e,if_neg c,if_neg (by omega),if_neg d]
theorem YB (hs:zZ r a m f) (hi:a≤i) (hb:i≤m) (hlo:∀y,a≤y→y<i→r (f y)≤r (f m)) (hhi:∀y,i≤y→y<m→r (f m)<r (f y)):zZ r a (m+1) (Yt f m i):=fun x y h1 h2 h3=>by
 unfold Yt;by_cases c:i<x
 ·rw[if_pos (by omega),if_pos (by omega)];exact hs (x-1) (y-1) (by omega) (by omega) (by omega)
 ·rw[if_neg (by omega)];by_cases d:x=i
  ·rw[if_pos d,if_pos (by omega)];exact Int.le_of_lt (hhi (y-1) (by omega) (by omega))
  ·rw[if_neg d];by_cases e:i<y
   ·rw[if_pos (by omega)];exact hs.le h1 (by omega) (by omega)
   ·rw[if_neg (by omega)];by_cases g:y=i
    ·rw[if_pos g];exact hlo x h1 (by omega)
    ·rw[if_neg g];exact hs x y h1 h2 (by omega)
def j7 (f:Nat→Int) (a m b:Nat):Nat→Int:=fun x=>if a≤x∧x<a+(b-m) then f (x+(m-a)) else if a+(b-m)≤x∧x<b then f (x-(b-m)) else f x
def exF (f:Nat→Int) (a b n:Nat):Nat→Int:=fun x=>if a≤x∧x<a+n then f (x-a+b) else if b≤x∧x<b+n then f (x-b+a) else f x
theorem Xs (f:Nat→Int) (a b:Nat):exF f a b 0=f:=by
 funext x;unfold exF;rw[if_neg (by omega),if_neg (by omega)]
theorem Yu (f:Nat→Int) {n:Nat} (h:a+n<b):kM (exF f a b n) (a+n) (b+n)=exF f a b (n+1):=by
 funext x;unfold kM exF;by_cases c:x=a+n
 ·subst c;rw[if_pos rfl,if_neg (by omega),if_neg (by omega),if_pos (by omega)];congr 1;omega
 ·rw[if_neg c];by_cases d:x=b+n
  ·subst d;rw[if_pos rfl,if_neg (by omega),if_neg (by omega),if_neg (by omega),if_pos (by omega)];congr 1;omega
  ·rw[if_neg d];by_cases e:a≤x∧x<a+n
   ·rw[if_pos e,if_pos (by omega)]
   ·rw[if_neg e,if_neg (c:=a≤x∧x<a+(n+1)) (by omega)];by_cases g:b≤x∧x<b+n
    ·rw[if_pos g,if_pos (by omega)]
    ·rw[if_neg g,if_neg (by omega)]
theorem Xt (f:Nat→Int) {n p q:Nat} (h:a+n≤b) (hp:p≤a) (hq:b+n≤q):PermB p q f (exF f a b n):=by
 induction n with
 | zero=>rw[Xs];exact PermB.refl _ _ _
 | succ n ih=>
  rw[←Yu f (by omega)];exact (ih (by omega) (by omega)).trans (PermB.swap _ (by omega) (by omega) (by omega) (by omega))
theorem zFH (f:Nat→Int) (h:j<i) (hi:i≤m):j7 (exF f (m-i) m j) (m-(i-j)) m (m+j)=j7 f (m-i) m (m+j):=by
 funext x;unfold j7 exF;by_cases c1:x<m-i
 ·simp (disch:=omega) only[if_neg]
 ·by_cases c2:x<m-i+j
  ·simp (disch:=omega) only[if_neg,if_pos];congr 1;omega
  ·by_cases c3:x<m
   ·by_cases c4:x<m-(i-j)+j
    ·simp (disch:=omega) only[if_neg,if_pos];congr 1;omega
    ·simp (disch:=omega) only[if_neg,if_pos]
   ·by_cases c4:x<m-(i-j)+j
    ·simp (disch:=omega) only[if_neg,if_pos];congr 1;omega
    ·by_cases c5:x<m+j
     ·simp (disch:=omega) only[if_neg,if_pos]
     ·simp (disch:=omega) only[if_neg]
theorem zFI (f:Nat→Int) (h:i<j) (hi:i≤m):j7 (exF f (m-i) (m+j-i) i) (m-i) m (m+(j-i))=j7 f (m-i) m (m+j):=by
 funext x;unfold j7 exF;by_cases c1:x<m-i
 ·simp (disch:=omega) only[if_neg]
 ·by_cases c2:x<m+(j-i)-i
  ·by_cases c3:x+i<m+j-i
   ·by_cases c4:x+i<m
    ·omega
    ·simp (disch:=omega) only[if_neg,if_pos]
   ·omega
  ·by_cases c3:x<m+(j-i)
   ·simp (disch:=omega) only[if_neg,if_pos];congr 1;omega
   ·by_cases c5:x<m+j
    ·simp (disch:=omega) only[if_neg,if_pos];congr 1;omega
    ·simp (disch:=omega) only[if_neg]
theorem zAE (f:Nat→Int) (hi:i≤m):exF f (m-i) m i=j7 f (m-i) m (m+i):=by
 funext x;unfold j7 exF;by_cases c1:x<m-i
 ·simp (disch:=omega) only[if_neg]
 ·by_cases c2:x<m
  ·simp (disch:=omega) only[if_neg,if_pos];congr 1;omega
  ·by_cases c3:x<m+i
   ·simp (disch:=omega) only[if_neg,if_pos];congr 1;omega
   ·simp (disch:=omega) only[if_neg]
structure zDS (r:Int→Int) (f:Nat→Int) (a m b s:Nat):Prop where
 lo:a≤s
 hi:s≤m
 e1:m≤(a+b)/2+m-s
 e2:(a+b)/2+m-s≤b
 left:∀x y,a≤x→x<s→(a+b)/2+m-s≤y→y<b→r (f x)≤r (f y)
 right:∀x y,s≤x→x<m→m≤y→y<(a+b)/2+m-s→r (f y)≤r (f x)
structure va (r:Int→Int) (f:Nat→Int) (p lo hi s t:Nat):Prop where
 l1:lo≤s
 l2:s≤t
 l3:t≤hi
 low:∀c,lo≤c→c<s→r (f c)≤r (f (p-c))
 high:∀c,t≤c→c<hi→r (f (p-c))<r (f c)
theorem zAF (ha:a<m) (hb:m<b) (hs1:zZ r a m f) (hs2:zZ r m b f) {lo hi s:Nat} (h:va r f ((a+b)/2+m-1) lo hi s s)
  (hlh:if (a+b)/2<m then lo=(a+b)/2+m-b∧hi=(a+b)/2 else lo=a∧hi=m):zDS r f a m b s:=by
 have h1:=h.l1;have h3:=h.l3;have hA:(a≤lo)∧hi≤m∧((lo=a)∨(a+b)/2+m-lo=b)∧(hi=m∨hi=(a+b)/2)∧(a+b)/2+m-lo≤b:=by
  split at hlh<;>omega
 obtain⟨q1,q2,q3,q4,q5⟩:=hA;refine⟨by omega,by omega,?_,by omega,fun x y hx1 hx2 hy1 hy2=> ?_,fun x y hx1 hx2 hy1 hy2=> ?_⟩
 ·rcases q4 with q4 | q4
  ·have:(a+b)/2+m-m≤(a+b)/2+m-s:=(by omega);split at hlh<;>omega
  ·omega
 ·by_cases c:s=lo
  ·rcases q3 with q3 | q3
   ·omega
   ·omega
  ·have:=h.low (s-1) (by omega) (by omega);have e1:r (f x)≤r (f (s-1)):=hs1.le hx1 (by omega) (by omega);have e2:r (f ((a+b)/2+m-1-(s-1)))≤r (f y):=by
    refine hs2.le ?_ (by omega) hy2;split at hlh<;>omega
   omega
 ·by_cases c:s=hi
  ·rcases q4 with q4 | q4
   ·omega
   ·omega
  ·have:=h.high s (Nat.le_refl _) (by omega);have e1:r (f s)≤r (f x):=hs1.le (by omega) hx1 hx2;have e2:r (f y)≤r (f ((a+b)/2+m-1-s)):=by
    refine hs2.le hy1 (by omega) ?_;split at hlh<;>omega
   omega
theorem va.start {lo hi p:Nat} (h:lo≤hi):va r f p lo hi lo hi:=⟨Nat.le_refl _,h,Nat.le_refl _,fun c h1 h2=>by omega,fun c h1 h2=>by omega⟩
theorem va.up {lo hi p s t c:Nat} (h:va r f p lo hi s t) (hc:s≤c) (hc2:c<t) (hm:∀x y,lo≤x→x≤y→y<hi→r (f x)≤r (f y)∧r (f (p-y))≤r (f (p-x))) (hle:¬r (f (p-c))<r (f c)):va r f p lo hi (c+1) t:=
 ⟨by have:=h.l1;omega,by omega,h.l3,fun x h1 h2=>by
  have:=hm x c h1 (by omega) (by have:=h.l3;omega);omega,h.high⟩
theorem va.down {lo hi p s t c:Nat} (h:va r f p lo hi s t) (hc:s≤c) (hc2:c<t) (hm:∀x y,lo≤x→x≤y→y<hi→r (f x)≤r (f y)∧r (f (p-y))≤r (f (p-x))) (hlt:r (f (p-c))<r (f c)):va r f p lo hi s c:=
 ⟨h.l1,hc,by have:=h.l3;omega,h.low,fun x h1 h2=>by
  have:=hm c x (by have:=h.l1;omega) h1 h2;omega⟩
theorem JA (f:Nat→Int) {p q:Nat}:∀(n i j m:Nat),i+j≤n→i≤m→p≤m-i→m+j≤q→PermB p q f (j7 f (m-i) m (m+j)):=by
 intro n
 induction n generalizing f with
 | zero=>
  intro i j m hn hi hp hq;have hi0:i=0:=by omega
  have hj0:j=0:=by omega
  subst hi0;subst hj0;have:=zAE f (m:=m) (i:=0) (by omega);rw[←this,Xs];exact PermB.refl _ _ _
 | succ n ih=>
  intro i j m hn hi hp hq;by_cases c0:i=0
  ·subst c0;have:j7 f (m-0) m (m+j)=f:=by
    funext x;unfold j7;by_cases c:m-0≤x∧x<m-0+(m+j-m)
    ·rw[if_pos c];congr 1;omega
    ·rw[if_neg c,if_neg (by omega)]
   rw[this];exact PermB.refl _ _ _
  ·by_cases c1:j=0
   ·subst c1;have:j7 f (m-i) m (m+0)=f:=by
     funext x;unfold j7;rw[if_neg (by omega)];split
     ·congr 1;omega
     ·rfl
    rw[this];exact PermB.refl _ _ _
   ·by_cases c2:i=j
    ·subst c2;rw[←zAE f hi];exact Xt f (by omega) hp (by omega)
    ·by_cases c3:j<i
     ·rw[←zFH f c3 hi];exact (Xt f (by omega) hp (by omega)).trans (ih _ (i-j) j m (by omega) (by omega) (by omega) (by omega))
     ·rw[←zFI f (by omega) hi];exact (Xt f (by omega) hp (by omega)).trans (ih _ i (j-i) m (by omega) (by omega) (by omega) (by omega))
theorem Yv (f:Nat→Int) {p q s e:Nat} (h1:s≤m) (h2:m≤e) (hp:p≤s) (hq:e≤q):PermB p q f (j7 f s m e):=by
 have:=JA f (p:=p) (q:=q) (m-s+(e-m)) (m-s) (e-m) m (Nat.le_refl _) (by omega) (by omega) (by omega)
 rwa [show m-(m-s)=s by omega,show m+(e-m)=e by omega] at this
theorem Yw (f:Nat→Int) {s e:Nat} (h1:s≤m) (h2:m≤e) (h:s=m∨m=e):j7 f s m e=f:=by
 funext x;unfold j7;rcases h with rfl | rfl
 ·by_cases c:s≤x∧x<s+(e-s)
  ·rw[if_pos c];congr 1;omega
  ·rw[if_neg c,if_neg (by omega)]
 ·rw[if_neg (by omega)];split
  ·congr 1;omega
  ·rfl
theorem Zw (ha:a<m) (_:m<b) (hs1:zZ r a m f) (hs2:zZ r m b f) {s e mid:Nat} (hmid:mid=(a+b)/2) (he:e=mid+m-s) (h:zDS r f a m b s) (hg:g=j7 f s m e):
  zZ r a s g∧zZ r s mid g∧zZ r mid e g∧zZ r e b g∧∀x y,a≤x→x<mid→mid≤y→y<b→r (g x)≤r (g y):=by
 subst hmid;subst he;subst hg;obtain⟨h1,h2,h3,h4,h5,h6⟩:=h;have A:∀x,x<s→j7 f s m ((a+b)/2+m-s) x=f x:=fun x hx=>by unfold j7;rw[if_neg (by omega),if_neg (by omega)]
 have B:∀x,s≤x→x<(a+b)/2→j7 f s m ((a+b)/2+m-s) x=f (x+(m-s)):=fun x hx hx2=>by unfold j7;rw[if_pos (by omega)]
 have C:∀x,(a+b)/2≤x→x<(a+b)/2+m-s→j7 f s m ((a+b)/2+m-s) x=f (x-((a+b)/2+m-s-m)):=fun x hx hx2=>by unfold j7;rw[if_neg (by omega),if_pos (by omega)]
 have D:∀x,(a+b)/2+m-s≤x→j7 f s m ((a+b)/2+m-s) x=f x:=fun x hx=>by unfold j7;rw[if_neg (by omega),if_neg (by omega)]
 refine⟨fun x y h1 h2 h3=> ?_,fun x y h1 h2 h3=> ?_,fun x y h1 h2 h3=> ?_,fun x y h1 h2 h3=> ?_,fun x y hx1 hx2 hy1 hy2=> ?_⟩
 ·rw[A x (by omega),A y (by omega)];exact hs1 x y h1 h2 (by omega)
 ·rw[B x (by omega) (by omega),B y (by omega) (by omega)];exact hs2 _ _ (by omega) (by omega) (by omega)
 ·rw[C x (by omega) (by omega),C y (by omega) (by omega)];exact hs1 _ _ (by omega) (by omega) (by omega)
 ·rw[D x (by omega),D y (by omega)];exact hs2 _ _ (by omega) (by omega) (by omega)
 ·by_cases c:x<s
  ·rw[A x c];by_cases d:y<(a+b)/2+m-s
   ·rw[C y hy1 d];exact hs1.le hx1 (by omega) (by omega)
   ·rw[D y (by omega)];exact h5 x y hx1 c (by omega) hy2
  ·rw[B x (by omega) hx2];by_cases d:y<(a+b)/2+m-s
   ·rw[C y hy1 d];exact h6 _ _ (by omega) (by omega) (by omega) (by omega)
   ·rw[D y (by omega)];exact hs2.le (by omega) (by omega) hy2
theorem zAG {mid:Nat} (h1:zZ r a mid f) (h2:zZ r mid b f) (h3:∀x y,a≤x→x<mid→mid≤y→y<b→r (f x)≤r (f y)):zZ r a b f:=fun x y hx hxy hy=>by
 by_cases c:y<mid
 ·exact h1 x y hx hxy c
 ·by_cases d:x<mid
  ·exact h3 x y hx d (by omega) hy
  ·exact h2 x y (by omega) hxy hy
theorem zGB {mid:Nat} (h3:∀x y,a≤x→x<mid→mid≤y→y<b→r (f x)≤r (f y)) {l:Nat→Int} (p1:PermB a mid f g) (p2:PermB mid b g l):∀x y,a≤x→x<mid→mid≤y→y<b→r (l x)≤r (l y):=fun x y hx hx2 hy hy2=>by
 rw[p2.out (.inl hx2)];obtain⟨i,i1,i2,hi⟩:=p1.inn hx hx2;obtain⟨j,j1,j2,hj⟩:=p2.inn hy hy2;rw[hi,hj,p1.out (.inr (by omega))];exact h3 i j i1 i2 j1 j2
end
abbrev Blk:=Nat×Nat×Nat
def updN {α:Type} (f:Nat→α) (i:Nat) (a:α):Nat→α:=fun k=>if k=i then a else f k
theorem yw {α:Type} (f:Nat→α) (i:Nat) (a:α):updN f i a i=a:=if_pos rfl
theorem yC {α:Type} (f:Nat→α) {i k:Nat} (a:α) (h:k≠i):updN f i a k=f k:=if_neg h
structure yx (n:Nat) (Bs:List Blk) (st pl ob:Nat→Nat):Prop where
 inv1:∀x,x<n→pl x<n∧st (pl x)=x
 inv2:∀k,k<n→st k<n∧pl (st k)=k
 blk:∀x,x<n→∃f t m,Bs[ob x]? =some (f,t,m)∧f≤pl x∧pl x<t
 inb:∀(j:Nat) f t m,Bs[j]? =some (f,t,m)→f<t∧t≤n∧f+m≤t∧∀k,f≤k→k<t→ob (st k)=j
def MkP (Bs:List Blk) (pl ob:Nat→Nat) (x:Nat):Prop:=∃f t m,Bs[ob x]? =some (f,t,m)∧pl x<f+m
section
variable {n:Nat} {Bs:List Blk} {st pl ob:Nat→Nat}
theorem yx.few (h:yx n Bs st pl ob):Bs.length≤n:=by
 have hx:∀j:Nat,∃f,j<Bs.length→∃t m,Bs[j]? =some (f,t,m):=fun j=>by
  by_cases hj:j<Bs.length
  ·exact⟨(Bs[j]).1,fun _=>⟨(Bs[j]).2.1,(Bs[j]).2.2,List.getElem?_eq_getElem hj⟩⟩
  ·exact⟨0,fun x=>absurd x hj⟩
 let F:=fun j=>Classical.choose (hx j);have hF:∀j,j<Bs.length→∃t m,Bs[j]? =some (F j,t,m):=fun j=>Classical.choose_spec (hx j);refine pig Bs.length n F (fun j hj=> ?_) fun i j hij hj e=> ?_
 ·obtain⟨t,m,h1⟩:=hF j hj;have:=h.inb j _ _ _ h1;omega
 ·obtain⟨t,m,h1⟩:=hF i (by omega);obtain⟨t2,m2,h2⟩:=hF j hj;have g1:=(h.inb i _ _ _ h1);have g2:=(h.inb j _ _ _ h2);have e1:=g1.2.2.2 (F i) (Nat.le_refl _) g1.1;have e2:=g2.2.2.2 (F j) (Nat.le_refl _) g2.1;rw[e,e2] at e1;omega
theorem yx.lt (h:yx n Bs st pl ob) {x:Nat} (hx:x<n):ob x<Bs.length:=by
 obtain⟨f,t,m,h1,_⟩:=h.blk x hx;exact (List.getElem?_eq_some_iff.1 h1).1
theorem yx.in_iff (h:yx n Bs st pl ob) {x j f t m:Nat} (hx:x<n) (hj:Bs[j]? =some (f,t,m)):ob x=j↔f≤pl x∧pl x<t:=by
 constructor
 ·intro e;obtain⟨f',t',m',h1,h2,h3⟩:=h.blk x hx;rw[e,hj] at h1;cases h1;exact⟨h2,h3⟩
 ·rintro⟨h1,h2⟩;have:=(h.inb j f t m hj).2.2.2 (pl x) h1 h2
  rwa [(h.inv1 x hx).2] at this
theorem yx.pl_inj (h:yx n Bs st pl ob) {x y:Nat} (hx:x<n) (hy:y<n) (e:pl x=pl y):x=y:=by
 rw[←(h.inv1 x hx).2,e,(h.inv1 y hy).2]
theorem qd {x f t m:Nat} (hj:Bs[ob x]? =some (f,t,m)):MkP Bs pl ob x↔pl x<f+m:=by
 constructor
 ·rintro⟨f',t',m',h1,h2⟩;rw[hj] at h1;cases h1;exact h2
 ·exact fun h=>⟨f,t,m,hj,h⟩
def stM (st:Nat→Nat) (place front x:Nat):Nat→Nat:=updN (updN st place (st front)) front x
def plM (pl:Nat→Nat) (place front x other:Nat):Nat→Nat:=updN (updN pl other place) x front
theorem Yx (h:yx n Bs st pl ob) {x f t m:Nat} (hx:x<n) (hj:Bs[ob x]? =some (f,t,m)) (hm:¬MkP Bs pl ob x):
  f+m<t∧f+m≤pl x∧yx n (Bs.set (ob x) (f,t,m+1)) (stM st (pl x) (f+m) x) (plM pl (pl x) (f+m) x (st (f+m))) ob ∧
  ∀y,y<n→(MkP (Bs.set (ob x) (f,t,m+1)) (plM pl (pl x) (f+m) x (st (f+m))) ob y↔MkP Bs pl ob y∨y=x):=by
 have hpl:f+m≤pl x:=by
  rw[qd hj] at hm;omega
 obtain⟨h1,h2⟩:=(h.in_iff hx hj).1 rfl;obtain⟨b1,b2,b3,b4⟩:=h.inb _ _ _ _ hj;have hf:=h.inv2 (f+m) (by omega);have hox:=h.inv1 x hx;have hof:ob (st (f+m))=ob x:=b4 _ (by omega) (by omega);have hlen:=h.lt hx;have hset:∀(j f' t' m':Nat),(Bs.set (ob x) (f,t,m+1))[j]? =some (f',t',m')→∃m0,Bs[j]? =some (f',t',m0)∧f'+m'≤t':=fun j f' t' m' e=>by
  rw[List.getElem?_set] at e;by_cases c:ob x=j
  ·rw[if_pos c,if_pos hlen] at e;cases e;exact⟨m,by rw[←c];exact hj,by omega⟩
  ·rw[if_neg c] at e;exact⟨m',e,(h.inb j f' t' m' e).2.2.1⟩
 have hget:∀(j f' t' m':Nat),Bs[j]? =some (f',t',m')→∃m1,(Bs.set (ob x) (f,t,m+1))[j]? =some (f',t',m1):=fun j f' t' m' e=>by
  rw[List.getElem?_set];by_cases c:ob x=j
  ·subst c;rw[if_pos rfl,if_pos hlen];rw[hj] at e;cases e;exact⟨_,rfl⟩
  ·rw[if_neg c];exact⟨m',e⟩
 have hplM:∀y,y<n→plM pl (pl x) (f+m) x (st (f+m)) y=if y=x then f+m else if y=st (f+m) then pl x else pl y:=fun y _=>rfl;have hob:∀k,k<n→ob (stM st (pl x) (f+m) x k)=ob (st k):=fun k hk=>by
  unfold stM updN;by_cases c:k=f+m
  ·rw[if_pos c,c,hof]
  ·rw[if_neg c];by_cases d:k=pl x
   ·rw[if_pos d,hof,d,hox.2]
   ·rw[if_neg d]
 refine⟨by omega,hpl,⟨fun y hy=> ?_,fun k hk=> ?_,fun y hy=> ?_,fun j f' t' m' e=> ?_⟩,fun y hy=> ?_⟩
 ·rw[hplM y hy];have hyy:=h.inv1 y hy;unfold stM updN;by_cases c:y=x
  ·rw[if_pos c,if_pos rfl,c];exact⟨by omega,rfl⟩
  ·rw[if_neg c];by_cases d:y=st (f+m)
   ·rw[if_pos d];have:pl x≠f+m:=fun e=>c (by rw[d,←e,hox.2]);rw[if_neg this,if_pos rfl];exact⟨hox.1,d.symm⟩
   ·rw[if_neg d];have n1:pl y≠f+m:=fun e=>d (by rw[←e,hyy.2]);have n2:pl y≠pl x:=fun e=>c (h.pl_inj hy hx e);rw[if_neg n1,if_neg n2];exact hyy
 ·have hkk:=h.inv2 k hk;unfold stM updN;by_cases c:k=f+m
  ·rw[if_pos c];refine⟨hx,?_⟩;unfold plM updN;rw[if_pos rfl,c]
  ·rw[if_neg c];by_cases d:k=pl x
   ·rw[if_pos d];refine⟨hf.1,?_⟩;unfold plM updN;have:st (f+m)≠x:=fun e=>c (by rw[d,←e,hf.2]);rw[if_neg this,if_pos rfl,d]
   ·rw[if_neg d];refine⟨hkk.1,?_⟩;unfold plM updN;have n1:st k≠x:=fun e=>d (by rw[←hkk.2,e]);have n2:st k≠st (f+m):=fun e=>c (by rw[←hkk.2,e,hf.2]);rw[if_neg n1,if_neg n2];exact hkk.2
 ·obtain⟨f',t',m',e1,e2,e3⟩:=h.blk y hy;obtain⟨m1,e4⟩:=hget _ _ _ _ e1;refine⟨f',t',m1,e4,?_⟩;rw[hplM y hy];by_cases c:y=x
  ·subst c;rw[if_pos rfl];rw[hj] at e1;cases e1;omega
  ·rw[if_neg c];by_cases d:y=st (f+m)
   ·rw[if_pos d];rw[d,hof,hj] at e1;cases e1;exact⟨h1,h2⟩
   ·rw[if_neg d];exact⟨e2,e3⟩
 ·obtain⟨m0,e1,e2⟩:=hset _ _ _ _ e;obtain⟨c1,c2,_,c4⟩:=h.inb _ _ _ _ e1;exact⟨c1,c2,e2,fun k k1 k2=>by rw[hob k (by omega)];exact c4 k k1 k2⟩
 ·obtain⟨f',t',m',e1,e2,e3⟩:=h.blk y hy;by_cases cb:ob y=ob x
  ·have e4:(Bs.set (ob x) (f,t,m+1))[ob y]? =some (f,t,m+1):=by
    rw[cb,List.getElem?_set,if_pos rfl,if_pos hlen]
   have e5:Bs[ob y]? =some (f,t,m):=(by rw[cb];exact hj);rw[qd e4,qd e5,hplM y hy];by_cases c:y=x
   ·rw[if_pos c];exact⟨fun _=> .inr c,fun _=>by omega⟩
   ·rw[if_neg c];have np:pl y≠pl x:=fun e=>c (h.pl_inj hy hx e);by_cases d:y=st (f+m)
    ·rw[if_pos d];have:pl y=f+m:=(by rw[d,hf.2]);constructor
     ·intro q;omega
     ·rintro (q | q)
      ·omega
      ·exact absurd q c
    ·rw[if_neg d];have:pl y≠f+m:=fun e=>d (by rw[←e,(h.inv1 y hy).2]);constructor
     ·intro q;exact .inl (by omega)
     ·rintro (q | q)
      ·omega
      ·exact absurd q c
  ·have e4:(Bs.set (ob x) (f,t,m+1))[ob y]? =some (f',t',m'):=by
    rw[List.getElem?_set,if_neg (fun e=>cb e.symm)];exact e1
   have hyx:y≠x:=fun e=>cb (by rw[e]);have hyf:y≠st (f+m):=fun e=>cb (by rw[e];exact hof);rw[qd e4,qd e1,hplM y hy,if_neg hyx,if_neg hyf];exact⟨.inl,fun q=>q.elim id fun q=>absurd q hyx⟩
structure zAH (n j K:Nat) (Bs Bs':List Blk) (pl ob ob':Nat→Nat):Prop where
 other:∀y,y<n→ob y≠j→ob' y=ob y
 mine:∀y z,y<n→z<n→ob y=j→ob z=j→(ob' y=ob' z↔(MkP Bs pl ob y↔MkP Bs pl ob z))
 new:∀y,y<n→ob' y≠ob y→ob' y=K
 marks:∀y,y<n→(MkP Bs' pl ob' y↔MkP Bs pl ob y∧ob y≠j)
 more:Bs.length≤Bs'.length
theorem zDT (h:yx n Bs st pl ob) {j f t m:Nat} (hj:Bs[j]? =some (f,t,m)) (hm:f+m=t):
  yx n (Bs.set j (f,t,0)) st pl ob∧zAH n j Bs.length Bs (Bs.set j (f,t,0)) pl ob ob:=by
 have hlen:=(List.getElem?_eq_some_iff.1 hj).1;have hb:=h.inb _ _ _ _ hj;have all:∀y,y<n→ob y=j→MkP Bs pl ob y:=fun y hy e=>by
  have:=(h.in_iff hy hj).1 e;exact⟨f,t,m,by rw[e];exact hj,by omega⟩
 refine⟨⟨h.inv1,h.inv2,fun x hx=> ?_,fun i f' t' m' e=> ?_⟩,fun _ _ _=>rfl,fun y z hy hz ey ez=> ?_,fun y _ hne=>absurd rfl hne,fun y hy=> ?_,by rw[List.length_set];exact Nat.le_refl _⟩
 ·obtain⟨f',t',m',e1,e2⟩:=h.blk x hx;rw[List.getElem?_set];by_cases c:j=ob x
  ·rw[if_pos c,if_pos hlen];rw[←c,hj] at e1;cases e1;exact⟨_,_,_,rfl,e2⟩
  ·rw[if_neg c];exact⟨f',t',m',e1,e2⟩
 ·rw[List.getElem?_set] at e;by_cases c:j=i
  ·rw[if_pos c,if_pos hlen] at e;cases e;subst c;exact⟨hb.1,hb.2.1,by omega,hb.2.2.2⟩
  ·rw[if_neg c] at e;exact h.inb i f' t' m' e
 ·exact⟨fun _=>⟨fun _=>all z hz ez,fun _=>all y hy ey⟩,fun _=>by rw[ey,ez]⟩
 ·by_cases c:ob y=j
  ·have e4:(Bs.set j (f,t,0))[ob y]? =some (f,t,0):=(by rw[c,List.getElem?_set,if_pos rfl,if_pos hlen]);rw[qd e4];have:=(h.in_iff hy hj).1 c;exact⟨fun q=>by omega,fun q=>absurd c q.2⟩
  ·obtain⟨f',t',m',e1,e2⟩:=h.blk y hy;have e4:(Bs.set j (f,t,0))[ob y]? =some (f',t',m'):=(by rw[List.getElem?_set,if_neg (fun e=>c e.symm)];exact e1);rw[qd e4,qd e1];exact⟨fun q=>⟨q,c⟩,fun q=>q.1⟩
theorem zDU (h:yx n Bs st pl ob) {j f t m p q p' q':Nat} (hj:Bs[j]? =some (f,t,m)) (h0:0<m) (hm:f+m<t) (hpq:(p=f∧q=f+m∧p'=f+m∧q'=t)∨(p=f+m∧q=t∧p'=f∧q'=f+m)) {ob':Nat→Nat}
  (hob:∀y,y<n→ob' y=if p≤pl y∧pl y<q then Bs.length else ob y):
  yx n (Bs.set j (p',q',0)++ [(p,q,0)]) st pl ob'∧zAH n j Bs.length Bs (Bs.set j (p',q',0)++ [(p,q,0)]) pl ob ob':=by
 have hlen:=(List.getElem?_eq_some_iff.1 hj).1;have hb:=h.inb _ _ _ _ hj;have inj:∀y,y<n→(p≤pl y∧pl y<q)→ob y=j:=fun y hy hq=>(h.in_iff hy hj).2 (by omega);have gj:(Bs.set j (p',q',0)++ [(p,q,0)])[j]? =some (p',q',0):=by
  rw[List.getElem?_append_left (by rw[List.length_set];exact hlen),List.getElem?_set,if_pos rfl,if_pos hlen]
 have gK:(Bs.set j (p',q',0)++ [(p,q,0)])[Bs.length]? =some (p,q,0):=by
  rw[List.getElem?_append_right (by rw[List.length_set];exact Nat.le_refl _),List.length_set,Nat.sub_self];rfl
 have go:∀(i f' t' m':Nat),i≠j→Bs[i]? =some (f',t',m')→(Bs.set j (p',q',0)++ [(p,q,0)])[i]? =some (f',t',m'):=fun i f' t' m' hne e=>by
  have:=(List.getElem?_eq_some_iff.1 e).1;rw[List.getElem?_append_left (by rw[List.length_set];exact this),List.getElem?_set,if_neg (fun e=>hne e.symm)];exact e
 have mk:∀y,y<n→ob y=j→(MkP Bs pl ob y↔pl y<f+m):=fun y hy e=>qd (by rw[e];exact hj);refine⟨⟨h.inv1,h.inv2,fun x hx=> ?_,fun i f' t' m' e=> ?_⟩,fun y hy hne=> ?_,fun y z hy hz ey ez=> ?_,fun y hy hne=> ?_,fun y hy=> ?_,by rw[List.length_append,List.length_set];omega⟩
 ·rw[hob x hx];by_cases c:p≤pl x∧pl x<q
  ·rw[if_pos c];exact⟨_,_,_,gK,c.1,c.2⟩
  ·rw[if_neg c];by_cases d:ob x=j
   ·rw[d];have:=(h.in_iff hx hj).1 d;exact⟨_,_,_,gj,by omega,by omega⟩
   ·obtain⟨f',t',m',e1,e2⟩:=h.blk x hx;exact⟨f',t',m',go _ _ _ _ d e1,e2⟩
 ·have hob2:∀k,k<n→ob' (st k)=if p≤k∧k<q then Bs.length else ob (st k):=fun k hk=>by
   obtain⟨k1,k2⟩:=h.inv2 k hk;rw[hob _ k1,k2]
  by_cases c:i=j
  ·subst c;rw[gj] at e;cases e;refine⟨by omega,by omega,by omega,fun k k1 k2=> ?_⟩;rw[hob2 k (by omega),if_neg (by omega)];exact hb.2.2.2 k (by omega) (by omega)
  ·by_cases d:i=Bs.length
   ·subst d;rw[gK] at e;cases e;refine⟨by omega,by omega,by omega,fun k k1 k2=> ?_⟩;rw[hob2 k (by omega),if_pos ⟨k1,k2⟩]
   ·have hl:=(List.getElem?_eq_some_iff.1 e).1;rw[List.length_append,List.length_set,List.length_singleton] at hl;rw[List.getElem?_append_left (by rw[List.length_set];omega),List.getElem?_set,if_neg (fun e=>c e.symm)] at e;obtain⟨c1,c2,c3,c4⟩:=h.inb i f' t' m' e;refine⟨c1,c2,c3,fun k k1 k2=> ?_⟩;have hk:=c4 k k1 k2;rw[hob2 k (by omega),if_neg ?_]
    ·exact hk
    ·intro hq;have:=hb.2.2.2 k (by omega) (by omega);rw[hk] at this;exact c this
 ·rw[hob y hy,if_neg (fun e=>hne (inj y hy e))]
 ·have b1:=(h.in_iff hy hj).1 ey;have b2:=(h.in_iff hz hj).1 ez;rw[mk y hy ey,mk z hz ez,hob y hy,hob z hz,ey,ez];have hne:Bs.length≠j:=by omega
  by_cases c:p≤pl y∧pl y<q
  ·by_cases d:p≤pl z∧pl z<q
   ·rw[if_pos c,if_pos d];exact⟨fun _=>by omega,fun _=>rfl⟩
   ·rw[if_pos c,if_neg d];exact⟨fun e=>absurd e hne,fun e=>by omega⟩
  ·by_cases d:p≤pl z∧pl z<q
   ·rw[if_neg c,if_pos d];exact⟨fun e=>absurd e.symm hne,fun e=>by omega⟩
   ·rw[if_neg c,if_neg d];exact⟨fun _=>by omega,fun _=>rfl⟩
 ·rw[hob y hy] at hne ⊢;by_cases c:p≤pl y∧pl y<q
  ·rw[if_pos c]
  ·rw[if_neg c] at hne;exact absurd rfl hne
 ·by_cases c:ob y=j
  ·have b1:=(h.in_iff hy hj).1 c;by_cases d:p≤pl y∧pl y<q
   ·have e4:(Bs.set j (p',q',0)++ [(p,q,0)])[ob' y]? =some (p,q,0):=(by rw[hob y hy,if_pos d];exact gK);rw[qd e4];exact⟨fun q=>by omega,fun q=>absurd c q.2⟩
   ·have e4:(Bs.set j (p',q',0)++ [(p,q,0)])[ob' y]? =some (p',q',0):=(by rw[hob y hy,if_neg d,c];exact gj);rw[qd e4];exact⟨fun q=>by omega,fun q=>absurd c q.2⟩
  ·obtain⟨f',t',m',e1,e2⟩:=h.blk y hy;have e4:(Bs.set j (p',q',0)++ [(p,q,0)])[ob' y]? =some (f',t',m'):=by
    rw[hob y hy,if_neg (fun e=>c (inj y hy e))];exact go _ _ _ _ c e1
   rw[qd e4,qd e1];exact⟨fun q=>⟨q,c⟩,fun q=>q.1⟩
structure yy (n K0:Nat) (H:Nat→Prop) (ob0:Nat→Nat) (done:Nat→Prop) (Bs:List Blk) (pl ob:Nat→Nat):Prop where
 left:∀y,y<n→¬done (ob0 y)→ob y=ob0 y∧(MkP Bs pl ob y↔H y)
 clear:∀y,y<n→done (ob0 y)→¬MkP Bs pl ob y
 same:∀y z,y<n→z<n→(ob y=ob z↔ob0 y=ob0 z∧(done (ob0 y)→(H y↔H z)))
 new:∀y,y<n→ob y≠ob0 y→K0≤ob y
 more:K0≤Bs.length
theorem YC {K0:Nat} {H:Nat→Prop} (hm:∀y,y<n→(MkP Bs pl ob y↔H y)) (hK:K0≤Bs.length):yy n K0 H ob (fun _=>False) Bs pl ob:=
 ⟨fun y hy _=>⟨rfl,hm y hy⟩,fun _ _ h=>h.elim,fun _ _ _ _=>⟨fun e=>⟨e,fun h=>h.elim⟩,fun e=>e.1⟩,fun _ _ hne=>absurd rfl hne,hK⟩
theorem Vo {K0 j:Nat} {H:Nat→Prop} {ob0 ob':Nat→Nat} {done:Nat→Prop} {Bs':List Blk} (h:yy n K0 H ob0 done Bs pl ob) (hp:yx n Bs st pl ob) (hj:¬done j) (hjK:j<K0) (ho:zAH n j Bs.length Bs Bs' pl ob ob'):
  yy n K0 H ob0 (fun i=>done i∨i=j) Bs' pl ob':=by
 have hK:=h.more;have at_:∀y,y<n→(ob y=j↔ob0 y=j):=fun y hy=>by
  by_cases c:done (ob0 y)
  ·by_cases d:ob y=ob0 y
   ·rw[d]
   ·have:=h.new y hy d;exact⟨fun e=>by omega,fun e=>absurd (e▸c) hj⟩
  ·rw[(h.left y hy c).1]
 refine⟨fun y hy hd=> ?_,fun y hy hd hmk=> ?_,fun y z hy hz=> ?_,fun y hy hne=> ?_,Nat.le_trans hK ho.more⟩
 ·have hd1:¬done (ob0 y):=fun e=>hd (.inl e);have hd2:ob y≠j:=fun e=>hd (.inr ((at_ y hy).1 e));have:=h.left y hy hd1;rw[ho.other y hy hd2,ho.marks y hy];exact⟨this.1,⟨fun q=>this.2.1 q.1,fun q=>⟨this.2.2 q,hd2⟩⟩⟩
 ·rw[ho.marks y hy] at hmk;rcases hd with hd | hd
  ·exact h.clear y hy hd hmk.1
  ·exact hmk.2 ((at_ y hy).2 hd)
 ·by_cases cy:ob0 y=j
  ·have hoy:=(at_ y hy).2 cy;have hyl:=(h.left y hy (by rw[cy];exact hj)).2;by_cases cz:ob0 z=j
   ·have hoz:=(at_ z hz).2 cz;have hzl:=(h.left z hz (by rw[cz];exact hj)).2;rw[ho.mine y z hy hz hoy hoz,hyl,hzl];exact⟨fun e=>⟨by rw[cy,cz],fun _=>e⟩,fun e=>e.2 (.inr cy)⟩
   ·have hoz:ob z≠j:=fun e=>cz ((at_ z hz).1 e);refine⟨fun e=> ?_,fun e=>absurd (e.1.symm.trans cy) cz⟩;rw[ho.other z hz hoz] at e;have hzl:=hp.lt hz;by_cases c:ob' y=ob y
    ·rw[c,hoy] at e;exact absurd e.symm hoz
    ·rw[ho.new y hy c] at e;omega
  ·have hoy:ob y≠j:=fun e=>cy ((at_ y hy).1 e);by_cases cz:ob0 z=j
   ·have hoz:=(at_ z hz).2 cz;refine⟨fun e=> ?_,fun e=>absurd (e.1.trans cz) cy⟩;rw[ho.other y hy hoy] at e;have hyl:=hp.lt hy;by_cases c:ob' z=ob z
    ·rw[c,hoz] at e;exact absurd e hoy
    ·rw[ho.new z hz c] at e;omega
   ·have hoz:ob z≠j:=fun e=>cz ((at_ z hz).1 e);rw[ho.other y hy hoy,ho.other z hz hoz,h.same y z hy hz];exact⟨fun e=>⟨e.1,fun q=>e.2 (q.elim id fun q=>absurd q cy)⟩,fun e=>⟨e.1,fun q=>e.2 (.inl q)⟩⟩
 ·by_cases c:ob' y=ob y
  ·rw[c] at hne ⊢;exact h.new y hy hne
  ·rw[ho.new y hy c];exact hK
structure zIU (n K0:Nat) (H:Nat→Prop) (ob0 ob:Nat→Nat):Prop where
 same:∀y z,y<n→z<n→(ob y=ob z↔ob0 y=ob0 z∧(H y↔H z))
 new:∀y,y<n→ob y≠ob0 y→K0≤ob y
theorem zAI {K0:Nat} {H:Nat→Prop} {ob0:Nat→Nat} {done:Nat→Prop} (h:yy n K0 H ob0 done Bs pl ob) (hall:∀y,y<n→H y→done (ob0 y)):zIU n K0 H ob0 ob∧∀y,y<n→¬MkP Bs pl ob y:=by
 refine⟨⟨fun y z hy hz=> ?_,h.new⟩,fun y hy hmk=> ?_⟩
 ·rw[h.same y z hy hz];refine⟨fun e=>⟨e.1,?_⟩,fun e=>⟨e.1,fun _=>e.2⟩⟩;by_cases c:done (ob0 y)
  ·exact e.2 c
  ·exact⟨fun q=>absurd (hall y hy q) c,fun q=>absurd (by rw[e.1];exact hall z hz q) c⟩
 ·by_cases c:done (ob0 y)
  ·exact h.clear y hy c hmk
  ·exact c (hall y hy ((h.left y hy c).2.1 hmk))
end
section
variable (d:Dfa)
structure zI1 (c:Nat) (ob:Nat→Nat):Prop where
 sound:∀y z,y≤d.n→z≤d.n→ob y≠ob z→Zj d y z
 rule:∀y z,y≤d.n→z≤d.n→ob y=ob z→ruN d y=ruN d z
 hop:∀y z b,y≤d.n→z≤d.n→b<256→ob y=ob z→ob (toN d y b)≠ob (toN d z b)→c≤ob (toN d y b)∨c≤ob (toN d z b)
structure zAJ (c K0 B:Nat) (ob0 ob:Nat→Nat):Prop where
 same:∀y z,y≤d.n→z≤d.n→(ob y=ob z↔ob0 y=ob0 z∧∀b,b<B→(ob0 (toN d y b)=c↔ob0 (toN d z b)=c))
 new:∀y,y≤d.n→ob y≠ob0 y→K0≤ob y
variable {d} {c K0:Nat} {ob0 ob ob':Nat→Nat}
theorem Vp:zAJ d c K0 0 ob0 ob0:=⟨fun y z _ _=>⟨fun e=>⟨e,fun b hb=>by omega⟩,fun e=>e.1⟩,fun y _ h=>absurd rfl h⟩
theorem zAK {B K1:Nat} (h:zAJ d c K0 B ob0 ob) (g:zIU (d.n+1) K1 (fun y=>ob0 (toN d y B)=c) ob ob') (hK:K0≤K1):zAJ d c K0 (B+1) ob0 ob':=by
 refine⟨fun y z hy hz=> ?_,fun y hy hne=> ?_⟩
 ·rw[g.same y z (by omega) (by omega),h.same y z hy hz];refine⟨fun e=>⟨e.1.1,fun b hb=> ?_⟩,fun e=>⟨⟨e.1,fun b hb=>e.2 b (by omega)⟩,e.2 B (by omega)⟩⟩;by_cases cb:b=B
  ·subst cb;exact e.2
  ·exact e.1.2 b (by omega)
 ·by_cases q:ob' y=ob y
  ·rw[q] at hne ⊢;exact h.new y hy hne
  ·exact Nat.le_trans hK (g.new y (by omega) q)
theorem zDV (hd:OkD d) (h:zI1 d c ob0) (g:zAJ d c K0 256 ob0 ob) (hc:c<K0):zI1 d (c+1) ob:=by
 refine⟨fun y z hy hz hne=> ?_,fun y z hy hz e=>h.rule y z hy hz ((g.same y z hy hz).1 e).1,fun y z b hy hz hb e hne=> ?_⟩
 ·by_cases q:ob0 y=ob0 z
  ·have:∃b,b<256∧¬(ob0 (toN d y b)=c↔ob0 (toN d z b)=c):=Classical.byContradiction fun hno=>hne ((g.same y z hy hz).2 ⟨q,fun b hb=>Classical.byContradiction fun hb2=>hno ⟨b,hb,hb2⟩⟩);obtain⟨b,hb,hb2⟩:=this;refine Zk hd hb (h.sound _ _ (qZ hd y b) (qZ hd z b) fun e=>hb2 (by rw[e]))
  ·exact h.sound y z hy hz q
 ·obtain⟨e1,e2⟩:=(g.same y z hy hz).1 e;have hy2:=qZ hd y b;have hz2:=qZ hd z b;have keep:∀x,x≤d.n→c<ob0 x→c+1≤ob x:=fun x hx hlt=>by
   by_cases q:ob x=ob0 x
   ·omega
   ·have:=g.new x hx q;omega
  by_cases q:ob0 (toN d y b)=ob0 (toN d z b)
  ·by_cases q1:ob (toN d y b)=ob0 (toN d y b)
   ·by_cases q2:ob (toN d z b)=ob0 (toN d z b)
    ·exact absurd (by rw[q1,q2,q]) hne
    ·have:=g.new _ hz2 q2;exact .inr (by omega)
   ·have:=g.new _ hy2 q1;exact .inl (by omega)
  ·rcases h.hop y z b hy hz hb e1 q with h1 | h1
   ·by_cases q1:ob0 (toN d y b)=c
    ·exact absurd (q1.trans ((e2 b hb).1 q1).symm) q
    ·exact .inl (keep _ hy2 (by omega))
   ·by_cases q1:ob0 (toN d z b)=c
    ·exact absurd (((e2 b hb).2 q1).trans q1.symm) q
    ·exact .inr (keep _ hz2 (by omega))
theorem zGC (hd:OkD d) (h:zI1 d c ob) (hlt:∀y,y≤d.n→ob y<c):zCU d (fun i k=>decide (ob i≠ob k)) where
 sound:=fun i k hi hk e=>h.sound i k hi hk (of_decide_eq_true e)
 rule:=fun i k hi hk hne=>decide_eq_true fun e=>hne (h.rule i k hi hk e)
 closed:=fun i k b hi hk hb e=>decide_eq_false fun hne=>by
  have e2:ob i=ob k:=Classical.byContradiction fun q=>by
   rw[decide_eq_true q] at e;cases e
  rcases h.hop i k b hi hk hb e2 hne with h1 | h1
  ·have:=hlt _ (qZ hd i b);omega
  ·have:=hlt _ (qZ hd k b);omega
theorem zAL (h1:∀y z,y≤d.n→z≤d.n→(ob y=ob z↔ruN d y=ruN d z)):zI1 d 0 ob:=
 ⟨fun y z hy hz hne=>⟨[],fun b hb=>(List.not_mem_nil hb).elim,fun e=>hne ((h1 y z hy hz).2 (by rw[←jQ,←jQ];exact e))⟩,fun y z hy hz e=>(h1 y z hy hz).1 e,fun _ _ _ _ _ _ _ _=> .inl (Nat.zero_le _)⟩
end
def eqF (a b:Nat→Bool):Nat→Bool
 | 0=>true
 | m+1=>eqF a b m&&(a m==b m)
theorem eqF_iff (a b:Nat→Bool):∀m,eqF a b m=true↔∀p,p<m→a p=b p
 | 0=>⟨fun _ p h=>absurd h (by omega),fun _=>rfl⟩
 | m+1=>by
  rw[eqF,Bool.and_eq_true,eqF_iff a b m];constructor
  ·rintro⟨h,e⟩ p hp;by_cases c:p=m
   ·rw[c];simpa using e
   ·exact h p (by omega)
  ·intro h;exact⟨fun p hp=>h p (by omega),by simpa using h m (by omega)⟩
def zr:List RuN→List (Nat→Bool)→List (Nat→Bool)→Bool
 | r::rs,a::x,b::y=>eqF a b r.m&&zr rs x y
 | _,_,_=>true
def ZR:List RuN→List (Nat→Bool)→Bool
 | r::rs,a::x=>vS r a||ZR rs x
 | _,_=>false
def vb (rs:List RuN) (x:List (Nat→Bool)):Bool:= !ZR rs x
def zO:List RuN→List (Nat→Bool)→Nat→List (Nat→Bool)
 | r::rs,a::x,b=>qI r a b::zO rs x b
 | _,_,_=> []
def xI (rs:List RuN):List (Nat→Bool):=rs.map fun _=>jB
theorem xz (rs:List RuN):(xI rs).length=rs.length:=List.length_map _
def qL:List RuN→List (Nat→Bool)→Nat→List Nat→Int
 | r::rs,a::x,j,w=>if jC r (stepsG r w a)=true then (j:Int) else qL rs x (j+1) w
 | _,_,_,_=> -1
theorem Xu:∀(rs:List RuN) (x:List (Nat→Bool)) (j:Nat) (w:List Nat),-1≤qL rs x j w
 | [],_,_,_=>Int.le_refl _
 | _::_,[],_,_=>Int.le_refl _
 | r::rs,a::x,j,w=>by
  rw[qL];split
  ·omega
  ·exact Xu rs x (j+1) w
theorem xV:∀(rs:List RuN) (x:List (Nat→Bool)) (b:Nat),x.length=rs.length→(zO rs x b).length=rs.length
 | [],[],_,_=>rfl
 | r::rs,a::x,b,h=>by
  rw[zO,List.length_cons,xV rs x b (by simpa using h),List.length_cons]
theorem kF:∀(rs:List RuN) (x:List (Nat→Bool)) (b:Nat) {i:Nat} {r:RuN} {a:Nat→Bool},rs[i]? =some r→x[i]? =some a→(zO rs x b)[i]? =some (qI r a b)
 | [],_,_,_,_,_,h,_=>by simp at h
 | _::_,[],_,_,_,_,_,h=>by simp at h
 | q::rs,c::x,b,0,r,a,hr,ha=>by
  cases hr;cases ha;rfl
 | q::rs,c::x,b,i+1,r,a,hr,ha=>by
  rw[zO];exact kF rs x b (i:=i) hr ha
theorem ZS:∀(rs:List RuN) (x:List (Nat→Bool)) (j:Nat) (b:Nat) (w:List Nat),qL rs (zO rs x b) j w=qL rs x j (b::w)
 | [],x,_,_,_=>by cases x<;>rfl
 | _::_,[],_,_,_=>rfl
 | r::rs,a::x,j,b,w=>by
  rw[zO,qL,qL,ZS rs x (j+1) b w];rfl
def zGD (rs:List RuN):Prop:=∀r,r∈rs→∃L,zD2 r L
theorem Xv {r:RuN} {L:List Nat→Prop} (h:zD2 r L) (a:Nat→Bool) (w:List Nat):jC r (stepsG r w a)=true↔Kg r a w:=by
 rw[Yk,ZG h,List.append_nil]
theorem JB:∀(rs:List RuN) (x:List (Nat→Bool)),zGD rs→ZR rs x=false→∀j w,qL rs x j w= -1
 | [],_,_,_,_,_=>rfl
 | _::_,[],_,_,_,_=>rfl
 | r::rs,a::x,hr,h,j,w=>by
  rw[ZR,Bool.or_eq_false_iff] at h;obtain⟨L,hL⟩:=hr r (by simp);rw[qL,if_neg (fun e=>zFX a h.1 w ((Xv hL a w).1 e))];exact JB rs x (fun s hs=>hr s (by simp[hs])) h.2 (j+1) w
theorem zGE {r:RuN} {a b:Nat→Bool} (h:eqF a b r.m=true) (w:List Nat):Kg r a w↔Kg r b w:=by
 have h2:=(eqF_iff a b r.m).1 h;exact exists_congr fun p=>and_congr_right fun hp=>by rw[h2 p hp]
theorem JC:∀(rs:List RuN) (x y:List (Nat→Bool)),zGD rs→x.length=rs.length→y.length=rs.length→zr rs x y=true→∀j w,qL rs x j w=qL rs y j w
 | [],x,y,_,_,_,_,_,_=>by cases x<;>cases y<;>rfl
 | r::rs,a::x,b::y,hr,hx,hy,h,j,w=>by
  rw[zr,Bool.and_eq_true] at h;obtain⟨L,hL⟩:=hr r (by simp);have h1:jC r (stepsG r w a)=true↔jC r (stepsG r w b)=true:=by rw[Xv hL,Xv hL,zGE h.1]
  rw[qL,qL,JC rs x y (fun s hs=>hr s (by simp[hs])) (by simpa using hx) (by simpa using hy) h.2 (j+1) w];by_cases c:jC r (stepsG r w a)=true
  ·rw[if_pos c,if_pos (h1.1 c)]
  ·rw[if_neg c,if_neg fun e=>c (h1.2 e)]
theorem Zx:∀(rs:List RuN) (j:Nat) (w:List Nat),qL rs (xI rs) j w=yN rs w j
 | [],_,_=>rfl
 | r::rs,j,w=>by
  show (if jC r (stepsG r w jB)=true then (j:Int) else qL rs (xI rs) (j+1) w)=_;rw[yN,Zx rs (j+1) w]
theorem Zy (rs:List RuN) (hr:zGD rs):zF9 (zO rs) (vb rs) (zr rs) (fun x=>x.length=rs.length) (fun x w=>qL rs x 0 w) where
 step_good:=fun x b hx _ _=>xV rs x b hx
 step_sem:=fun x b _ _ _ w _=>ZS rs x 0 b w
 dead_sem:=fun x b _ _ hd w _=>by
  rw[←ZS];exact JB rs _ hr (by simpa [vb] using hd) 0 w
 same_sem:=fun x y hx hy h w _=>JC rs x y hr hx hy h 0 w
theorem zGF (l:List Nd) (h:vR l):zGD (l.map zR):=fun r hr=>by
 obtain⟨n,hn,rfl⟩:=List.mem_map.1 hr;exact⟨_,rule_ok n (h n hn).1 (h n hn).2⟩
def zGG (q:List Sta) (l:List Int) (w:List Nat):Int:=accP q (xO q w l) (-1)
theorem Yy (q:List Sta):∀w,zGG q [] w= -1
 | []=>rfl
 | b::w=>by
  show accP q (xO q w (zy q b [])) (-1)= -1;exact Yy q w
theorem kg (q:List Sta):∀(l:List Int) (r:Int),-1≤r→ -1≤accP q l r
 | [],_,h=>h
 | a::l,r,h=>by
  rw[accP];split
  ·exact kg q l r h
  ·split
   ·exact kg q l _ (by omega)
   ·exact kg q l r h
def Z5 (l:List Int):Bool:=l.isEmpty
def xg (a b:List Int):Bool:=decide (a=b)
def kN (q:List Sta) (start l:List Int):Prop:=∃w,ByL w∧l=xO q w start∧(w= []∨l≠ [])
theorem JD (q:List Sta) (start:List Int):zF9 (fun l b=>zy q b l) Z5 xg (kN q start) (zGG q) where
 step_good:=fun x b ⟨w,hw,hx,_⟩ hb hd=>by
  refine⟨w++ [b],fun c hc=> ?_,by rw[jz,hx],.inr fun e=> ?_⟩
  ·rcases List.mem_append.1 hc with hc | hc
   ·exact hw c hc
   ·rw[List.mem_singleton.1 hc];exact hb
  ·unfold Z5 at hd;rw[e] at hd;cases hd
 step_sem:=fun _ _ _ _ _ _ _=>rfl
 dead_sem:=fun x b _ _ hd w _=>by
  show zGG q (zy q b x) w= -1;rw[List.isEmpty_iff.1 hd];exact Yy q w
 same_sem:=fun x y _ _ h w _=>by rw[of_decide_eq_true h]
theorem zDW (all:List Nd) (hg:vR all) (w:List Nat):zGG (zt all).1 (reachP (zt all).1 (zt all).2) w=qL (all.map zR) (xI (all.map zR)) 0 w:=by
 rw[Zx];exact Zm all hg w
inductive YD (Q:List Sta):Nat→Nat→Nat→Prop
 | here {i:Nat} {s:Sta} (h:Q[i]? =some s) (hk:s.kind≠1):YD Q i i 0
 | next {i j k:Nat} {s:Sta} (h:Q[i]? =some s) (hk:s.kind=1) (g:YD Q s.next j k):YD Q i j (k+1)
 | also {i j k:Nat} {s:Sta} (h:Q[i]? =some s) (hk:s.kind=1) (g:YD Q s.also j k):YD Q i j (k+1)
def Zd (Q:List Sta) (i j:Nat):Prop:=∃k,YD Q i j k
theorem yz {Q:List Sta} {i a b j k:Nat} (h:Q[i]? =some (zJ a b)) (g:YD Q i j k):∃k',k'<k∧(YD Q a j k'∨YD Q b j k'):=by
 cases g with
 | here h2 hk=>rw[h] at h2;cases h2;exact absurd rfl hk
 | next h2 hk g=>rw[h] at h2;cases h2;exact⟨_,Nat.lt_succ_self _,.inl g⟩
 | also h2 hk g=>rw[h] at h2;cases h2;exact⟨_,Nat.lt_succ_self _,.inr g⟩
theorem eps_l {Q:List Sta} {i a b j:Nat} (h:Q[i]? =some (zJ a b)) (g:Zd Q a j):Zd Q i j:=by
 obtain⟨k,g⟩:=g;exact⟨_,.next h rfl g⟩
theorem eps_r {Q:List Sta} {i a b j:Nat} (h:Q[i]? =some (zJ a b)) (g:Zd Q b j):Zd Q i j:=by
 obtain⟨k,g⟩:=g;exact⟨_,.also h rfl g⟩
def qA (Q q':List Sta) (m:Nat):Prop:=∀i,m≤i→i<q'.length→Q[i]? =q'[i]?
structure BS (g:Gl) (a b:Nat) (σ:Nat→Nat) (S:Nat→St4) (q q':List Sta) (next at_:Nat):Prop where
 len:q.length≤q'.length
 same:∀i,i<q.length→q'[i]? =q[i]?
 in_:InG g a b
 take:∀p,a≤p→p<b→q.length≤σ p∧σ p<q'.length∧∃nx,q'[σ p]? =some (qn (S p) nx)
 fwd:∀Q,qA Q q' q.length→∀j k,YD Q at_ j k→(∃p,g.first p=true∧j=σ p)∨g.null=true∧∃k',k'≤k∧YD Q next j k'
 first:∀Q,qA Q q' q.length→∀p,g.first p=true→Zd Q at_ (σ p)
 null:∀Q,qA Q q' q.length→g.null=true→∀j,Zd Q next j→Zd Q at_ j
 on:∀Q,qA Q q' q.length→∀p nx,a≤p→p<b→Q[σ p]? =some (qn (S p) nx)→∀j,Zd Q nx j→(∃p',g.fol p p'=true∧j=σ p')∨g.last p=true∧Zd Q next j
 fol:∀Q,qA Q q' q.length→∀p nx p',Q[σ p]? =some (qn (S p) nx)→g.fol p p'=true→Zd Q nx (σ p')
 last:∀Q,qA Q q' q.length→∀p nx,Q[σ p]? =some (qn (S p) nx)→g.last p=true→∀j,Zd Q next j→Zd Q nx j
theorem Yz (a:Nat) (σ:Nat→Nat) (S:Nat→St4) (q:List Sta) (next:Nat):BS xE a a σ S q q next next where
 len:=Nat.le_refl _
 same:=fun _ _=>rfl
 in_:=Xc a a
 take:=fun p h1 h2=>by omega
 fwd:=fun Q _ j k g=> .inr ⟨rfl,k,Nat.le_refl _,g⟩
 first:=fun Q _ p hp=>by cases hp
 null:=fun Q _ _ j hj=>hj
 on:=fun Q _ p nx h1 h2=>by omega
 fol:=fun Q _ p nx p' _ hp=>by cases hp
 last:=fun Q _ p nx _ hp=>by cases hp
theorem bs_take (a:Nat) (S:Nat→St4) (s:St4) (hs:S a=s) (q:List Sta) (next:Nat):BS ⟨false,kL a,kL a,Yi⟩ a (a+1) (fun _=>q.length) S q (q++ [qn s next]) next q.length where
 len:=by rw[List.length_append];omega
 same:=fun i h=>zv h
 in_:=⟨fun p e=>by have:p=a:=by simpa [kL] using e
                   omega,fun p e=>by have:p=a:=by simpa [kL] using e
                                     omega,fun p p' e=>by cases e⟩
 take:=fun p h1 h2=>by
  have:p=a:=by omega
  subst this;exact⟨Nat.le_refl _,by rw[List.length_append];show _<_+1;omega,next,by rw[zz,hs]⟩
 fwd:=fun Q hQ j k g=>by
  have h1:=hQ q.length (Nat.le_refl _) (by rw[List.length_append];show _<_+1;omega);rw[zz] at h1;cases g with
  | here h2 hk=>exact .inl ⟨a,by simp[kL],rfl⟩
  | next h2 hk g=>rw[h1] at h2;cases h2;exact absurd hk (by simp[qn])
  | also h2 hk g=>rw[h1] at h2;cases h2;exact absurd hk (by simp[qn])
 first:=fun Q hQ p hp=>by
  have h1:=hQ q.length (Nat.le_refl _) (by rw[List.length_append];show _<_+1;omega);rw[zz] at h1;exact⟨0,.here h1 (by simp[qn])⟩
 null:=fun Q _ h=>by cases h
 on:=fun Q hQ p nx h1 h2 h3 j hj=>by
  have h4:=hQ q.length (Nat.le_refl _) (by rw[List.length_append];show _<_+1;omega);rw[zz] at h4;rw[h4] at h3;injection h3 with h3
  injection h3 with _ _ h3
  have:p=a:=by omega
  exact .inr ⟨by simp[kL,this],by rw[h3];exact hj⟩
 fol:=fun Q _ p nx p' _ hp=>by cases hp
 last:=fun Q hQ p nx h3 hp j hj=>by
  have h4:=hQ q.length (Nat.le_refl _) (by rw[List.length_append];show _<_+1;omega);rw[zz] at h4;rw[h4] at h3;injection h3 with h3
  injection h3 with _ _ h3
  rw[←h3];exact hj
section
variable {p k:Gl} {a0 a c:Nat} {σ τ:Nat→Nat} {S:Nat→St4} {q q1 q2:List Sta} {next at1 at2:Nat}
def JE (a:Nat) (σ τ:Nat→Nat):Nat→Nat:=fun x=>if x<a then σ x else τ x
theorem joinS_l {x:Nat} (h:x<a):JE a σ τ x=σ x:=if_pos h
theorem xq {x:Nat} (h:a≤x):JE a σ τ x=τ x:=if_neg (by omega)
theorem Xw (h:q1.length≤q2.length) (hs:∀i,i<q1.length→q2[i]? =q1[i]?) {Q:List Sta} {m:Nat} (hQ:qA Q q2 m):qA Q q1 m:=fun i h1 h2=>(hQ i h1 (by omega)).trans (hs i h2)
theorem zAM {Q:List Sta} {m m':Nat} (hm:m≤m') (hQ:qA Q q2 m):qA Q q2 m':=fun i h1 h2=>hQ i (by omega) h2
theorem zI2 (hp:BS p a0 a σ S q1 q2 at1 at2) (hk:BS k a c τ S q q1 next at1) (h0:a0≤a) (h1:a≤c):BS (qe p k) a0 c (JE a σ τ) S q q2 next at2:=by
 have l1:=hk.len;have l2:=hp.len;have aK:∀ {Q},qA Q q2 q.length→qA Q q1 q.length:=fun hQ=>Xw hp.len hp.same hQ;have aP:∀ {Q},qA Q q2 q.length→qA Q q2 q1.length:=fun hQ=>zAM l1 hQ;have σp:∀x,p.first x=true→JE a σ τ x=σ x:=fun x h=>joinS_l (hp.in_.first x h).2;have τk:∀x,k.first x=true→JE a σ τ x=τ x:=fun x h=>xq (hk.in_.first x h).1;have hnull:∀ {b:Bool},(p.null&&k.null)=true↔p.null=true∧k.null=true:=by simp
 exact {
  len:=by omega
  same:=fun i hi=>(hp.same i (by omega)).trans (hk.same i hi)
  in_:=zFB hp.in_ hk.in_ h0 h1
  take:=fun x hx1 hx2=>by
   by_cases cx:x<a
   ·rw[joinS_l cx];obtain⟨t1,t2,t3⟩:=hp.take x hx1 cx;exact⟨by omega,t2,t3⟩
   ·rw[xq (by omega)];obtain⟨t1,t2,nx,t3⟩:=hk.take x (by omega) hx2;exact⟨t1,by omega,nx,by rw[hp.same _ t2];exact t3⟩
  fwd:=fun Q hQ j n g=>by
   rcases hp.fwd Q (aP hQ) j n g with ⟨x,hx,hj⟩ | ⟨hn,n',hn',g'⟩
   ·refine .inl ⟨x,?_,by rw[σp x hx];exact hj⟩;unfold qe;dsimp only;split
    ·simp[orF,hx]
    ·exact hx
   ·rcases hk.fwd Q (aK hQ) j n' g' with ⟨x,hx,hj⟩ | ⟨hn2,n2,hn2',g2⟩
    ·refine .inl ⟨x,?_,by rw[τk x hx];exact hj⟩;unfold qe;dsimp only;rw[if_pos hn];simp[orF,hx]
    ·exact .inr ⟨by simp[qe,hn,hn2],n2,by omega,g2⟩
  first:=fun Q hQ x hx=>by
   unfold qe at hx;dsimp only at hx;split at hx
   ·rename_i hn;rw[orF,Bool.or_eq_true] at hx;rcases hx with hx | hx
    ·rw[σp x hx];exact hp.first Q (aP hQ) x hx
    ·rw[τk x hx];exact hp.null Q (aP hQ) hn _ (hk.first Q (aK hQ) x hx)
   ·rw[σp x hx];exact hp.first Q (aP hQ) x hx
  null:=fun Q hQ hn j hj=>by
   have hn:p.null=true∧k.null=true:=(by simpa [qe] using hn);exact hp.null Q (aP hQ) hn.1 j (hk.null Q (aK hQ) hn.2 j hj)
  on:=fun Q hQ x nx hx1 hx2 hs j hj=>by
   by_cases cx:x<a
   ·rw[joinS_l cx] at hs;rcases hp.on Q (aP hQ) x nx hx1 cx hs j hj with ⟨y,hy,e⟩ | ⟨hl,g⟩
    ·exact .inl ⟨y,by simp[qe,zm,xu,hy],by rw[joinS_l (hp.in_.fol x y hy).2.2];exact e⟩
    ·obtain⟨n,g⟩:=g;rcases hk.fwd Q (aK hQ) j n g with ⟨y,hy,e⟩ | ⟨hn,n',_,g'⟩
     ·exact .inl ⟨y,by simp[qe,zm,hl,hy],by rw[τk y hy];exact e⟩
     ·exact .inr ⟨by simp[qe,hn,orF,hl],n',g'⟩
   ·rw[xq (by omega)] at hs;rcases hk.on Q (aK hQ) x nx (by omega) hx2 hs j hj with ⟨y,hy,e⟩ | ⟨hl,g⟩
    ·exact .inl ⟨y,by simp[qe,zm,xu,hy],by rw[xq (hk.in_.fol x y hy).2.1];exact e⟩
    ·refine .inr ⟨?_,g⟩;unfold qe;dsimp only;split
     ·simp[orF,hl]
     ·exact hl
  fol:=fun Q hQ x nx y hs hy=>by
   have hy:(p.fol x y=true∨k.fol x y=true)∨p.last x=true∧k.first y=true:=(by simpa [qe,zm,xu] using hy);rcases hy with (hy | hy) | ⟨hy1,hy2⟩
   ·have:=hp.in_.fol x y hy;rw[joinS_l this.1.2] at hs;rw[joinS_l this.2.2];exact hp.fol Q (aP hQ) x nx y hs hy
   ·have:=hk.in_.fol x y hy;rw[xq this.1.1] at hs;rw[xq this.2.1];exact hk.fol Q (aK hQ) x nx y hs hy
   ·rw[joinS_l (hp.in_.last x hy1).2] at hs;rw[τk y hy2];exact hp.last Q (aP hQ) x nx hs hy1 _ (hk.first Q (aK hQ) y hy2)
  last:=fun Q hQ x nx hs hl j hj=>by
   have hl:k.last x=true∨k.null=true∧p.last x=true:=by
    unfold qe at hl;dsimp only at hl;split at hl
    ·rename_i hn;rw[orF,Bool.or_eq_true] at hl;exact hl.elim (fun e=> .inr ⟨hn,e⟩) .inl
    ·exact .inl hl
   rcases hl with hl | ⟨hn,hl⟩
   ·rw[xq (hk.in_.last x hl).1] at hs;exact hk.last Q (aK hQ) x nx hs hl j hj
   ·rw[joinS_l (hp.in_.last x hl).2] at hs;exact hp.last Q (aP hQ) x nx hs hl j (hk.null Q (aK hQ) hn j hj)}
theorem zAN (hp:BS p a0 a σ S q q1 next at1) (hk:BS k a c τ S q1 q2 next at2) (h0:a0≤a) (h1:a≤c):BS (zQ p k) a0 c (JE a σ τ) S q (q2++ [zJ at1 at2]) next q2.length:=by
 have l1:=hp.len;have l2:=hk.len;have hlen:(q2++ [zJ at1 at2]).length=q2.length+1:=by rw[List.length_append];rfl
 have aK:∀ {Q},qA Q (q2++ [zJ at1 at2]) q.length→qA Q q2 q1.length:=fun hQ=>zAM l1 (Xw (by omega) (fun i hi=>zv hi) hQ);have aP:∀ {Q},qA Q (q2++ [zJ at1 at2]) q.length→qA Q q1 q.length:=fun hQ=>Xw (by omega) (fun i hi=>(zv (by omega)).trans (hk.same i hi)) hQ;have aF:∀ {Q},qA Q (q2++ [zJ at1 at2]) q.length→Q[q2.length]? =some (zJ at1 at2):=fun hQ=>by
  rw[hQ q2.length (by omega) (by omega),zz]
 have σp:∀x,p.first x=true→JE a σ τ x=σ x:=fun x h=>joinS_l (hp.in_.first x h).2;have τk:∀x,k.first x=true→JE a σ τ x=τ x:=fun x h=>xq (hk.in_.first x h).1
 exact {
  len:=by omega
  same:=fun i hi=>(zv (by omega)).trans ((hk.same i (by omega)).trans (hp.same i hi))
  in_:=Q5 hp.in_ hk.in_ h0 h1
  take:=fun x hx1 hx2=>by
   by_cases cx:x<a
   ·rw[joinS_l cx];obtain⟨t1,t2,nx,t3⟩:=hp.take x hx1 cx;exact⟨by omega,by omega,nx,by rw[zv (by omega),hk.same _ t2];exact t3⟩
   ·rw[xq (by omega)];obtain⟨t1,t2,nx,t3⟩:=hk.take x (by omega) hx2;exact⟨by omega,by omega,nx,by rw[zv t2];exact t3⟩
  fwd:=fun Q hQ j n g=>by
   obtain⟨n',hn',g' | g'⟩:=yz (aF hQ) g
   ·rcases hp.fwd Q (aP hQ) j n' g' with ⟨x,hx,hj⟩ | ⟨hn,n2,hn2,g2⟩
    ·exact .inl ⟨x,by simp[zQ,orF,hx],by rw[σp x hx];exact hj⟩
    ·exact .inr ⟨by simp[zQ,hn],n2,by omega,g2⟩
   ·rcases hk.fwd Q (aK hQ) j n' g' with ⟨x,hx,hj⟩ | ⟨hn,n2,hn2,g2⟩
    ·exact .inl ⟨x,by simp[zQ,orF,hx],by rw[τk x hx];exact hj⟩
    ·exact .inr ⟨by simp[zQ,hn],n2,by omega,g2⟩
  first:=fun Q hQ x hx=>by
   have hx:p.first x=true∨k.first x=true:=(by simpa [zQ,orF] using hx);rcases hx with hx | hx
   ·rw[σp x hx];exact eps_l (aF hQ) (hp.first Q (aP hQ) x hx)
   ·rw[τk x hx];exact eps_r (aF hQ) (hk.first Q (aK hQ) x hx)
  null:=fun Q hQ hn j hj=>by
   have hn:p.null=true∨k.null=true:=(by simpa [zQ] using hn);rcases hn with hn | hn
   ·exact eps_l (aF hQ) (hp.null Q (aP hQ) hn j hj)
   ·exact eps_r (aF hQ) (hk.null Q (aK hQ) hn j hj)
  on:=fun Q hQ x nx hx1 hx2 hs j hj=>by
   by_cases cx:x<a
   ·rw[joinS_l cx] at hs;rcases hp.on Q (aP hQ) x nx hx1 cx hs j hj with ⟨y,hy,e⟩ | ⟨hl,g⟩
    ·exact .inl ⟨y,by simp[zQ,xu,hy],by rw[joinS_l (hp.in_.fol x y hy).2.2];exact e⟩
    ·exact .inr ⟨by simp[zQ,orF,hl],g⟩
   ·rw[xq (by omega)] at hs;rcases hk.on Q (aK hQ) x nx (by omega) hx2 hs j hj with ⟨y,hy,e⟩ | ⟨hl,g⟩
    ·exact .inl ⟨y,by simp[zQ,xu,hy],by rw[xq (hk.in_.fol x y hy).2.1];exact e⟩
    ·exact .inr ⟨by simp[zQ,orF,hl],g⟩
  fol:=fun Q hQ x nx y hs hy=>by
   have hy:p.fol x y=true∨k.fol x y=true:=(by simpa [zQ,xu] using hy);rcases hy with hy | hy
   ·have:=hp.in_.fol x y hy;rw[joinS_l this.1.2] at hs;rw[joinS_l this.2.2];exact hp.fol Q (aP hQ) x nx y hs hy
   ·have:=hk.in_.fol x y hy;rw[xq this.1.1] at hs;rw[xq this.2.1];exact hk.fol Q (aK hQ) x nx y hs hy
  last:=fun Q hQ x nx hs hl j hj=>by
   have hl:p.last x=true∨k.last x=true:=(by simpa [zQ,orF] using hl);rcases hl with hl | hl
   ·rw[joinS_l (hp.in_.last x hl).2] at hs;exact hp.last Q (aP hQ) x nx hs hl j hj
   ·rw[xq (hk.in_.last x hl).1] at hs;exact hk.last Q (aK hQ) x nx hs hl j hj}
theorem zDX (hk:BS k a c τ S q q1 next at1):BS (ZE k) a c τ S q (q1++ [zJ at1 next]) next q1.length:=by
 have l1:=hk.len;have hlen:(q1++ [zJ at1 next]).length=q1.length+1:=by rw[List.length_append];rfl
 have aK:∀ {Q},qA Q (q1++ [zJ at1 next]) q.length→qA Q q1 q.length:=fun hQ=>Xw (by omega) (fun i hi=>zv hi) hQ;have aF:∀ {Q},qA Q (q1++ [zJ at1 next]) q.length→Q[q1.length]? =some (zJ at1 next):=fun hQ=>by
  rw[hQ q1.length (by omega) (by omega),zz]
 exact {
  len:=by omega
  same:=fun i hi=>(zv (by omega)).trans (hk.same i hi)
  in_:=⟨hk.in_.first,hk.in_.last,hk.in_.fol⟩
  take:=fun x hx1 hx2=>by
   obtain⟨t1,t2,nx,t3⟩:=hk.take x hx1 hx2;exact⟨t1,by omega,nx,by rw[zv t2];exact t3⟩
  fwd:=fun Q hQ j n g=>by
   obtain⟨n',hn',g' | g'⟩:=yz (aF hQ) g
   ·rcases hk.fwd Q (aK hQ) j n' g' with h | ⟨_,n2,hn2,g2⟩
    ·exact .inl h
    ·exact .inr ⟨rfl,n2,by omega,g2⟩
   ·exact .inr ⟨rfl,n',by omega,g'⟩
  first:=fun Q hQ x hx=>eps_l (aF hQ) (hk.first Q (aK hQ) x hx)
  null:=fun Q hQ _ j hj=>eps_r (aF hQ) hj
  on:=fun Q hQ=>hk.on Q (aK hQ)
  fol:=fun Q hQ=>hk.fol Q (aK hQ)
  last:=fun Q hQ=>hk.last Q (aK hQ)}
theorem zAO (star:Bool) (hk:BS k a c τ S (q++ [zJ next next]) q1 q.length at1):
  BS (loopG star k) a c τ S q (xi q1 q.length at1) next (if star=true then q.length else at1):=by
 have hlen:(q++ [zJ next next]).length=q.length+1:=by rw[List.length_append];rfl
 have l1:=hk.len;rw[hlen] at l1;have h2:=hk.same q.length (by omega);rw[zz] at h2;have hF:(xi q1 q.length at1)[q.length]? =some (zJ next at1):=XZ _ _ _ _ h2;have aK:∀ {Q},qA Q (xi q1 q.length at1) q.length→qA Q q1 (q++ [zJ next next]).length:=fun hQ i hi hl=>by
  rw[hlen] at hi;rw[hQ i (by omega) (by rw[zg];exact hl),qX _ _ _ _ (by omega)]
 have aF:∀ {Q},qA Q (xi q1 q.length at1) q.length→Q[q.length]? =some (zJ next at1):=fun hQ=>by
  rw[hQ q.length (Nat.le_refl _) (by rw[zg];omega),hF]
 have lf:∀ {Q},qA Q (xi q1 q.length at1) q.length→∀(K n:Nat),n≤K→∀j,YD Q q.length j n→(∃x,k.first x=true∧j=τ x)∨∃n',n'≤n∧YD Q next j n':=by
  intro Q hQ K
  induction K with
  | zero=>
   intro n hn j g;obtain⟨n',hn',_⟩:=yz (aF hQ) g;omega
  | succ K ih=>
   intro n hn j g;obtain⟨n',hn',g' | g'⟩:=yz (aF hQ) g
   ·exact .inr ⟨n',by omega,g'⟩
   ·rcases hk.fwd Q (aK hQ) j n' g' with h | ⟨_,n2,hn2,g2⟩
    ·exact .inl h
    ·rcases ih n2 (by omega) j g2 with h | ⟨n3,hn3,g3⟩
     ·exact .inl h
     ·exact .inr ⟨n3,by omega,g3⟩
 exact {
  len:=by rw[zg];omega
  same:=fun i hi=>by rw[qX _ _ _ _ (by omega),hk.same i (by omega),zv hi]
  in_:=Jo star hk.in_
  take:=fun x hx1 hx2=>by
   obtain⟨t1,t2,nx,t3⟩:=hk.take x hx1 hx2;rw[hlen] at t1;exact⟨by omega,by rw[zg];exact t2,nx,by rw[qX _ _ _ _ (by omega)];exact t3⟩
  fwd:=fun Q hQ j n g=>by
   cases star with
   | true=>
    rcases lf hQ n n (Nat.le_refl _) j g with h | h
    ·exact .inl h
    ·exact .inr ⟨by simp[loopG],h⟩
   | false=>
    rcases hk.fwd Q (aK hQ) j n g with h | ⟨hn,n2,hn2,g2⟩
    ·exact .inl h
    ·rcases lf hQ n2 n2 (Nat.le_refl _) j g2 with h | ⟨n3,hn3,g3⟩
     ·exact .inl h
     ·exact .inr ⟨by simp[loopG,hn],n3,by omega,g3⟩
  first:=fun Q hQ x hx=>by
   cases star with
   | true=>exact eps_r (aF hQ) (hk.first Q (aK hQ) x hx)
   | false=>exact hk.first Q (aK hQ) x hx
  null:=fun Q hQ hn j hj=>by
   cases star with
   | true=>exact eps_l (aF hQ) hj
   | false=>exact hk.null Q (aK hQ) (by simpa [loopG] using hn) j (eps_l (aF hQ) hj)
  on:=fun Q hQ x nx hx1 hx2 hs j hj=>by
   rcases hk.on Q (aK hQ) x nx hx1 hx2 hs j hj with ⟨y,hy,e⟩ | ⟨hl,n,g⟩
   ·exact .inl ⟨y,by simp[loopG,zm,hy],e⟩
   ·rcases lf hQ n n (Nat.le_refl _) j g with ⟨y,hy,e⟩ | ⟨n',_,g'⟩
    ·exact .inl ⟨y,by simp[loopG,zm,hl,hy],e⟩
    ·exact .inr ⟨hl,n',g'⟩
  fol:=fun Q hQ x nx y hs hy=>by
   have hy:k.fol x y=true∨k.last x=true∧k.first y=true:=(by simpa [loopG,zm] using hy);rcases hy with hy | ⟨hy1,hy2⟩
   ·exact hk.fol Q (aK hQ) x nx y hs hy
   ·exact hk.last Q (aK hQ) x nx hs hy1 _ (eps_r (aF hQ) (hk.first Q (aK hQ) y hy2))
  last:=fun Q hQ x nx hs hl j hj=>hk.last Q (aK hQ) x nx hs hl j (eps_l (aF hQ) hj)}
end
mutual
theorem zAP:∀(n:Nd),Z8 n=true→∀(a:Nat) (S:Nat→St4),qK S a (zU n)→∀(q:List Sta) (next:Nat),∃σ,BS (glN n a) a (a+(zU n).length) σ S q (buildT n q next).1 next (buildT n q next).2
 | .mk k s l,h,a,S,hS,q,next=>by
  obtain⟨h1,h2⟩:=qw h;obtain⟨f0,f6,f1,f4,f2,fs⟩:=qx h1;by_cases k1:k=1
  ·have e1:l= []:=List.eq_nil_of_length_eq_zero (f1 (by omega));subst e1 k1;rw[zU,if_pos rfl,zL] at hS ⊢;rw[glN,if_pos rfl,buildT,if_pos rfl];exact⟨_,bs_take a S s (hS 0 s rfl) q next⟩
  rw[zU,if_neg k1] at hS ⊢;rw[glN,if_neg k1,buildT,if_neg k1];by_cases k2:k=2
  ·rw[if_pos k2,if_pos k2];exact zFJ l h2 a a (Nat.le_refl _) S hS xE (fun q next=>(q,next)) (fun q next=>⟨fun _=>0,Yz a _ S q next⟩) q next
  rw[if_neg k2,if_neg k2];by_cases k3:k=3
  ·rw[if_pos k3,if_pos k3];have hl:=f2 (.inr k3)
   match l,h2,hS,hl with
   | n::l,h2,hS,_=>
    rw[qu,Bool.and_eq_true] at h2;rw[zL] at hS ⊢;obtain⟨σ,hσ⟩:=zAP n h2.1 a S hS.left q next;rw[yY,XY];have:=zFK l h2.2 a (a+(zU n).length) (by omega) S hS.right (glN n a) q _ _ next ⟨σ,hσ⟩;rw[List.length_append,←Nat.add_assoc];exact this
  rw[if_neg k3,if_neg k3];by_cases k4:k=4
  ·rw[if_pos k4,if_pos k4];obtain⟨σ,hσ⟩:=zAQ l (by have:=f4 (by omega);omega) h2 a S hS (q++ [zJ next next]) q.length;exact⟨σ,zAO true hσ⟩
  rw[if_neg k4,if_neg k4];by_cases k5:k=5
  ·rw[if_pos k5,if_pos k5];obtain⟨σ,hσ⟩:=zAQ l (by have:=f4 (by omega);omega) h2 a S hS (q++ [zJ next next]) q.length;exact⟨σ,zAO false hσ⟩
  rw[if_neg k5,if_neg k5];by_cases k6:k=6
  ·rw[if_pos k6,if_pos k6];obtain⟨σ,hσ⟩:=zAQ l (by have:=f4 (by omega);omega) h2 a S hS q next;exact⟨σ,zDX hσ⟩
  rw[if_neg k6,if_neg k6];have e1:l= []:=List.eq_nil_of_length_eq_zero (f1 (by omega));subst e1;exact⟨fun _=>0,Yz a _ S q next⟩
theorem zFJ:∀(l:List Nd),qu l=true→∀(a0 a:Nat),a0≤a→∀(S:Nat→St4),qK S a (zL l)→∀(p:Gl) (B:List Sta→Nat→List Sta×Nat),(∀q next,∃σ,BS p a0 a σ S q (B q next).1 next (B q next).2) →
  ∀(q:List Sta) (next:Nat),∃σ,BS (yf l a p) a0 (a+(zL l).length) σ S q (B (yH l q next).1 (yH l q next).2).1 next (B (yH l q next).1 (yH l q next).2).2
 | [],_,a0,a,h0,S,_,p,B,hB,q,next=>by
  rw[yf,zL,yH];exact hB q next
 | n::l,h,a0,a,h0,S,hS,p,B,hB,q,next=>by
  rw[qu,Bool.and_eq_true] at h;rw[zL] at hS ⊢;rw[yf,yH,List.length_append,←Nat.add_assoc];exact zFJ l h.2 a0 (a+(zU n).length) (by omega) S hS.right (qe p (glN n a)) (fun q next=>B (buildT n q next).1 (buildT n q next).2) (fun q next=>by
   obtain⟨τ,hτ⟩:=zAP n h.1 a S hS.left q next;obtain⟨σ,hσ⟩:=hB (buildT n q next).1 (buildT n q next).2;exact⟨_,zI2 hσ hτ h0 (by omega)⟩) q next
theorem zFK:∀(l:List Nd),qu l=true→∀(a0 a:Nat),a0≤a→∀(S:Nat→St4),qK S a (zL l)→∀(p:Gl) (q q1:List Sta) (at1 next:Nat),(∃σ,BS p a0 a σ S q q1 next at1) →
  ∃σ,BS (yY l a p) a0 (a+(zL l).length) σ S q (qP l q1 at1 next).1 next (qP l q1 at1 next).2
 | [],_,a0,a,h0,S,_,p,q,q1,at1,next,hB=>by
  rw[yY,zL,qP];exact hB
 | n::l,h,a0,a,h0,S,hS,p,q,q1,at1,next,hB=>by
  rw[qu,Bool.and_eq_true] at h;rw[zL] at hS ⊢;rw[yY,qP,List.length_append,←Nat.add_assoc];refine zFK l h.2 a0 (a+(zU n).length) (by omega) S hS.right (zQ p (glN n a)) q _ _ next ?_;obtain⟨σ,hσ⟩:=hB;obtain⟨τ,hτ⟩:=zAP n h.1 a S hS.left q1 next;exact⟨_,zAN hσ hτ h0 (by omega)⟩
theorem zAQ:∀(l:List Nd),l.length=1→qu l=true→∀(a:Nat) (S:Nat→St4),qK S a (zL l)→∀(q:List Sta) (next:Nat),∃σ,BS (Vc l a) a (a+(zL l).length) σ S q (j8 l q next).1 next (j8 l q next).2
 | [],h,_,_,_,_,_,_=>by cases h
 | [n],_,h,a,S,hS,q,next=>by
  rw[qu,Bool.and_eq_true] at h;rw[zL,zL,List.append_nil] at hS ⊢;rw[Vc,j8];exact zAP n h.1 a S hS q next
 | _::_::_,h,_,_,_,_,_,_=>by cases h
end
end Go.Proofs.YtjeomlickkpebaaGreatDoor
namespace Go.Proofs.YtjeomlickkpebaaGreatDoor
theorem eps_to {q:List Sta} {a b:Nat} (h:Eps q a b):∀s,q[b]? =some s→s.kind≠1→Zd q a b:=by
 induction h with
 | refl a=>exact fun s hs hk=>⟨0,.here hs hk⟩
 | next h hk g ih=>exact fun s hs hk2=>(ih s hs hk2).elim fun k g=>⟨_,.next h hk g⟩
 | also h hk g ih=>exact fun s hs hk2=>(ih s hs hk2).elim fun k g=>⟨_,.also h hk g⟩
theorem zDY {q:List Sta} {a j k:Nat} (g:YD q a j k):∃s,q[j]? =some s∧s.kind≠1:=by
 induction g with
 | here h hk=>exact⟨_,h,hk⟩
 | next _ _ _ ih=>exact ih
 | also _ _ _ ih=>exact ih
theorem reach_iff (q:List Sta) (hq:∀(i:Nat) (s:Sta),q[i]? =some s→Zh q.length s) (l:List Int) (hl:InQ q l) (x:Int):x∈reachP q l↔∃a,a∈l∧∃j:Nat,x=j∧Zd q a.toNat j:=by
 obtain⟨l1,_,a1,s1,d1⟩:=jv q hq l (noneB q.length) hl (zi _);unfold reachP;rw[qQ];constructor
 ·rintro⟨i,rfl,hi,hs,hk⟩;rcases s1 i hs with h | ⟨a,ha,he⟩
  ·rw[noneB_get] at h;cases h
  ·obtain⟨s,hsi⟩:∃s,q[i]? =some s:=⟨_,List.getElem?_eq_getElem hi⟩;rw[hsi] at hk;exact⟨a,ha,i,rfl,eps_to he s hsi (by simpa using hk)⟩
 ·rintro⟨a,ha,j,rfl,k,g⟩;have h0:=a1 a ha;have key:∀ {i j k:Nat},YD q i j k→(marksP q l (noneB q.length)).getD i false=true→(marksP q l (noneB q.length)).getD j false=true:=by
   intro i j k g
   induction g with
   | here _ _=>exact id
   | next h hk _ ih=>exact fun h2=>ih (((d1 _ h2).resolve_left (by rw[noneB_get];decide)) _ h hk).1
   | also h hk _ ih=>exact fun h2=>ih (((d1 _ h2).resolve_left (by rw[noneB_get];decide)) _ h hk).2
  obtain⟨s,hs,hk⟩:=zDY g;exact⟨j,rfl,(List.getElem?_eq_some_iff.1 hs).1,key g h0,by rw[hs];simpa using hk⟩
theorem zDZ (q:List Sta) (hq:∀(i:Nat) (s:Sta),q[i]? =some s→Zh q.length s) (b:Nat) (l:List Int) (x:Int):x∈zy q b l↔∃a s,a∈l∧lookS q a=some s∧s.kind=0∧xf s.set b=true∧∃j:Nat,x=j∧Zd q s.next j:=by
 have h1:x∈zy q b l↔∃a,a∈nextsP q b l∧∃j:Nat,x=j∧Zd q a.toNat j:=by
  unfold zy;split
  ·rename_i e;rw[e];exact⟨(fun h=>by cases h),fun⟨_,h,_⟩=>by cases h⟩
  ·exact reach_iff q hq _ (nexts_in q hq b l) x
 rw[h1];constructor
 ·rintro⟨a,ha,j,e,g⟩;obtain⟨c,s,hc,h2,h3,h4,rfl⟩:=(qy q b l a).1 ha;rw[Int.toNat_natCast] at g;exact⟨c,s,hc,h2,h3,h4,j,e,g⟩
 ·rintro⟨c,s,hc,h2,h3,h4,j,e,g⟩;exact⟨_,(qy q b l _).2 ⟨c,s,hc,h2,h3,h4,rfl⟩,j,e,by rw[Int.toNat_natCast];exact g⟩
inductive kO:List Int→Prop
 | nil:kO []
 | cons {a:Int} {l:List Int} (h:∀x,x∈l→a<x) (g:kO l):kO (a::l)
theorem JF:∀ {l:List Int} {a:Int},kO l→(∀x,x∈l→x<a)→kO (l++ [a])
 | [],a,_,_=> .cons (fun x hx=>by cases hx) .nil
 | b::l,a,.cons h g,hx=> .cons (fun x hm=>by
   rcases List.mem_append.1 hm with hm | hm
   ·exact h x hm
   ·rw[List.mem_singleton.1 hm];exact hx b (by simp)) (JF g fun x hm=>hx x (by simp[hm]))
theorem vA (q:List Sta) (seen:List Bool):∀n,kO (qo q seen n)
 | 0=> .nil
 | n+1=>by
  rw[qo];split
  ·refine JF (vA q seen n) fun x hx=> ?_;obtain⟨i,rfl,hi,_⟩:=(qQ q seen n x).1 hx;omega
  ·exact vA q seen n
theorem zAR:∀ {l m:List Int},kO l→kO m→(∀x,x∈l↔x∈m)→l=m
 | [],[],_,_,_=>rfl
 | [],b::m,_,_,h=>absurd ((h b).2 (by simp)) (by simp)
 | a::l,[],_,_,h=>absurd ((h a).1 (by simp)) (by simp)
 | a::l,b::m,.cons h1 g1,.cons h2 g2,h=>by
  have hab:a=b:=by
   rcases List.mem_cons.1 ((h a).1 (by simp)) with e | e
   ·exact e
   ·have:=h2 a e;rcases List.mem_cons.1 ((h b).2 (by simp)) with e2 | e2
    ·exact e2.symm
    ·have:=h1 b e2;omega
  subst hab;rw[zAR g1 g2 fun x=> ?_];constructor
  ·intro hx;rcases List.mem_cons.1 ((h x).1 (by simp[hx])) with e | e
   ·have:=h1 x hx;omega
   ·exact e
  ·intro hx;rcases List.mem_cons.1 ((h x).2 (by simp[hx])) with e | e
   ·have:=h2 x hx;omega
   ·exact e
theorem Zz (q:List Sta) (first:List Int):∀w:List Nat,kO (xO q w (reachP q first)):=by
 have h1:∀b l,kO (zy q b l):=fun b l=>by
  unfold zy;split
  ·exact .nil
  ·exact vA _ _ _
 have h2:∀(w:List Nat) l,kO l→kO (xO q w l):=by
  intro w
  induction w with
  | nil=>exact fun l h=>h
  | cons b w ih=>exact fun l _=>ih _ (h1 b l)
 exact fun w=>h2 w _ (vA _ _ _)
structure zIJ (Q:List Sta) (n:Nd) (a1 e:Nat) (σ:Nat→Nat):Prop where
 end_:∃j,Q[e]? =some (endS j)
 take:∀p,0<p→p<(zR n).m→∃nx,Q[σ p]? =some (qn (setAt (zR n).sets p) nx)∧∀j,Zd Q nx j↔(∃p',(zR n).behind p p'=true∧j=σ p')∨(zR n).last p=true∧j=e
 entry:∀j,Zd Q a1 j↔(∃p',(zR n).behind 0 p'=true∧j=σ p')∨(zR n).last 0=true∧j=e
theorem Xx {Q:List Sta} {e r:Nat} (h:Q[e]? =some (endS r)) (j:Nat):Zd Q e j↔j=e:=by
 constructor
 ·rintro⟨k,g⟩;cases g with
  | here h2 hk=>rfl
  | next h2 hk g=>rw[h] at h2;cases h2;exact absurd hk (by simp[endS])
  | also h2 hk g=>rw[h] at h2;cases h2;exact absurd hk (by simp[endS])
 ·rintro rfl;exact⟨0,.here h (by simp[endS])⟩
theorem zGH (n:Nd) (hm:Z8 n=true) (q:List Sta) (r:Nat):∃σ,∀Q:List Sta,(∀i,i<(buildT n (q++ [endS r]) q.length).1.length→Q[i]? =(buildT n (q++ [endS r]) q.length).1[i]?)→zIJ Q n (buildT n (q++ [endS r]) q.length).2 q.length σ:=by
 have hset:qK (setAt (noR::zU n)) 1 (zU n):=fun i s h=>by
  unfold setAt;rw[Nat.add_comm,List.getD_cons_succ,List.getD_eq_getElem?_getD,h];rfl
 obtain⟨σ,hb⟩:=zAP n hm 1 _ hset (q++ [endS r]) q.length;refine⟨σ,fun Q hQ=> ?_⟩;generalize (buildT n (q++ [endS r]) q.length).1=q1 at hb hQ;generalize (buildT n (q++ [endS r]) q.length).2=a1 at hb;have hlen:(q++ [endS r]).length=q.length+1:=by rw[List.length_append];rfl
 have h1:=hb.len;rw[hlen] at h1;have hag:qA Q q1 (q++ [endS r]).length:=fun i _ hi=>hQ i hi;have he:Q[q.length]? =some (endS r):=by rw[hQ _ (by omega),hb.same _ (by omega),zz]
 refine⟨⟨r,he⟩,fun p h0 hp=> ?_,fun j=> ?_⟩
 ·have hp2:p<1+(zU n).length:=by
   have h5:p<(zU n).length+1:=hp;omega
  obtain⟨t1,t2,nx,t3⟩:=hb.take p h0 hp2;have hs:Q[σ p]? =some (qn (setAt (noR::zU n) p) nx):=by rw[hQ _ t2];exact t3
  have hpn:¬p=0:=by omega
  refine⟨nx,hs,fun j=> ?_⟩;simp only[zR,if_neg hpn];constructor
  ·intro g;rcases hb.on Q hag p nx h0 hp2 hs j g with h | ⟨h2,g2⟩
   ·exact .inl h
   ·exact .inr ⟨h2,(Xx he j).1 g2⟩
  ·rintro (⟨p',h2,rfl⟩ | ⟨h2,rfl⟩)
   ·exact hb.fol Q hag p nx p' hs h2
   ·exact hb.last Q hag p nx hs h2 _ ((Xx he _).2 rfl)
 ·simp only[zR,if_pos];constructor
  ·rintro⟨k,g⟩;rcases hb.fwd Q hag j k g with h | ⟨h2,k',_,g2⟩
   ·exact .inl h
   ·exact .inr ⟨h2,(Xx he j).1 ⟨k',g2⟩⟩
  ·rintro (⟨p',h2,rfl⟩ | ⟨h2,rfl⟩)
   ·exact hb.first Q hag p' h2
   ·exact hb.null Q hag h2 _ ((Xx he _).2 rfl)
structure zGI where
 n:Nd
 σ:Nat→Nat
 e:Nat
 a:Nat
theorem JG:∀(l:List Nd) (j:Nat) (q:List Sta) (first:List Int),vR l→q.length≤(qD l j q first).1.length∧(∀i,i<q.length→(qD l j q first).1[i]? =q[i]?) ∧
  ∃D:List zGI,D.map (·.n)=l∧(qD l j q first).2=first++D.map (fun d=>(d.a:Int))∧∀Q:List Sta,(∀i,i<(qD l j q first).1.length→Q[i]? =(qD l j q first).1[i]?)→∀d,d∈D→zIJ Q d.n d.a d.e d.σ
 | [],j,q,first,_=>by
  rw[qD];exact⟨Nat.le_refl _,fun _ _=>rfl,[],rfl,(List.append_nil _).symm,fun Q _ d hd=>by cases hd⟩
 | n::l,j,q,first,hg=>by
  have hm:=hg n (by simp);obtain⟨σ,hσ⟩:=zGH n hm.1 q j;have hb:=xl n hm.1 hm.2 (q++ [endS j]) q.length;have hlen:(q++ [endS j]).length=q.length+1:=by rw[List.length_append];rfl
  have h1:=hb.len;rw[hlen] at h1;obtain⟨i1,i2,D,d1,d2,d3⟩:=JG l (j+1) (buildT n (q++ [endS j]) q.length).1 (first++ [((buildT n (q++ [endS j]) q.length).2:Int)]) fun m hm=>hg m (by simp[hm]);rw[qD];refine⟨by omega,fun i hi=> ?_,⟨n,σ,q.length,(buildT n (q++ [endS j]) q.length).2⟩::D,by rw[List.map_cons,d1],?_,fun Q hQ d hd=> ?_⟩
  ·rw[i2 i (by omega),hb.same i (by omega),zv hi]
  ·rw[d2,List.append_assoc];rfl
  ·rcases List.mem_cons.1 hd with rfl | hd
   ·exact hσ Q fun i hi=>(hQ i (by omega)).trans (i2 i hi)
   ·exact d3 Q hQ d hd
def zAS:List zGI→List (Nat→Bool)→Nat→Prop
 | d::D,a::x,j=>(∃p,p<(zR d.n).m∧a p=true∧((∃p',(zR d.n).behind p p'=true∧j=d.σ p')∨(zR d.n).last p=true∧j=d.e))∨zAS D x j
 | _,_,_=>False
section
variable {Q:List Sta}
theorem ZT:∀(D:List zGI) (x:List (Nat→Bool)) (b j:Nat),(∀d,d∈D→zIJ Q d.n d.a d.e d.σ)→(∀d,d∈D→zD2 (zR d.n) (xj d.n)) →
  (zAS D (zO (D.map fun d=>zR d.n) x b) j↔∃i s,zAS D x i∧Q[i]? =some s∧s.kind=0∧xf s.set b=true∧Zd Q s.next j)
 | [],x,b,j,_,_=>⟨fun h=>by cases x<;>exact h.elim,fun⟨_,_,h,_⟩=>by cases x<;>exact h.elim⟩
 | d::D,[],b,j,_,_=>⟨fun h=>h.elim,fun⟨_,_,h,_⟩=>h.elim⟩
 | d::D,a::x,b,j,hD,hR=>by
  have hd:=hD d (by simp);have hr:=hR d (by simp);rw[List.map_cons,zO,zAS,ZT D x b j (fun c hc=>hD c (by simp[hc])) fun c hc=>hR c (by simp[hc])];have hst:∀p',qI (zR d.n) a b p'=true↔(∃p,p<(zR d.n).m∧a p=true∧(zR d.n).behind p p'=true)∧0<p'∧xf (setAt (zR d.n).sets p') b=true:=fun p'=>by
   simp only[qI,Bool.and_eq_true,decide_eq_true_eq];rw[ja]
  constructor
  ·rintro (⟨p',hp',hs,hj⟩ | ⟨i,s,h1,h2⟩)
   ·obtain⟨⟨p,hp,hap,hbe⟩,h0,hh⟩:=(hst p').1 hs;obtain⟨nx,t1,t2⟩:=hd.take p' h0 hp';exact⟨d.σ p',_,.inl ⟨p,hp,hap,.inl ⟨p',hbe,rfl⟩⟩,t1,rfl,hh,(t2 j).2 hj⟩
   ·exact⟨i,s,.inr h1,h2⟩
  ·rintro⟨i,s,h1 | h1,h2,h3,h4,h5⟩
   ·obtain⟨p,hp,hap,⟨p',hbe,rfl⟩ | ⟨_,rfl⟩⟩:=h1
    ·have hto:=hr.to p p' hbe;obtain⟨nx,t1,t2⟩:=hd.take p' hto.1 hto.2;rw[t1] at h2;cases h2;exact .inl ⟨p',hto.2,(hst p').2 ⟨⟨p,hp,hap,hbe⟩,hto.1,h4⟩,(t2 j).1 h5⟩
    ·obtain⟨r,he⟩:=hd.end_;rw[he] at h2;cases h2;cases h3
   ·exact .inr ⟨i,s,h1,h2,h3,h4,h5⟩
theorem vd:∀(D:List zGI) (j:Nat),(∀d,d∈D→zIJ Q d.n d.a d.e d.σ)→(∀d,d∈D→zD2 (zR d.n) (xj d.n))→(zAS D (xI (D.map fun d=>zR d.n)) j↔∃d,d∈D∧Zd Q d.a j)
 | [],j,_,_=>⟨fun h=>h.elim,fun⟨_,h,_⟩=>by cases h⟩
 | d::D,j,hD,hR=>by
  have hd:=hD d (by simp);have hr:=hR d (by simp);have ih:=vd D j (fun c hc=>hD c (by simp[hc])) fun c hc=>hR c (by simp[hc]);show (_∨zAS D (xI (D.map fun d=>zR d.n)) j)↔_;rw[ih];constructor
  ·rintro (⟨p,hp,hs,hj⟩ | ⟨c,hc,h⟩)
   ·have:p=0:=(by simpa [jB,kL] using hs);subst this;exact⟨d,by simp,(hd.entry j).2 hj⟩
   ·exact⟨c,by simp[hc],h⟩
  ·rintro⟨c,hc,h⟩;rcases List.mem_cons.1 hc with rfl | hc
   ·exact .inl ⟨0,hr.pos,rfl,(hd.entry j).1 h⟩
   ·exact .inr ⟨c,hc,h⟩
theorem ZU:∀(D:List zGI) (x y:List (Nat→Bool)) (j:Nat),x.length=D.length→y.length=D.length→zr (D.map fun d=>zR d.n) x y=true→zAS D x j→zAS D y j
 | [],x,y,j,_,_,_,h=>by cases x<;>exact h.elim
 | d::D,a::x,b::y,j,hx,hy,hs,h=>by
  rw[List.map_cons,zr,Bool.and_eq_true] at hs;rw[zAS] at h ⊢;refine h.imp ?_ (ZU D x y j (by simpa using hx) (by simpa using hy) hs.2);rintro⟨p,hp,ha,hj⟩;exact⟨p,hp,by rw[←(eqF_iff a b _).1 hs.1 p hp];exact ha,hj⟩
theorem hits_dead:∀(D:List zGI) (x:List (Nat→Bool)) (j:Nat),ZR (D.map fun d=>zR d.n) x=false→¬zAS D x j
 | [],x,j,_=>fun h=>by cases x<;>exact h.elim
 | d::D,[],j,_=>fun h=>h.elim
 | d::D,a::x,j,h=>by
  rw[List.map_cons,ZR,Bool.or_eq_false_iff] at h;rintro (⟨p,hp,ha,_⟩ | h2)
  ·have:=(qp a _).2 ⟨p,hp,ha⟩;have h3:=h.1;unfold vS at h3;rw[h3] at this;cases this
  ·exact hits_dead D x j h.2 h2
end
theorem sameP_sym:∀(rs:List RuN) (x y:List (Nat→Bool)),zr rs x y=true→zr rs y x=true
 | [],x,y,_=>by cases x<;>cases y<;>rfl
 | _::_,[],y,_=>by cases y<;>rfl
 | _::_,_::_,[],_=>rfl
 | r::rs,a::x,b::y,h=>by
  rw[zr,Bool.and_eq_true] at h ⊢;exact⟨(eqF_iff _ _ _).2 fun p hp=>((eqF_iff _ _ _).1 h.1 p hp).symm,sameP_sym rs x y h.2⟩
theorem sameP_trans:∀(rs:List RuN) (x y z:List (Nat→Bool)),x.length=rs.length→y.length=rs.length→z.length=rs.length→zr rs x y=true→zr rs y z=true→zr rs x z=true
 | [],x,y,z,_,_,_,_,_=>by cases x<;>cases z<;>rfl
 | r::rs,a::x,b::y,c::z,hx,hy,hz,h,g=>by
  rw[zr,Bool.and_eq_true] at h g ⊢;exact⟨(eqF_iff _ _ _).2 fun p hp=>((eqF_iff _ _ _).1 h.1 p hp).trans ((eqF_iff _ _ _).1 g.1 p hp),sameP_trans rs x y z (by simpa using hx) (by simpa using hy) (by simpa using hz) h.2 g.2⟩
theorem XA:∀(rs:List RuN) (x:List (Nat→Bool)),zr rs x x=true
 | [],x=>by cases x<;>rfl
 | _::_,[]=>rfl
 | r::rs,a::x=>by
  rw[zr,Bool.and_eq_true];exact⟨(eqF_iff _ _ _).2 fun _ _=>rfl,XA rs x⟩
theorem zAT {r:RuN} {a b:Nat→Bool} (h:eqF a b r.m=true) (c:Nat):qI r a c=qI r b c:=by
 have h2:=(eqF_iff a b r.m).1 h;funext q;unfold qI;congr 1;rw[Bool.eq_iff_iff,ja,ja];exact exists_congr fun p=>and_congr_right fun hp=>by rw[h2 p hp]
theorem XC:∀(rs:List RuN) (x y:List (Nat→Bool)) (b:Nat),zr rs x y=true→zr rs (zO rs x b) (zO rs y b)=true
 | [],x,y,_,_=>by cases x<;>cases y<;>rfl
 | _::_,[],y,_,_=>by cases y<;>rfl
 | _::_,_::_,[],_,_=>rfl
 | r::rs,a::x,c::y,b,h=>by
  rw[zr,Bool.and_eq_true] at h;rw[zO,zO,zr,Bool.and_eq_true,zAT h.1 b];exact⟨(eqF_iff _ _ _).2 fun _ _=>rfl,XC rs x y b h.2⟩
theorem JH:∀(rs:List RuN) (x y:List (Nat→Bool)),x.length=rs.length→y.length=rs.length→zr rs x y=true→ZR rs x=ZR rs y
 | [],x,y,_,_,_=>by cases x<;>cases y<;>rfl
 | r::rs,a::x,b::y,hx,hy,h=>by
  rw[zr,Bool.and_eq_true] at h;rw[ZR,ZR,JH rs x y (by simpa using hx) (by simpa using hy) h.2];congr 1;unfold vS;have h2:=(eqF_iff a b r.m).1 h.1;rw[Bool.eq_iff_iff,qp,qp];exact exists_congr fun p=>and_congr_right fun hp=>by rw[h2 p hp]
theorem JI:∀(rs:List RuN) (x:List (Nat→Bool)) (b:Nat),ZR rs x=false→ZR rs (zO rs x b)=false
 | [],x,_,_=>by cases x<;>rfl
 | _::_,[],_,_=>rfl
 | r::rs,a::x,b,h=>by
  rw[ZR,Bool.or_eq_false_iff] at h;rw[zO,ZR,Bool.or_eq_false_iff];refine⟨?_,JI rs x b h.2⟩;rcases hq:vS r (qI r a b) with _ | _
  ·rfl
  ·obtain⟨q,hq1,hq2⟩:=(qp _ _).1 hq;simp only[qI,Bool.and_eq_true] at hq2;obtain⟨p,hp,hap,_⟩:=(ja r a q r.m).1 hq2.1;have:=(qp a r.m).2 ⟨p,hp,hap⟩;have h3:=h.1;unfold vS at h3;rw[h3] at this;cases this
def placesP (rs:List RuN):List Nat→List (Nat→Bool)→List (Nat→Bool)
 | [],x=>x
 | b::w,x=>placesP rs w (zO rs x b)
theorem jj (rs:List RuN):∀(w:List Nat) (b:Nat) (x:List (Nat→Bool)),placesP rs (w++ [b]) x=zO rs (placesP rs w x) b
 | [],_,_=>rfl
 | _::w,b,_=>jj rs w b _
theorem jX (rs:List RuN):∀(w:List Nat) (x:List (Nat→Bool)),x.length=rs.length→(placesP rs w x).length=rs.length
 | [],_,h=>h
 | b::w,_,h=>jX rs w _ (xV rs _ b h)
theorem place_met {rs:List RuN} {K:Nat} {xs:List (List (Nat→Bool))} {rows:List (List Int)} {sem:List (Nat→Bool)→List Nat→Int} (h:GoI (zO rs) (vb rs) (zr rs) (fun x=>x.length=rs.length) sem (xI rs) K xs rows) (hK:K=xs.length):
  ∀(w:List Nat),ByL w→ZR rs (placesP rs w (xI rs))=false∧w≠ []∨∃(i:Nat) (x:List (Nat→Bool)),xs[i]? =some x∧zr rs x (placesP rs w (xI rs))=true:=by
 intro w
 induction hw:w.length generalizing w with
 | zero=>
  intro _;have:w= []:=List.eq_nil_of_length_eq_zero hw;subst this;exact .inr ⟨0,_,h.head,XA _ _⟩
 | succ m ih=>
  intro hby
  have hne:w≠ []:=fun e=>by rw[e] at hw;cases hw
  have hl:w=w.dropLast++ [w.getLast hne]:=(List.dropLast_concat_getLast hne).symm;obtain⟨u,hu⟩:∃u,w.dropLast=u:=⟨_,rfl⟩;obtain⟨b,hb⟩:∃b,w.getLast hne=b:=⟨_,rfl⟩;rw[hu,hb] at hl;have hb256:b<256:=hby b (by rw[hl];simp);have hul:u.length=m:=by rw[hl,List.length_append] at hw;simpa using hw
  rcases ih u hul (fun c hc=>hby c (by rw[hl];simp[hc])) with ⟨h1,_⟩ | ⟨i,x,hx,hs⟩
  ·exact .inl ⟨by rw[hl,jj];exact JI rs _ b h1,hne⟩
  ·have hxl:x.length=rs.length:=h.good x (List.mem_of_getElem? hx);have hst:=XC rs x _ b hs;rw[←jj,←hl] at hst;have hil:=(List.getElem?_eq_some_iff.1 hx).1;obtain⟨r,hr⟩:∃r,rows[i]? =some r:=⟨_,List.getElem?_eq_getElem (by rw[h.len,hK];exact hil)⟩;obtain⟨hr1,x2,hx2,hent⟩:=h.row i r hr;rw[hx] at hx2;cases hx2;obtain⟨e,he⟩:∃e,r[b]? =some e:=⟨_,List.getElem?_eq_getElem (by omega)⟩;have l1:=xV rs x b hxl;have l2:=jX rs w _ (xz rs);rcases hent b e he with ⟨_,hd⟩ | ⟨k,y,_,hy,_,hy2,_⟩
   ·left;refine⟨?_,hne⟩;rw[←JH rs _ _ l1 l2 hst];unfold vb at hd
    simpa using hd
   ·right;refine⟨k,y,hy,?_⟩;rcases hy2 with rfl | hy2
    ·exact hst
    ·exact sameP_trans rs _ _ _ (h.good y (List.mem_of_getElem? hy)) l1 l2 hy2 hst
def RelL (D:List zGI) (l:List Int) (x:List (Nat→Bool)):Prop:=∀v,v∈l↔∃j:Nat,v=j∧zAS D x j
theorem zAU (all:List Nd) (hg:vR all) {K:Nat} {xs:List (List (Nat→Bool))} {rows:List (List Int)} {sem:List (Nat→Bool)→List Nat→Int}
  (h:GoI (zO (all.map zR)) (vb (all.map zR)) (zr (all.map zR)) (fun x=>x.length=(all.map zR).length) sem (xI (all.map zR)) K xs rows) (hK:K=xs.length)
  (ls:List (List Int)) (hls:∀l,l∈ls→kN (zt all).1 (reachP (zt all).1 (zt all).2) l) (hun:∀(i j:Nat) a b,i<j→ls[i]? =some a→ls[j]? =some b→a≠b):ls.length≤xs.length:=by
 obtain⟨_,_,D,d1,d2,d3⟩:=JG all 0 [] [] hg;have hmk:=Xd all hg;change (zt all).2= []++_ at d2;rw[List.nil_append] at d2;have hD:=d3 (zt all).1 (fun i _=>rfl);have hrs:D.map (fun d=>zR d.n)=all.map zR:=by rw[←d1,List.map_map];rfl
 have hR:∀d,d∈D→zD2 (zR d.n) (xj d.n):=fun d hd=>by
  have:d.n∈all:=by rw[←d1];exact List.mem_map.2 ⟨d,hd,rfl⟩
  exact rule_ok d.n (hg _ this).1 (hg _ this).2
 have hDl:D.length=(all.map zR).length:=by rw[←hrs,List.length_map]
 have hrel:∀w:List Nat,RelL D (xO (zt all).1 w (reachP (zt all).1 (zt all).2)) (placesP (all.map zR) w (xI (all.map zR))):=by
  have h1:∀(w:List Nat) l x,RelL D l x→RelL D (xO (zt all).1 w l) (placesP (all.map zR) w x):=by
   intro w
   induction w with
   | nil=>exact fun _ _ h=>h
   | cons b w ih=>
    intro l x hx;refine ih _ _ fun v=> ?_;rw[zDZ _ hmk.ok];constructor
    ·rintro⟨a,s,ha,hlk,hk,hh,j,rfl,he⟩;obtain⟨i,rfl,hi⟩:=(hx a).1 ha;unfold lookS at hlk;rw[if_pos (by omega),Int.toNat_natCast] at hlk;refine⟨j,rfl,?_⟩;rw[←hrs];exact (ZT D x b j hD hR).2 ⟨i,s,hi,hlk,hk,hh,he⟩
    ·rintro⟨j,rfl,hj⟩;rw[←hrs] at hj;obtain⟨i,s,hi,hlk,hk,hh,he⟩:=(ZT D x b j hD hR).1 hj;exact⟨(i:Int),s,(hx i).2 ⟨i,rfl,hi⟩,by unfold lookS;rw[if_pos (by omega),Int.toNat_natCast];exact hlk,hk,hh,j,rfl,he⟩
  refine fun w=>h1 w _ _ fun v=> ?_;rw[reach_iff _ hmk.ok _ hmk.in_];constructor
  ·rintro⟨a,ha,j,rfl,he⟩;rw[d2] at ha;obtain⟨d,hd,rfl⟩:=List.mem_map.1 ha;rw[Int.toNat_natCast] at he;refine⟨j,rfl,?_⟩;rw[←hrs];exact (vd D j hD hR).2 ⟨d,hd,he⟩
  ·rintro⟨j,rfl,hj⟩;rw[←hrs] at hj;obtain⟨d,hd,he⟩:=(vd D j hD hR).1 hj;refine⟨(d.a:Int),by rw[d2];exact List.mem_map.2 ⟨d,hd,rfl⟩,j,rfl,by rw[Int.toNat_natCast];exact he⟩
 have hmet:∀i:Nat,∃w k,i<ls.length→ls[i]? =some (xO (zt all).1 w (reachP (zt all).1 (zt all).2))∧∃x,xs[k]? =some x∧zr (all.map zR) x (placesP (all.map zR) w (xI (all.map zR)))=true:=fun i=>by
  by_cases hi:i<ls.length
  ·obtain⟨w,hw,hl,hne⟩:=hls ls[i] (List.getElem_mem hi);rcases place_met h hK w hw with ⟨h1,h2⟩ | ⟨k,x,hk,hs⟩
   ·exfalso;have hnn:=hne.resolve_left h2;obtain⟨v,hv⟩:=List.exists_mem_of_ne_nil _ hnn;rw[hl] at hv;obtain⟨j,_,hj⟩:=(hrel w v).1 hv;rw[←hrs] at h1;have:=hits_dead D _ j h1;rw[hrs] at this;exact this hj
   ·exact⟨w,k,fun _=>⟨by rw[List.getElem?_eq_getElem hi,hl],x,hk,hs⟩⟩
  ·exact⟨[],0,fun x=>absurd x hi⟩
 let W:=fun i=>Classical.choose (hmet i);let F:=fun i=>Classical.choose (Classical.choose_spec (hmet i));have hF:∀i,i<ls.length→ls[i]? =some (xO (zt all).1 (W i) (reachP (zt all).1 (zt all).2))∧∃x,xs[F i]? =some x∧zr (all.map zR) x (placesP (all.map zR) (W i) (xI (all.map zR)))=true:=fun i hi=>Classical.choose_spec (Classical.choose_spec (hmet i)) hi;refine pig ls.length xs.length F (fun i hi=> ?_) fun i k hik hk e=> ?_
 ·obtain⟨_,x,hx,_⟩:=hF i hi;exact (List.getElem?_eq_some_iff.1 hx).1
 ·obtain⟨hi1,x,hx,hs⟩:=hF i (by omega);obtain⟨hk1,y,hy,ht⟩:=hF k hk;rw[e,hy] at hx;cases hx;have l1:=h.good _ (List.mem_of_getElem? hy);have l2:=jX (all.map zR) (W i) _ (xz _);have l3:=jX (all.map zR) (W k) _ (xz _);have hsame:=sameP_trans _ _ _ _ l2 l1 l3 (sameP_sym _ _ _ hs) ht;refine hun i k _ _ hik hi1 hk1 (zAR (Zz _ _ _) (Zz _ _ _) fun v=> ?_);rw[hrel (W i) v,hrel (W k) v];refine exists_congr fun j=>and_congr_right fun _=>⟨fun hj=> ?_,fun hj=> ?_⟩
  ·exact ZU D _ _ j (by rw[hDl];exact l2) (by rw[hDl];exact l3) (by rw[hrs];exact hsame) hj
  ·exact ZU D _ _ j (by rw[hDl];exact l3) (by rw[hDl];exact l2) (by rw[hrs];exact sameP_sym _ _ _ hsame) hj
end Go.Proofs.YtjeomlickkpebaaGreatDoor
namespace Go.Proofs.YtjeomlickkpebaaGreatDoor
noncomputable def zIK (l:List Nd):List Nat→Int:=byF fun w=>qL (l.map zR) (xI (l.map zR)) 0 w
theorem YE (all:List Nd) (hg:vR all) {xs:List (List Int)} {rows:List (List Int)}
  (h:GoI (fun l b=>zy (zt all).1 b l) Z5 xg (kN (zt all).1 (reachP (zt all).1 (zt all).2)) (zGG (zt all).1) (reachP (zt all).1 (zt all).2) xs.length xs rows):
  OkD ⟨rows,xs.map fun l=>accP (zt all).1 l (-1)⟩∧∀w,(⟨rows,xs.map fun l=>accP (zt all).1 l (-1)⟩:Dfa).says 0 w=zIK all w:=by
 have hlow:∀x,kN (zt all).1 (reachP (zt all).1 (zt all).2) x→ -1≤accP (zt all).1 x (-1):=fun x _=>kg _ _ _ (Int.le_refl _);refine⟨Q4 h hlow,fun w=> ?_⟩;rw[Ka (acc:=fun l=>accP (zt all).1 l (-1)) h (JD _ _) (fun _ _=>rfl) hlow w];unfold zIK byF;split
 ·exact zDW all hg w
 ·rfl
theorem Vq (q:List Sta) (start:List Int):kN q start start:=⟨[],(fun b hb=>by cases hb),rfl,.inl rfl⟩
end Go.Proofs.YtjeomlickkpebaaGreatDoor
