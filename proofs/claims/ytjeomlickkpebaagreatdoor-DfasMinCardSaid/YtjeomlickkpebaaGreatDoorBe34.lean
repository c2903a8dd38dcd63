/-
  Texts of this proof, one behind the other; each begins with its own remark.
-/
import Derived.Test.YtjeomlickkpebaaGreatDoorBe9
set_option maxHeartbeats 8000000
namespace Go.Proofs.YtjeomlickkpebaaGreatDoor
open Go.RowKit
section
variable {RB RU X n cap:Nat} {ru:Nat→Int}
structure SkF (r:Int→Int) (f:Nat→Int) (a b i j:Nat):Prop where
 l1:a+1≤i
 l2:i≤j
 l3:j≤b
 lo:∀y,a+1≤y→y<i→r (f y)<r (f a)
 hi:∀y,j≤y→y<b→r (f a)≤r (f y)
theorem J2 (f:Nat→Int) {a b:Nat}:∀d,a+d<b→PermB a b f (Ys f a (a+d))
 | 0,_=>by rw[Nat.add_zero,Qw];exact PermB.refl _ _ _
 | d+1,h=>by
  rw[←Nat.add_assoc,←Qx f (show a≤a+d by omega)];exact (J2 f d (by omega)).trans (PermB.swap _ (by omega) (by omega) (by omega) (by omega))
theorem J3 (f:Nat→Int) {a m b:Nat} (hm:m<b):∀d,a+d≤m→PermB a b f (Yt f m (m-d))
 | 0,_=>by rw[Nat.sub_zero,Qy];exact PermB.refl _ _ _
 | d+1,h=>by
  rw[←Nat.sub_sub,←Qz f (show m-d≤m by omega) (by omega)];exact (J3 f hm d (by omega)).trans (PermB.swap _ (by omega) (by omega) (by omega) (by omega))
structure SkB (r:Int→Int) (f:Nat→Int) (a m i j:Nat):Prop where
 l1:a≤i
 l2:i≤j
 l3:j≤m
 lo:∀y,a≤y→y<i→r (f y)≤r (f m)
 hi:∀y,j≤y→y<m→r (f m)<r (f y)
set_option maxRecDepth 4000 in
theorem zH4 {w:World} {f:Nat→Int} {a b:Nat} (h:ArrF w X n f) (hc:KY w RB RU n ru) (hin:InF n f) (hab:a+1<b) (hb:b≤n) (hn:n≤100000) (hs:zZ (xC ru) (a+1) b f):
  Calls Tryz.prog 94 #[.slice (some ⟨X,0,none⟩) n cap,.int .i64 a,.int .i64 ((a:Int)+1),.int .i64 b,YM RB] w fun e w'=>vj w w' X n a b ru f e:=by
 have HA:=qh h;have HC:=qh hc;have HIN:=qh hin;have HS:=qh hs;have H0:Hid (SkF (xC ru) f a b (a+1) b):=qh ⟨Nat.le_refl _,by omega,Nat.le_refl _,fun y h1 h2=>by omega,fun y h1 h2=>by omega⟩;have e0:(a:Int)+1-(a:Int)=1:=by omega
 have a0:(0:Int)≤(a:Int):=by omega
 have a1:(a:Int)≤100000:=by omega
 clear h hc hin hs;unfold YM;go_enter Tryz.func94,Tryz.ntmps94;go_wp2_with fail
 go_loopw [10,11] (fun s10 s11 wr=>∃i j:Nat,s10= .int .i64 (i:Int)∧s11= .int .i64 (j:Int)∧Hid (∃q,wr=w.drewN q)∧a+1≤i∧i≤j∧j≤b∧Hid (SkF (xC ru) f a b i j)) (fun s10 s11 _=>(intOf s11).toNat-(intOf s10).toNat)
 case atStart=>exact⟨a+1,b,by go_num,rfl,qh ⟨0,rfl⟩,Nat.le_refl _,by omega,Nat.le_refl _,H0⟩
 case round=>
  clear H0;obtain⟨i,j,rfl,rfl,HW,hai,hij,hjb,HX⟩:=hrel;have i0:(0:Int)≤(i:Int):=by omega
  have i1:(i:Int)≤100001:=by omega
  have j0:(0:Int)≤(j:Int):=by omega
  have j1:(j:Int)≤100001:=by omega
  by_cases hlt:i<j
  ·have hlti:(i:Int)<(j:Int):=(by omega);obtain⟨c,hc⟩:∃c,(i+j)/2=c:=⟨_,rfl⟩;have he:((i:Int)+(j:Int))/2=(c:Int):=(by omega);have hc1:i≤c:=(by omega);have hc2:c<j:=(by omega);clear hc;go_wp2
   (try rw[he]);have HKW:Hid (KeepW (fun _=>True) w wr):=qh (by
    obtain⟨q,hq⟩:=HW.out;rw[hq];exact zN _ _ _)
   have k1:=(HA.out.keep HKW.out trivial).cell (i:=c) (by omega);have k2:=(HA.out.keep HKW.out trivial).cell (i:=a) (by omega);have HQ:=qh (fun m:Nat=>ZW ((HC.out.keep HKW.out trivial trivial).keep (zN (fun _=>True) wr m) trivial trivial) (HIN.out c (by omega)) (HIN.out a (by omega)));have hcn:c<n:=(by omega);have han:a<n:=(by omega);have c0:(0:Int)≤(c:Int):=(by omega);have c1:(c:Int)≤100000:=(by omega);clear he;go_quiet (first | (go_at_call 74;refine Calls.quiet_of (HQ.out _)))
   all_goals go_wp2
   ·have hl:xC ru (f c)-xC ru (f a)<0:=(by assumption);go_roundw
    case rel=>exact⟨c+1,j,by go_num,rfl,qh (by
     obtain⟨q,hq⟩:=HW.out;exact⟨q+nq,by rw[hq,World.drewN_drewN]⟩),by omega,by omega,hjb,qh ⟨by omega,by omega,hjb,fun y h1 h2=>by
     have:=HS.out.le (i:=y) (j:=c) h1 (by omega) (by omega);omega,HX.out.hi⟩⟩
    case measure=>simp[intOf]<;>omega
   ·have hl:¬xC ru (f c)-xC ru (f a)<0:=by first | assumption | omega
    go_roundw
    case rel=>exact⟨i,c,rfl,rfl,qh (by
     obtain⟨q,hq⟩:=HW.out;exact⟨q+nq,by rw[hq,World.drewN_drewN]⟩),hai,hc1,by omega,qh ⟨hai,hc1,by omega,HX.out.lo,fun y h1 h2=>by
     have:=HS.out.le (i:=c) (j:=y) (by omega) h1 h2;omega⟩⟩
    case measure=>simp[intOf]<;>omega
  ·have hlti:¬(i:Int)<(j:Int):=(by omega);have hije:i=j:=(by omega);obtain⟨k0,hk0⟩:∃k0,i-1=k0:=⟨_,rfl⟩;have hk1:a≤k0:=(by omega);have hk2:k0<b:=(by omega);have he:(i:Int)-1=(k0:Int):=(by omega);have HE:Hid (zZ (xC ru) a b (Ys f a k0)∧PermB a b f (Ys f a k0)):=qh ⟨by
    rw[←hk0];exact YA HS.out hai (by omega) HX.out.lo (fun y h1 h2=>HX.out.hi y (by omega) h2),by
    have:=J2 f (a:=a) (b:=b) (k0-a) (by omega)
    rwa [show a+(k0-a)=k0 by omega] at this⟩
   have H1:Hid (ArrF wr X n (Ys f a a)∧KeepW (fun k=>k≠X) w wr):=qh (by
    obtain⟨q,hq⟩:=HW.out;rw[hq,Qw];exact⟨HA.out.keep (zN (fun _=>True) w q) trivial,zN _ _ _⟩)
   clear HX hije hk0;go_wp2_with fail
   go_loopw [13] (fun s13 wr=>∃k:Nat,s13= .int .i64 (k:Int)∧a≤k∧k≤k0∧Hid (ArrF wr X n (Ys f a k)∧KeepW (fun k=>k≠X) w wr)) (fun s13 _=>k0-(intOf s13).toNat)
   case atStart=>exact⟨a,rfl,Nat.le_refl _,hk1,H1⟩
   case round=>
    clear H1;obtain⟨k,rfl,hak,hkk,HX⟩:=hrel;have q0:(0:Int)≤(k:Int):=(by omega);have q1:(k:Int)≤100001:=(by omega);by_cases hlk:k<k0
    ·have hlk2:(k:Int)<(i:Int)-1:=(by omega);obtain⟨g1,g2⟩:=HX.out;have c1:=g1.cell (i:=k) (by omega);have c2:=g1.cell (i:=k+1) (by omega);have f1:=g1.frozen k;have f2:=g1.frozen (k+1);have hX:=g1.lt;have hkn:k+1<n:=(by omega);have hkn2:k<n:=(by omega);obtain⟨x,hx⟩:∃x,Ys f a k k=x:=⟨_,rfl⟩;obtain⟨y,hy⟩:∃y,Ys f a k (k+1)=y:=⟨_,rfl⟩;have hsw:=g1.swap (p:=k) (q:=k+1);rw[Qx f hak,hx,hy] at hsw;rw[hx] at c1;rw[hy] at c2;have HSW:=qh (And.intro hsw g2);clear g1 g2 HX hx hy hsw;go_wp2
     go_region
     all_goals go_wp2
     go_roundw
     case rel=>
      refine⟨k+1,by go_num,by omega,hlk,qh ⟨HSW.out.1.keep (qb (fun _=>True) _) trivial,?_⟩⟩;exact HSW.out.2.trans ((vE wr X _ _ _ _).trans (qb _ _))
     case measure=>simp[intOf]<;>omega
    ·have hlk2:¬(k:Int)<(i:Int)-1:=(by omega);have hke:k=k0:=(by omega);rw[hke] at HX;go_wp2_with fail
     (try simp only[Exit.inBlock,Exit.then]);refine bodyPost_ret (results_none rfl _ _ _) rfl ?_;exact⟨rfl,_,HX.out.1,HE.out.2,HE.out.1,HX.out.2⟩
set_option maxRecDepth 4000 in
theorem zEO {w:World} {f:Nat→Int} {a m:Nat} (h:ArrF w X n f) (hc:KY w RB RU n ru) (hin:InF n f) (ham:a+1<m) (hb:m+1≤n) (hn:n≤100000) (hs:zZ (xC ru) a m f):
  Calls Tryz.prog 94 #[.slice (some ⟨X,0,none⟩) n cap,.int .i64 a,.int .i64 m,.int .i64 ((m:Int)+1),YM RB] w fun e w'=>vj w w' X n a (m+1) ru f e:=by
 have HA:=qh h;have HC:=qh hc;have HIN:=qh hin;have HS:=qh hs;have H0:Hid (SkB (xC ru) f a m a m):=qh ⟨Nat.le_refl _,by omega,Nat.le_refl _,fun y h1 h2=>by omega,fun y h1 h2=>by omega⟩;have e0:¬(m:Int)-(a:Int)=1:=by omega
 have e1:(m:Int)+1-(m:Int)=1:=by omega
 have a0:(0:Int)≤(a:Int):=by omega
 have a1:(a:Int)≤100000:=by omega
 have m0:(0:Int)≤(m:Int):=by omega
 have m1:(m:Int)≤100000:=by omega
 clear h hc hin hs;unfold YM;go_enter Tryz.func94,Tryz.ntmps94;go_wp2_with fail
 go_loopw [14,15] (fun s10 s11 wr=>∃i j:Nat,s10= .int .i64 (i:Int)∧s11= .int .i64 (j:Int)∧Hid (∃q,wr=w.drewN q)∧a≤i∧i≤j∧j≤m∧Hid (SkB (xC ru) f a m i j)) (fun s10 s11 _=>(intOf s11).toNat-(intOf s10).toNat)
 case atStart=>exact⟨a,m,rfl,rfl,qh ⟨0,rfl⟩,Nat.le_refl _,by omega,Nat.le_refl _,H0⟩
 case round=>
  clear H0;obtain⟨i,j,rfl,rfl,HW,hai,hij,hjb,HX⟩:=hrel;have i0:(0:Int)≤(i:Int):=by omega
  have i1:(i:Int)≤100001:=by omega
  have j0:(0:Int)≤(j:Int):=by omega
  have j1:(j:Int)≤100001:=by omega
  by_cases hlt:i<j
  ·have hlti:(i:Int)<(j:Int):=(by omega);obtain⟨c,hc⟩:∃c,(i+j)/2=c:=⟨_,rfl⟩;have he:((i:Int)+(j:Int))/2=(c:Int):=(by omega);have hc1:i≤c:=(by omega);have hc2:c<j:=(by omega);clear hc;go_wp2
   (try rw[he]);have HKW:Hid (KeepW (fun _=>True) w wr):=qh (by
    obtain⟨q,hq⟩:=HW.out;rw[hq];exact zN _ _ _)
   have k1:=(HA.out.keep HKW.out trivial).cell (i:=c) (by omega);have k2:=(HA.out.keep HKW.out trivial).cell (i:=m) (by omega);have HQ:=qh (fun d:Nat=>ZW ((HC.out.keep HKW.out trivial trivial).keep (zN (fun _=>True) wr d) trivial trivial) (HIN.out m (by omega)) (HIN.out c (by omega)));have hcn:c<n:=(by omega);have han:m<n:=(by omega);have c0:(0:Int)≤(c:Int):=(by omega);have c1:(c:Int)≤100000:=(by omega);clear he;go_quiet (first | (go_at_call 74;refine Calls.quiet_of (HQ.out _)))
   all_goals go_wp2
   ·have hl:¬xC ru (f m)-xC ru (f c)<0:=by
     have hq:(!decide (xC ru (f m)-xC ru (f c)<0))=true:=by assumption
     simpa using hq
    go_roundw
    case rel=>exact⟨c+1,j,by go_num,rfl,qh (by
     obtain⟨q,hq⟩:=HW.out;exact⟨q+nq,by rw[hq,World.drewN_drewN]⟩),by omega,by omega,hjb,qh ⟨by omega,by omega,hjb,fun y h1 h2=>by
     have:=HS.out.le (i:=y) (j:=c) h1 (by omega) (by omega);omega,HX.out.hi⟩⟩
    case measure=>simp[intOf]<;>omega
   ·have hl:xC ru (f m)-xC ru (f c)<0:=by
     have hq:(!decide (xC ru (f m)-xC ru (f c)<0))=false:=by assumption
     simpa using hq
    go_roundw
    case rel=>exact⟨i,c,rfl,rfl,qh (by
     obtain⟨q,hq⟩:=HW.out;exact⟨q+nq,by rw[hq,World.drewN_drewN]⟩),hai,hc1,by omega,qh ⟨hai,hc1,by omega,HX.out.lo,fun y h1 h2=>by
     have:=HS.out.le (i:=c) (j:=y) (by omega) h1 h2;omega⟩⟩
    case measure=>simp[intOf]<;>omega
  ·have hlti:¬(i:Int)<(j:Int):=(by omega);have hije:i=j:=(by omega);have HE:Hid (zZ (xC ru) a (m+1) (Yt f m i)∧PermB a (m+1) f (Yt f m i)):=qh ⟨YB HS.out hai (by omega) HX.out.lo (fun y h1 h2=>HX.out.hi y (by omega) h2),by
    have:=J3 f (a:=a) (m:=m) (b:=m+1) (by omega) (m-i) (by omega)
    rwa [show m-(m-i)=i by omega] at this⟩
   have him:i≤m:=(by omega);have H1:Hid (ArrF wr X n (Yt f m m)∧KeepW (fun k=>k≠X) w wr):=qh (by
    obtain⟨q,hq⟩:=HW.out;rw[hq,Qy];exact⟨HA.out.keep (zN (fun _=>True) w q) trivial,zN _ _ _⟩)
   clear HX hije;go_wp2_with fail
   go_loopw [17] (fun s13 wr=>∃k:Nat,s13= .int .i64 (k:Int)∧i≤k∧k≤m∧Hid (ArrF wr X n (Yt f m k)∧KeepW (fun k=>k≠X) w wr)) (fun s13 _=>(intOf s13).toNat)
   case atStart=>exact⟨m,rfl,him,Nat.le_refl _,H1⟩
   case round=>
    clear H1;obtain⟨k,rfl,hak,hkk,HX⟩:=hrel;have q0:(0:Int)≤(k:Int):=(by omega);have q1:(k:Int)≤100001:=(by omega);by_cases hlk:i<k
    ·have hlk2:(i:Int)<(k:Int):=(by omega);obtain⟨g1,g2⟩:=HX.out;have c1:=g1.cell (i:=k) (by omega);have c2:=g1.cell (i:=k-1) (by omega);have f1:=g1.frozen k;have f2:=g1.frozen (k-1);have hX:=g1.lt;have hkn2:k<n:=(by omega);have hk1:(1:Int)≤(k:Int):=(by omega);obtain⟨x,hx⟩:∃x,Yt f m k k=x:=⟨_,rfl⟩;obtain⟨y,hy⟩:∃y,Yt f m k (k-1)=y:=⟨_,rfl⟩;have hsw:=g1.swap (p:=k) (q:=k-1);rw[Qz f hkk (by omega),hx,hy] at hsw;rw[hx] at c1;rw[hy] at c2;have HSW:=qh (And.intro hsw g2);clear g1 g2 HX hx hy hsw;go_wp2
     go_region
     all_goals go_wp2
     go_roundw
     case rel=>
      refine⟨k-1,by go_num,by omega,by omega,qh ⟨HSW.out.1.keep (qb (fun _=>True) _) trivial,?_⟩⟩;exact HSW.out.2.trans ((vE wr X _ _ _ _).trans (qb _ _))
     case measure=>simp[intOf]<;>omega
    ·have hlk2:¬(i:Int)<(k:Int):=(by omega);have hke:k=i:=(by omega);rw[hke] at HX;go_wp2_with fail
     (try simp only[Exit.inBlock,Exit.then]);refine bodyPost_ret (results_none rfl _ _ _) rfl ?_;exact⟨rfl,_,HX.out.1,HE.out.2,HE.out.1,HX.out.2⟩
def zFO (w w':World) (X n:Nat) (g:Nat→Int):Prop:=ArrF w' X n g∧KeepW (fun k=>k≠X) w w'
def zFP (w w':World) (X n a d:Nat) (r:Int→Int) (g:Nat→Int):Prop:=∃g2,ArrF w' X n g2∧PermB a d g g2∧zZ r a d g2∧KeepW (fun k=>k≠X) w w'
theorem QH {f g g2 g3:Nat→Int} {r:Int→Int} {a d b:Nat} (had:a<d) (hdb:d<b) (hf:PermB a b f g) (hp:PermB a d g g2) (s2:zZ r a d g2) (hq:PermB d b g2 g3) (s3:zZ r d b g3)
  (hle:∀x y,a≤x→x<d→d≤y→y<b→r (g x)≤r (g y)):PermB a b f g3∧zZ r a b g3:=
 ⟨(hf.trans (hp.mono (Nat.le_refl _) (Nat.le_of_lt hdb))).trans (hq.mono (Nat.le_of_lt had) (Nat.le_refl _)),zAG (s2.congr fun _ _ h2=>hq.out (.inl h2)) s3 (zGB hle hp hq)⟩
set_option maxRecDepth 4000 in
theorem zH5 {w:World} {f:Nat→Int} {a m b:Nat} (h:ArrF w X n f) (hc:KY w RB RU n ru) (h1:RB≠X) (h2:RU≠X) (hin:InF n f) (ham:a+1<m) (hmb:m+1<b) (hb:b≤n) (hn:n≤100000) (hs1:zZ (xC ru) a m f) (hs2:zZ (xC ru) m b f)
  (ih:∀(W:World) (g:Nat→Int) (p q r:Nat),r-p<b-a→ArrF W X n g→KY W RB RU n ru→InF n g→p<q→q<r→r≤n→zZ (xC ru) p q g→zZ (xC ru) q r g →
   Calls Tryz.prog 94 #[.slice (some ⟨X,0,none⟩) n cap,.int .i64 p,.int .i64 q,.int .i64 r,YM RB] W fun e w'=>vj W w' X n p r ru g e):
  Calls Tryz.prog 94 #[.slice (some ⟨X,0,none⟩) n cap,.int .i64 a,.int .i64 m,.int .i64 b,YM RB] w fun e w'=>vj w w' X n a b ru f e:=by
 have HA:=qh h;have HC:=qh (fun (W:World) (hk:KeepW (fun k=>k≠X) w W)=>hc.keep hk h1 h2);have HIN:=qh hin;have HS:=qh (And.intro hs1 hs2);have IH:=qh ih;have e0:¬(m:Int)-(a:Int)=1:=by omega
 have e1:¬(b:Int)-(m:Int)=1:=by omega
 have a0:(0:Int)≤(a:Int):=by omega
 have a1:(a:Int)≤100000:=by omega
 have m0:(0:Int)≤(m:Int):=by omega
 have m1:(m:Int)≤100000:=by omega
 have b0:(0:Int)≤(b:Int):=by omega
 have b1:(b:Int)≤100000:=by omega
 obtain⟨d,hd⟩:∃d,(a+b)/2=d:=⟨_,rfl⟩;have hed:((a:Int)+(b:Int))/2=(d:Int):=by omega
 have hd1:a<d:=by omega
 have hd2:d<b:=by omega
 have hd3:d+m-b≤d:=by omega
 obtain⟨lo,hlo⟩:∃lo,(if d<m then d+m-b else a)=lo:=⟨_,rfl⟩;obtain⟨hi,hhi⟩:∃hi,(if d<m then d else m)=hi:=⟨_,rfl⟩;have hlh:lo<hi∧a≤lo∧hi≤m∧hi≤d∧d+m≤b+lo:=by
  rw[←hlo,←hhi];split<;>omega
 have HLH:Hid (if (a+b)/2<m then lo=(a+b)/2+m-b∧hi=(a+b)/2 else lo=a∧hi=m):=qh (by
  rw[hd,←hlo,←hhi];split<;>exact⟨rfl,rfl⟩)
 have HM:Hid (∀x y,lo≤x→x≤y→y<hi→xC ru (f x)≤xC ru (f y)∧xC ru (f (d+m-1-y))≤xC ru (f (d+m-1-x))):=qh (fun x y p1 p2 p3=>by
  obtain⟨q1,q2,q3,q4,q5⟩:=hlh;exact⟨hs1.le (by omega) p2 (by omega),hs2.le (by omega) (by omega) (by omega)⟩)
 have H0:Hid (va (xC ru) f (d+m-1) lo hi lo hi):=qh (va.start (by omega));obtain⟨l1,l2,l3,l4,l5⟩:=hlh;have HD:=qh hd;clear h hc hin hs1 hs2 ih hd;unfold YM;go_enter Tryz.func94,Tryz.ntmps94;by_cases hdm:d<m
 ·rw[if_pos hdm] at hlo hhi;have hdmi:(d:Int)<(m:Int):=by omega
  have hloi:(d:Int)+(m:Int)-(b:Int)=(lo:Int):=by omega
  clear hlo;subst hhi;go_wp2_with fail
  go_loopw [20,21] (fun s10 s11 wr=>∃i j:Nat,s10= .int .i64 (i:Int)∧s11= .int .i64 (j:Int)∧Hid (∃q,wr=w.drewN q)∧lo≤i∧i≤j∧j≤d∧Hid (va (xC ru) f (d+m-1) lo d i j)) (fun s10 s11 _=>(intOf s11).toNat-(intOf s10).toNat)
  case atStart=>exact⟨lo,d,rfl,rfl,qh ⟨0,rfl⟩,Nat.le_refl _,Nat.le_of_lt l1,Nat.le_refl _,H0⟩
  case round=>
   clear H0;obtain⟨i,j,rfl,rfl,HW,hai,hij,hjb,HX⟩:=hrel;have i0:(0:Int)≤(i:Int):=(by omega);have i1:(i:Int)≤100001:=(by omega);have j0:(0:Int)≤(j:Int):=(by omega);have j1:(j:Int)≤100001:=(by omega);have HKW:Hid (KeepW (fun _=>True) w wr):=qh (by
    obtain⟨q,hq⟩:=HW.out;rw[hq];exact zN _ _ _)
   by_cases hlt:i<j
   ·have hlti:(i:Int)<(j:Int):=(by omega);obtain⟨c,hc⟩:∃c,(i+j)/2=c:=⟨_,rfl⟩;have he:((i:Int)+(j:Int))/2=(c:Int):=(by omega);have hc1:i≤c:=(by omega);have hc2:c<j:=(by omega);obtain⟨e,hpe⟩:∃e,d+m-1-c=e:=⟨_,rfl⟩;have hei:(d:Int)+(m:Int)-1-(c:Int)=(e:Int):=(by omega);have hen:e<n:=(by omega);clear hc;go_wp2
    (try rw[he]);have k1:=(HA.out.keep HKW.out trivial).cell (i:=c) (by omega);have k2:=(HA.out.keep HKW.out trivial).cell (i:=e) (by omega);have HQ:=qh (fun x:Nat=>ZW ((HC.out wr (HKW.out.mono fun _ _ _=>trivial)).keep (zN (fun _=>True) wr x) trivial trivial) (HIN.out e (by omega)) (HIN.out c (by omega)));have hcn:c<n:=(by omega);have c0:(0:Int)≤(c:Int):=(by omega);have c1:(c:Int)≤100000:=(by omega);have HPE:=qh hpe;clear he hpe;go_quiet (first | (go_at_call 74;refine Calls.quiet_of (HQ.out _)))
    all_goals go_wp2
    ·have hl:¬xC ru (f e)-xC ru (f c)<0:=by
      have hq:(!decide (xC ru (f e)-xC ru (f c)<0))=true:=by assumption
      simpa using hq
     go_roundw
     case rel=>exact⟨c+1,j,by go_num,rfl,qh (by
      obtain⟨q,hq⟩:=HW.out;exact⟨q+nq,by rw[hq,World.drewN_drewN]⟩),by omega,by omega,hjb,qh (HX.out.up hc1 hc2 HM.out (by rw[HPE.out];omega))⟩
     case measure=>simp[intOf]<;>omega
    ·have hl:xC ru (f e)-xC ru (f c)<0:=by
      have hq:(!decide (xC ru (f e)-xC ru (f c)<0))=false:=by assumption
      simpa using hq
     go_roundw
     case rel=>exact⟨i,c,rfl,rfl,qh (by
      obtain⟨q,hq⟩:=HW.out;exact⟨q+nq,by rw[hq,World.drewN_drewN]⟩),hai,hc1,by omega,qh (HX.out.down hc1 hc2 HM.out (by rw[HPE.out];omega))⟩
     case measure=>simp[intOf]<;>omega
   ·have hlti:¬(i:Int)<(j:Int):=(by omega);have hije:j=i:=(by omega);have HT:Hid (zDS (xC ru) f a m b i):=qh (by
     refine zAF (lo:=lo) (hi:=d) (by omega) (by omega) HS.out.1 HS.out.2 ?_ HLH.out;rw[HD.out];have:=HX.out
     rwa [hije] at this)
    obtain⟨e,hpe⟩:∃e,d+m-i=e:=⟨_,rfl⟩;have hei:(d:Int)+(m:Int)-(i:Int)=(e:Int):=(by omega);have hid:i≤d:=(by omega);have him:i≤m:=(by omega);have hia:a≤i:=(by omega);have hme:m≤e:=(by omega);have hde:d≤e:=(by omega);have heb:e≤b:=(by omega);obtain⟨g,hg⟩:∃g,j7 f i m e=g:=⟨_,rfl⟩;have HP:=qh (Zw (by omega) (by omega) HS.out.1 HS.out.2 HD.out.symm hpe.symm HT.out hg.symm);have HPF:Hid (PermB a b f g):=qh (by rw[←hg];exact Yv f him hme hia heb);have HR:Hid (i<m→m<e→∀W,KeepW (fun _=>True) w W→Calls Tryz.prog 99 #[.slice (some ⟨X,0,none⟩) n cap,.int .i64 i,.int .i64 m,.int .i64 e,.func (.func 74) #[] #[.pointer (some ⟨RB,0,none⟩)]] W fun x w'=>x= .returned (.tuple #[])∧zFO w w' X n g):=qh (fun q1 q2 W hW=>by
     refine (zBB (HA.out.keep hW trivial) q1 q2 (by omega) hn _).mono ?_;rintro x w' ⟨y1,y2,y3⟩;rw[hg] at y2;exact⟨y1,y2,(hW.mono fun _ _ _=>trivial).trans y3⟩)
    have HN:Hid (¬(i<m∧m<e)→∀W,KeepW (fun _=>True) w W→zFO w W X n g):=qh (fun q1 W hW=>by
     refine⟨?_,hW.mono fun _ _ _=>trivial⟩;rw[←hg,Yw f him hme (by omega)];exact HA.out.keep hW trivial)
    have H2:Hid (a<i→i<d→∀W,zFO w W X n g→Calls Tryz.prog 94 #[.slice (some ⟨X,0,none⟩) n cap,.int .i64 a,.int .i64 i,.int .i64 d,.func (.func 74) #[] #[.pointer (some ⟨RB,0,none⟩)]] W fun x w'=>x= .returned (.tuple #[])∧zFP w w' X n a d (xC ru) g):=qh (fun q1 q2 W hW=>by
     obtain⟨p1,p2,p3,p4,p5⟩:=HP.out;refine (IH.out W g a i d (by omega) hW.1 (HC.out W hW.2) (HIN.out.perm HPF.out hb) q1 q2 (by omega) p1 p2).mono ?_;rintro x w' ⟨y1,g2,y2,y3,y4,y5⟩;exact⟨y1,g2,y2,y3,y4,hW.2.trans y5⟩)
    have HN2:Hid (¬(a<i∧i<d)→∀W,zFO w W X n g→zFP w W X n a d (xC ru) g):=qh (fun q1 W hW=>by
     obtain⟨p1,p2,p3,p4,p5⟩:=HP.out;refine⟨g,hW.1,PermB.refl _ _ _,?_,hW.2⟩;by_cases c:i=a
     ·rw[c] at p2;exact p2
     ·have:i=d:=(by omega);rw[this] at p1;exact p1)
    have H3:Hid (d<e→e<b→∀W,zFP w W X n a d (xC ru) g→Calls Tryz.prog 94 #[.slice (some ⟨X,0,none⟩) n cap,.int .i64 d,.int .i64 e,.int .i64 b,.func (.func 74) #[] #[.pointer (some ⟨RB,0,none⟩)]] W fun x w'=>vj w w' X n a b ru f x):=qh (fun q1 q2 W hW=>by
     obtain⟨p1,p2,p3,p4,p5⟩:=HP.out;obtain⟨g2,y2,y3,y4,y5⟩:=hW;refine (IH.out W g2 d e b (by omega) y2 (HC.out W y5) ((HIN.out.perm HPF.out hb).perm y3 (by omega)) q1 q2 hb (p3.congr fun x z1 z2=>y3.out (.inr (by omega))) (p4.congr fun x z1 z2=>y3.out (.inr (by omega)))).mono ?_;rintro x w' ⟨z1,g3,z2,z3,z4,z5⟩;obtain⟨u1,u2⟩:=QH hd1 hd2 HPF.out y3 y4 z3 z4 p5;exact⟨z1,g3,z2,u1,u2,y5.trans z5⟩)
    have HN3:Hid (¬(d<e∧e<b)→∀W,zFP w W X n a d (xC ru) g→vj w W X n a b ru f (.returned (.tuple #[]))):=qh (fun q1 W hW=>by
     obtain⟨p1,p2,p3,p4,p5⟩:=HP.out;obtain⟨g2,y2,y3,y4,y5⟩:=hW;have hsd:zZ (xC ru) d b g2:=by
      refine zZ.congr (f:=g) ?_ fun x z1 z2=>y3.out (.inr (by omega));by_cases c:e=d
      ·rw[c] at p4;exact p4
      ·have:e=b:=(by omega);rw[this] at p3;exact p3
     obtain⟨u1,u2⟩:=QH hd1 hd2 HPF.out y3 y4 (PermB.refl _ _ _) hsd p5;exact⟨rfl,g2,y2,u1,u2,y5⟩)
    clear HX HT HP HPF hg hije hpe HA HC HIN HS IH HLH HM HD HW;by_cases c1:i<m∧m<e
    ·have x1:(i:Int)<(m:Int):=(by omega);have y1:(m:Int)<(e:Int):=(by omega);have HF:=qh (HR.out c1.1 c1.2 _ HKW.out);go_wp2_with fail
     go_fit HF.out;rintro x w1 q;obtain⟨rfl,q⟩:=q;have HA1:=qh q;clear q HF;by_cases c2:a<i∧i<d
     ·have x2:(a:Int)<(i:Int):=(by omega);have y2:(i:Int)<(d:Int):=(by omega);have HF:=qh (H2.out c2.1 c2.2 _ HA1.out);go_wp2_with fail
      go_fit HF.out;rintro x w2 q;obtain⟨rfl,q⟩:=q;have HB:=qh q;clear q HF;by_cases c3:d<e∧e<b
      ·have x3:(d:Int)<(e:Int):=(by omega);have y3:(e:Int)<(b:Int):=(by omega);have HF:=qh (H3.out c3.1 c3.2 _ HB.out);go_wp2_with fail
       all_goals
        go_fit HF.out;rintro x w3 q;obtain⟨rfl,q⟩:=q;have HZ:=qh q;clear q;go_wp2_with fail
        go_end0
        exact⟨rfl,HZ.out⟩
      ·have HF:=qh (HN3.out c3 _ HB.out);by_cases x3:d<e
       ·have x3i:(d:Int)<(e:Int):=(by omega);have y3:¬(e:Int)<(b:Int):=(by omega);go_wp2_with fail
        all_goals
         go_end0
         exact HF.out
       ·have x3i:¬(d:Int)<(e:Int):=(by omega);go_wp2_with fail
        all_goals
         go_end0
         exact HF.out
     ·have HB:=qh (HN2.out c2 _ HA1.out);by_cases x2:a<i
      ·have x2i:(a:Int)<(i:Int):=(by omega);have y2:¬(i:Int)<(d:Int):=(by omega);by_cases c3:d<e∧e<b
       ·have x3:(d:Int)<(e:Int):=(by omega);have y3:(e:Int)<(b:Int):=(by omega);have HF:=qh (H3.out c3.1 c3.2 _ HB.out);go_wp2_with fail
        all_goals
         go_fit HF.out;rintro x w3 q;obtain⟨rfl,q⟩:=q;have HZ:=qh q;clear q;go_wp2_with fail
         go_end0
         exact⟨rfl,HZ.out⟩
       ·have HF:=qh (HN3.out c3 _ HB.out);by_cases x3:d<e
        ·have x3i:(d:Int)<(e:Int):=(by omega);have y3:¬(e:Int)<(b:Int):=(by omega);go_wp2_with fail
         all_goals
          go_end0
          exact HF.out
        ·have x3i:¬(d:Int)<(e:Int):=(by omega);go_wp2_with fail
         all_goals
          go_end0
          exact HF.out
      ·have x2i:¬(a:Int)<(i:Int):=(by omega);by_cases c3:d<e∧e<b
       ·have x3:(d:Int)<(e:Int):=(by omega);have y3:(e:Int)<(b:Int):=(by omega);have HF:=qh (H3.out c3.1 c3.2 _ HB.out);go_wp2_with fail
        all_goals
         go_fit HF.out;rintro x w3 q;obtain⟨rfl,q⟩:=q;have HZ:=qh q;clear q;go_wp2_with fail
         go_end0
         exact⟨rfl,HZ.out⟩
       ·have HF:=qh (HN3.out c3 _ HB.out);by_cases x3:d<e
        ·have x3i:(d:Int)<(e:Int):=(by omega);have y3:¬(e:Int)<(b:Int):=(by omega);go_wp2_with fail
         all_goals
          go_end0
          exact HF.out
        ·have x3i:¬(d:Int)<(e:Int):=(by omega);go_wp2_with fail
         all_goals
          go_end0
          exact HF.out
    ·have HA1:=qh (HN.out c1 _ HKW.out);by_cases x1:i<m
     ·have x1i:(i:Int)<(m:Int):=(by omega);have y1:¬(m:Int)<(e:Int):=(by omega);by_cases c2:a<i∧i<d
      ·have x2:(a:Int)<(i:Int):=(by omega);have y2:(i:Int)<(d:Int):=(by omega);have HF:=qh (H2.out c2.1 c2.2 _ HA1.out);go_wp2_with fail
       go_fit HF.out;rintro x w2 q;obtain⟨rfl,q⟩:=q;have HB:=qh q;clear q HF;by_cases c3:d<e∧e<b
       ·have x3:(d:Int)<(e:Int):=(by omega);have y3:(e:Int)<(b:Int):=(by omega);have HF:=qh (H3.out c3.1 c3.2 _ HB.out);go_wp2_with fail
        all_goals
         go_fit HF.out;rintro x w3 q;obtain⟨rfl,q⟩:=q;have HZ:=qh q;clear q;go_wp2_with fail
         go_end0
         exact⟨rfl,HZ.out⟩
       ·have HF:=qh (HN3.out c3 _ HB.out);by_cases x3:d<e
        ·have x3i:(d:Int)<(e:Int):=(by omega);have y3:¬(e:Int)<(b:Int):=(by omega);go_wp2_with fail
         all_goals
          go_end0
          exact HF.out
        ·have x3i:¬(d:Int)<(e:Int):=(by omega);go_wp2_with fail
         all_goals
          go_end0
          exact HF.out
      ·have HB:=qh (HN2.out c2 _ HA1.out);by_cases x2:a<i
       ·have x2i:(a:Int)<(i:Int):=(by omega);have y2:¬(i:Int)<(d:Int):=(by omega);by_cases c3:d<e∧e<b
        ·have x3:(d:Int)<(e:Int):=(by omega);have y3:(e:Int)<(b:Int):=(by omega);have HF:=qh (H3.out c3.1 c3.2 _ HB.out);go_wp2_with fail
         all_goals
          go_fit HF.out;rintro x w3 q;obtain⟨rfl,q⟩:=q;have HZ:=qh q;clear q;go_wp2_with fail
          go_end0
          exact⟨rfl,HZ.out⟩
        ·have HF:=qh (HN3.out c3 _ HB.out);by_cases x3:d<e
         ·have x3i:(d:Int)<(e:Int):=(by omega);have y3:¬(e:Int)<(b:Int):=(by omega);go_wp2_with fail
          all_goals
           go_end0
           exact HF.out
         ·have x3i:¬(d:Int)<(e:Int):=(by omega);go_wp2_with fail
          all_goals
           go_end0
           exact HF.out
       ·have x2i:¬(a:Int)<(i:Int):=(by omega);by_cases c3:d<e∧e<b
        ·have x3:(d:Int)<(e:Int):=(by omega);have y3:(e:Int)<(b:Int):=(by omega);have HF:=qh (H3.out c3.1 c3.2 _ HB.out);go_wp2_with fail
         all_goals
          go_fit HF.out;rintro x w3 q;obtain⟨rfl,q⟩:=q;have HZ:=qh q;clear q;go_wp2_with fail
          go_end0
          exact⟨rfl,HZ.out⟩
        ·have HF:=qh (HN3.out c3 _ HB.out);by_cases x3:d<e
         ·have x3i:(d:Int)<(e:Int):=(by omega);have y3:¬(e:Int)<(b:Int):=(by omega);go_wp2_with fail
          all_goals
           go_end0
           exact HF.out
         ·have x3i:¬(d:Int)<(e:Int):=(by omega);go_wp2_with fail
          all_goals
           go_end0
           exact HF.out
     ·have x1i:¬(i:Int)<(m:Int):=(by omega);by_cases c2:a<i∧i<d
      ·have x2:(a:Int)<(i:Int):=(by omega);have y2:(i:Int)<(d:Int):=(by omega);have HF:=qh (H2.out c2.1 c2.2 _ HA1.out);go_wp2_with fail
       go_fit HF.out;rintro x w2 q;obtain⟨rfl,q⟩:=q;have HB:=qh q;clear q HF;by_cases c3:d<e∧e<b
       ·have x3:(d:Int)<(e:Int):=(by omega);have y3:(e:Int)<(b:Int):=(by omega);have HF:=qh (H3.out c3.1 c3.2 _ HB.out);go_wp2_with fail
        all_goals
         go_fit HF.out;rintro x w3 q;obtain⟨rfl,q⟩:=q;have HZ:=qh q;clear q;go_wp2_with fail
         go_end0
         exact⟨rfl,HZ.out⟩
       ·have HF:=qh (HN3.out c3 _ HB.out);by_cases x3:d<e
        ·have x3i:(d:Int)<(e:Int):=(by omega);have y3:¬(e:Int)<(b:Int):=(by omega);go_wp2_with fail
         all_goals
          go_end0
          exact HF.out
        ·have x3i:¬(d:Int)<(e:Int):=(by omega);go_wp2_with fail
         all_goals
          go_end0
          exact HF.out
      ·have HB:=qh (HN2.out c2 _ HA1.out);by_cases x2:a<i
       ·have x2i:(a:Int)<(i:Int):=(by omega);have y2:¬(i:Int)<(d:Int):=(by omega);by_cases c3:d<e∧e<b
        ·have x3:(d:Int)<(e:Int):=(by omega);have y3:(e:Int)<(b:Int):=(by omega);have HF:=qh (H3.out c3.1 c3.2 _ HB.out);go_wp2_with fail
         all_goals
          go_fit HF.out;rintro x w3 q;obtain⟨rfl,q⟩:=q;have HZ:=qh q;clear q;go_wp2_with fail
          go_end0
          exact⟨rfl,HZ.out⟩
        ·have HF:=qh (HN3.out c3 _ HB.out);by_cases x3:d<e
         ·have x3i:(d:Int)<(e:Int):=(by omega);have y3:¬(e:Int)<(b:Int):=(by omega);go_wp2_with fail
          all_goals
           go_end0
           exact HF.out
         ·have x3i:¬(d:Int)<(e:Int):=(by omega);go_wp2_with fail
          all_goals
           go_end0
           exact HF.out
       ·have x2i:¬(a:Int)<(i:Int):=(by omega);by_cases c3:d<e∧e<b
        ·have x3:(d:Int)<(e:Int):=(by omega);have y3:(e:Int)<(b:Int):=(by omega);have HF:=qh (H3.out c3.1 c3.2 _ HB.out);go_wp2_with fail
         all_goals
          go_fit HF.out;rintro x w3 q;obtain⟨rfl,q⟩:=q;have HZ:=qh q;clear q;go_wp2_with fail
          go_end0
          exact⟨rfl,HZ.out⟩
        ·have HF:=qh (HN3.out c3 _ HB.out);by_cases x3:d<e
         ·have x3i:(d:Int)<(e:Int):=(by omega);have y3:¬(e:Int)<(b:Int):=(by omega);go_wp2_with fail
          all_goals
           go_end0
           exact HF.out
         ·have x3i:¬(d:Int)<(e:Int):=(by omega);go_wp2_with fail
          all_goals
           go_end0
           exact HF.out
 ·rw[if_neg hdm] at hlo hhi;have hdmi:¬(d:Int)<(m:Int):=by omega
  subst hlo;subst hhi;go_wp2_with fail
  go_loopw [20,21] (fun s10 s11 wr=>∃i j:Nat,s10= .int .i64 (i:Int)∧s11= .int .i64 (j:Int)∧Hid (∃q,wr=w.drewN q)∧a≤i∧i≤j∧j≤m∧Hid (va (xC ru) f (d+m-1) a m i j)) (fun s10 s11 _=>(intOf s11).toNat-(intOf s10).toNat)
  case atStart=>exact⟨a,m,rfl,rfl,qh ⟨0,rfl⟩,Nat.le_refl _,Nat.le_of_lt l1,Nat.le_refl _,H0⟩
  case round=>
   clear H0;obtain⟨i,j,rfl,rfl,HW,hai,hij,hjb,HX⟩:=hrel;have i0:(0:Int)≤(i:Int):=(by omega);have i1:(i:Int)≤100001:=(by omega);have j0:(0:Int)≤(j:Int):=(by omega);have j1:(j:Int)≤100001:=(by omega);have HKW:Hid (KeepW (fun _=>True) w wr):=qh (by
    obtain⟨q,hq⟩:=HW.out;rw[hq];exact zN _ _ _)
   by_cases hlt:i<j
   ·have hlti:(i:Int)<(j:Int):=(by omega);obtain⟨c,hc⟩:∃c,(i+j)/2=c:=⟨_,rfl⟩;have he:((i:Int)+(j:Int))/2=(c:Int):=(by omega);have hc1:i≤c:=(by omega);have hc2:c<j:=(by omega);obtain⟨e,hpe⟩:∃e,d+m-1-c=e:=⟨_,rfl⟩;have hei:(d:Int)+(m:Int)-1-(c:Int)=(e:Int):=(by omega);have hen:e<n:=(by omega);clear hc;go_wp2
    (try rw[he]);have k1:=(HA.out.keep HKW.out trivial).cell (i:=c) (by omega);have k2:=(HA.out.keep HKW.out trivial).cell (i:=e) (by omega);have HQ:=qh (fun x:Nat=>ZW ((HC.out wr (HKW.out.mono fun _ _ _=>trivial)).keep (zN (fun _=>True) wr x) trivial trivial) (HIN.out e (by omega)) (HIN.out c (by omega)));have hcn:c<n:=(by omega);have c0:(0:Int)≤(c:Int):=(by omega);have c1:(c:Int)≤100000:=(by omega);have HPE:=qh hpe;clear he hpe;go_quiet (first | (go_at_call 74;refine Calls.quiet_of (HQ.out _)))
    all_goals go_wp2
    ·have hl:¬xC ru (f e)-xC ru (f c)<0:=by
      have hq:(!decide (xC ru (f e)-xC ru (f c)<0))=true:=by assumption
      simpa using hq
     go_roundw
     case rel=>exact⟨c+1,j,by go_num,rfl,qh (by
      obtain⟨q,hq⟩:=HW.out;exact⟨q+nq,by rw[hq,World.drewN_drewN]⟩),by omega,by omega,hjb,qh (HX.out.up hc1 hc2 HM.out (by rw[HPE.out];omega))⟩
     case measure=>simp[intOf]<;>omega
    ·have hl:xC ru (f e)-xC ru (f c)<0:=by
      have hq:(!decide (xC ru (f e)-xC ru (f c)<0))=false:=by assumption
      simpa using hq
     go_roundw
     case rel=>exact⟨i,c,rfl,rfl,qh (by
      obtain⟨q,hq⟩:=HW.out;exact⟨q+nq,by rw[hq,World.drewN_drewN]⟩),hai,hc1,by omega,qh (HX.out.down hc1 hc2 HM.out (by rw[HPE.out];omega))⟩
     case measure=>simp[intOf]<;>omega
   ·have hlti:¬(i:Int)<(j:Int):=(by omega);have hije:j=i:=(by omega);have HT:Hid (zDS (xC ru) f a m b i):=qh (by
     refine zAF (lo:=a) (hi:=m) (by omega) (by omega) HS.out.1 HS.out.2 ?_ (by
     by_cases hz:(a+b)/2<m
     ·have q:=HLH.out;rw[if_pos hz] at q ⊢;exact q
     ·rw[if_neg hz];exact⟨rfl,rfl⟩)
     rw[HD.out];have:=HX.out
     rwa [hije] at this)
    obtain⟨e,hpe⟩:∃e,d+m-i=e:=⟨_,rfl⟩;have hei:(d:Int)+(m:Int)-(i:Int)=(e:Int):=(by omega);have hid:i≤d:=(by omega);have him:i≤m:=(by omega);have hia:a≤i:=(by omega);have hme:m≤e:=(by omega);have hde:d≤e:=(by omega);have heb:e≤b:=(by omega);obtain⟨g,hg⟩:∃g,j7 f i m e=g:=⟨_,rfl⟩;have HP:=qh (Zw (by omega) (by omega) HS.out.1 HS.out.2 HD.out.symm hpe.symm HT.out hg.symm);have HPF:Hid (PermB a b f g):=qh (by rw[←hg];exact Yv f him hme hia heb);have HR:Hid (i<m→m<e→∀W,KeepW (fun _=>True) w W→Calls Tryz.prog 99 #[.slice (some ⟨X,0,none⟩) n cap,.int .i64 i,.int .i64 m,.int .i64 e,.func (.func 74) #[] #[.pointer (some ⟨RB,0,none⟩)]] W fun x w'=>x= .returned (.tuple #[])∧zFO w w' X n g):=qh (fun q1 q2 W hW=>by
     refine (zBB (HA.out.keep hW trivial) q1 q2 (by omega) hn _).mono ?_;rintro x w' ⟨y1,y2,y3⟩;rw[hg] at y2;exact⟨y1,y2,(hW.mono fun _ _ _=>trivial).trans y3⟩)
    have HN:Hid (¬(i<m∧m<e)→∀W,KeepW (fun _=>True) w W→zFO w W X n g):=qh (fun q1 W hW=>by
     refine⟨?_,hW.mono fun _ _ _=>trivial⟩;rw[←hg,Yw f him hme (by omega)];exact HA.out.keep hW trivial)
    have H2:Hid (a<i→i<d→∀W,zFO w W X n g→Calls Tryz.prog 94 #[.slice (some ⟨X,0,none⟩) n cap,.int .i64 a,.int .i64 i,.int .i64 d,.func (.func 74) #[] #[.pointer (some ⟨RB,0,none⟩)]] W fun x w'=>x= .returned (.tuple #[])∧zFP w w' X n a d (xC ru) g):=qh (fun q1 q2 W hW=>by
     obtain⟨p1,p2,p3,p4,p5⟩:=HP.out;refine (IH.out W g a i d (by omega) hW.1 (HC.out W hW.2) (HIN.out.perm HPF.out hb) q1 q2 (by omega) p1 p2).mono ?_;rintro x w' ⟨y1,g2,y2,y3,y4,y5⟩;exact⟨y1,g2,y2,y3,y4,hW.2.trans y5⟩)
    have HN2:Hid (¬(a<i∧i<d)→∀W,zFO w W X n g→zFP w W X n a d (xC ru) g):=qh (fun q1 W hW=>by
     obtain⟨p1,p2,p3,p4,p5⟩:=HP.out;refine⟨g,hW.1,PermB.refl _ _ _,?_,hW.2⟩;by_cases c:i=a
     ·rw[c] at p2;exact p2
     ·have:i=d:=(by omega);rw[this] at p1;exact p1)
    have H3:Hid (d<e→e<b→∀W,zFP w W X n a d (xC ru) g→Calls Tryz.prog 94 #[.slice (some ⟨X,0,none⟩) n cap,.int .i64 d,.int .i64 e,.int .i64 b,.func (.func 74) #[] #[.pointer (some ⟨RB,0,none⟩)]] W fun x w'=>vj w w' X n a b ru f x):=qh (fun q1 q2 W hW=>by
     obtain⟨p1,p2,p3,p4,p5⟩:=HP.out;obtain⟨g2,y2,y3,y4,y5⟩:=hW;refine (IH.out W g2 d e b (by omega) y2 (HC.out W y5) ((HIN.out.perm HPF.out hb).perm y3 (by omega)) q1 q2 hb (p3.congr fun x z1 z2=>y3.out (.inr (by omega))) (p4.congr fun x z1 z2=>y3.out (.inr (by omega)))).mono ?_;rintro x w' ⟨z1,g3,z2,z3,z4,z5⟩;obtain⟨u1,u2⟩:=QH hd1 hd2 HPF.out y3 y4 z3 z4 p5;exact⟨z1,g3,z2,u1,u2,y5.trans z5⟩)
    have HN3:Hid (¬(d<e∧e<b)→∀W,zFP w W X n a d (xC ru) g→vj w W X n a b ru f (.returned (.tuple #[]))):=qh (fun q1 W hW=>by
     obtain⟨p1,p2,p3,p4,p5⟩:=HP.out;obtain⟨g2,y2,y3,y4,y5⟩:=hW;have hsd:zZ (xC ru) d b g2:=by
      refine zZ.congr (f:=g) ?_ fun x z1 z2=>y3.out (.inr (by omega));by_cases c:e=d
      ·rw[c] at p4;exact p4
      ·have:e=b:=(by omega);rw[this] at p3;exact p3
     obtain⟨u1,u2⟩:=QH hd1 hd2 HPF.out y3 y4 (PermB.refl _ _ _) hsd p5;exact⟨rfl,g2,y2,u1,u2,y5⟩)
    clear HX HT HP HPF hg hije hpe HA HC HIN HS IH HLH HM HD HW;by_cases c1:i<m∧m<e
    ·have x1:(i:Int)<(m:Int):=(by omega);have y1:(m:Int)<(e:Int):=(by omega);have HF:=qh (HR.out c1.1 c1.2 _ HKW.out);go_wp2_with fail
     go_fit HF.out;rintro x w1 q;obtain⟨rfl,q⟩:=q;have HA1:=qh q;clear q HF;by_cases c2:a<i∧i<d
     ·have x2:(a:Int)<(i:Int):=(by omega);have y2:(i:Int)<(d:Int):=(by omega);have HF:=qh (H2.out c2.1 c2.2 _ HA1.out);go_wp2_with fail
      go_fit HF.out;rintro x w2 q;obtain⟨rfl,q⟩:=q;have HB:=qh q;clear q HF;by_cases c3:d<e∧e<b
      ·have x3:(d:Int)<(e:Int):=(by omega);have y3:(e:Int)<(b:Int):=(by omega);have HF:=qh (H3.out c3.1 c3.2 _ HB.out);go_wp2_with fail
       all_goals
        go_fit HF.out;rintro x w3 q;obtain⟨rfl,q⟩:=q;have HZ:=qh q;clear q;go_wp2_with fail
        go_end0
        exact⟨rfl,HZ.out⟩
      ·have HF:=qh (HN3.out c3 _ HB.out);by_cases x3:d<e
       ·have x3i:(d:Int)<(e:Int):=(by omega);have y3:¬(e:Int)<(b:Int):=(by omega);go_wp2_with fail
        all_goals
         go_end0
         exact HF.out
       ·have x3i:¬(d:Int)<(e:Int):=(by omega);go_wp2_with fail
        all_goals
         go_end0
         exact HF.out
     ·have HB:=qh (HN2.out c2 _ HA1.out);by_cases x2:a<i
      ·have x2i:(a:Int)<(i:Int):=(by omega);have y2:¬(i:Int)<(d:Int):=(by omega);by_cases c3:d<e∧e<b
       ·have x3:(d:Int)<(e:Int):=(by omega);have y3:(e:Int)<(b:Int):=(by omega);have HF:=qh (H3.out c3.1 c3.2 _ HB.out);go_wp2_with fail
        all_goals
         go_fit HF.out;rintro x w3 q;obtain⟨rfl,q⟩:=q;have HZ:=qh q;clear q;go_wp2_with fail
         go_end0
         exact⟨rfl,HZ.out⟩
       ·have HF:=qh (HN3.out c3 _ HB.out);by_cases x3:d<e
        ·have x3i:(d:Int)<(e:Int):=(by omega);have y3:¬(e:Int)<(b:Int):=(by omega);go_wp2_with fail
         all_goals
          go_end0
          exact HF.out
        ·have x3i:¬(d:Int)<(e:Int):=(by omega);go_wp2_with fail
         all_goals
          go_end0
          exact HF.out
      ·have x2i:¬(a:Int)<(i:Int):=(by omega);by_cases c3:d<e∧e<b
       ·have x3:(d:Int)<(e:Int):=(by omega);have y3:(e:Int)<(b:Int):=(by omega);have HF:=qh (H3.out c3.1 c3.2 _ HB.out);go_wp2_with fail
        all_goals
         go_fit HF.out;rintro x w3 q;obtain⟨rfl,q⟩:=q;have HZ:=qh q;clear q;go_wp2_with fail
         go_end0
         exact⟨rfl,HZ.out⟩
       ·have HF:=qh (HN3.out c3 _ HB.out);by_cases x3:d<e
        ·have x3i:(d:Int)<(e:Int):=(by omega);have y3:¬(e:Int)<(b:Int):=(by omega);go_wp2_with fail
         all_goals
          go_end0
          exact HF.out
        ·have x3i:¬(d:Int)<(e:Int):=(by omega);go_wp2_with fail
         all_goals
          go_end0
          exact HF.out
    ·have HA1:=qh (HN.out c1 _ HKW.out);by_cases x1:i<m
     ·have x1i:(i:Int)<(m:Int):=(by omega);have y1:¬(m:Int)<(e:Int):=(by omega);by_cases c2:a<i∧i<d
      ·have x2:(a:Int)<(i:Int):=(by omega);have y2:(i:Int)<(d:Int):=(by omega);have HF:=qh (H2.out c2.1 c2.2 _ HA1.out);go_wp2_with fail
       go_fit HF.out;rintro x w2 q;obtain⟨rfl,q⟩:=q;have HB:=qh q;clear q HF;by_cases c3:d<e∧e<b
       ·have x3:(d:Int)<(e:Int):=(by omega);have y3:(e:Int)<(b:Int):=(by omega);have HF:=qh (H3.out c3.1 c3.2 _ HB.out);go_wp2_with fail
        all_goals
         go_fit HF.out;rintro x w3 q;obtain⟨rfl,q⟩:=q;have HZ:=qh q;clear q;go_wp2_with fail
         go_end0
         exact⟨rfl,HZ.out⟩
       ·have HF:=qh (HN3.out c3 _ HB.out);by_cases x3:d<e
        ·have x3i:(d:Int)<(e:Int):=(by omega);have y3:¬(e:Int)<(b:Int):=(by omega);go_wp2_with fail
         all_goals
          go_end0
          exact HF.out
        ·have x3i:¬(d:Int)<(e:Int):=(by omega);go_wp2_with fail
         all_goals
          go_end0
          exact HF.out
      ·have HB:=qh (HN2.out c2 _ HA1.out);by_cases x2:a<i
       ·have x2i:(a:Int)<(i:Int):=(by omega);have y2:¬(i:Int)<(d:Int):=(by omega);by_cases c3:d<e∧e<b
        ·have x3:(d:Int)<(e:Int):=(by omega);have y3:(e:Int)<(b:Int):=(by omega);have HF:=qh (H3.out c3.1 c3.2 _ HB.out);go_wp2_with fail
         all_goals
          go_fit HF.out;rintro x w3 q;obtain⟨rfl,q⟩:=q;have HZ:=qh q;clear q;go_wp2_with fail
          go_end0
          exact⟨rfl,HZ.out⟩
        ·have HF:=qh (HN3.out c3 _ HB.out);by_cases x3:d<e
         ·have x3i:(d:Int)<(e:Int):=(by omega);have y3:¬(e:Int)<(b:Int):=(by omega);go_wp2_with fail
          all_goals
           go_end0
           exact HF.out
         ·have x3i:¬(d:Int)<(e:Int):=(by omega);go_wp2_with fail
          all_goals
           go_end0
           exact HF.out
       ·have x2i:¬(a:Int)<(i:Int):=(by omega);by_cases c3:d<e∧e<b
        ·have x3:(d:Int)<(e:Int):=(by omega);have y3:(e:Int)<(b:Int):=(by omega);have HF:=qh (H3.out c3.1 c3.2 _ HB.out);go_wp2_with fail
         all_goals
          go_fit HF.out;rintro x w3 q;obtain⟨rfl,q⟩:=q;have HZ:=qh q;clear q;go_wp2_with fail
          go_end0
          exact⟨rfl,HZ.out⟩
        ·have HF:=qh (HN3.out c3 _ HB.out);by_cases x3:d<e
         ·have x3i:(d:Int)<(e:Int):=(by omega);have y3:¬(e:Int)<(b:Int):=(by omega);go_wp2_with fail
          all_goals
           go_end0
           exact HF.out
         ·have x3i:¬(d:Int)<(e:Int):=(by omega);go_wp2_with fail
          all_goals
           go_end0
           exact HF.out
     ·have x1i:¬(i:Int)<(m:Int):=(by omega);by_cases c2:a<i∧i<d
      ·have x2:(a:Int)<(i:Int):=(by omega);have y2:(i:Int)<(d:Int):=(by omega);have HF:=qh (H2.out c2.1 c2.2 _ HA1.out);go_wp2_with fail
       go_fit HF.out;rintro x w2 q;obtain⟨rfl,q⟩:=q;have HB:=qh q;clear q HF;by_cases c3:d<e∧e<b
       ·have x3:(d:Int)<(e:Int):=(by omega);have y3:(e:Int)<(b:Int):=(by omega);have HF:=qh (H3.out c3.1 c3.2 _ HB.out);go_wp2_with fail
        all_goals
         go_fit HF.out;rintro x w3 q;obtain⟨rfl,q⟩:=q;have HZ:=qh q;clear q;go_wp2_with fail
         go_end0
         exact⟨rfl,HZ.out⟩
       ·have HF:=qh (HN3.out c3 _ HB.out);by_cases x3:d<e
        ·have x3i:(d:Int)<(e:Int):=(by omega);have y3:¬(e:Int)<(b:Int):=(by omega);go_wp2_with fail
         all_goals
          go_end0
          exact HF.out
        ·have x3i:¬(d:Int)<(e:Int):=(by omega);go_wp2_with fail
         all_goals
          go_end0
          exact HF.out
      ·have HB:=qh (HN2.out c2 _ HA1.out);by_cases x2:a<i
       ·have x2i:(a:Int)<(i:Int):=(by omega);have y2:¬(i:Int)<(d:Int):=(by omega);by_cases c3:d<e∧e<b
        ·have x3:(d:Int)<(e:Int):=(by omega);have y3:(e:Int)<(b:Int):=(by omega);have HF:=qh (H3.out c3.1 c3.2 _ HB.out);go_wp2_with fail
         all_goals
          go_fit HF.out;rintro x w3 q;obtain⟨rfl,q⟩:=q;have HZ:=qh q;clear q;go_wp2_with fail
          go_end0
          exact⟨rfl,HZ.out⟩
        ·have HF:=qh (HN3.out c3 _ HB.out);by_cases x3:d<e
         ·have x3i:(d:Int)<(e:Int):=(by omega);have y3:¬(e:Int)<(b:Int):=(by omega);go_wp2_with fail
          all_goals
           go_end0
           exact HF.out
         ·have x3i:¬(d:Int)<(e:Int):=(by omega);go_wp2_with fail
          all_goals
           go_end0
           exact HF.out
       ·have x2i:¬(a:Int)<(i:Int):=(by omega);by_cases c3:d<e∧e<b
        ·have x3:(d:Int)<(e:Int):=(by omega);have y3:(e:Int)<(b:Int):=(by omega);have HF:=qh (H3.out c3.1 c3.2 _ HB.out);go_wp2_with fail
         all_goals
          go_fit HF.out;rintro x w3 q;obtain⟨rfl,q⟩:=q;have HZ:=qh q;clear q;go_wp2_with fail
          go_end0
          exact⟨rfl,HZ.out⟩
        ·have HF:=qh (HN3.out c3 _ HB.out);by_cases x3:d<e
         ·have x3i:(d:Int)<(e:Int):=(by omega);have y3:¬(e:Int)<(b:Int):=(by omega);go_wp2_with fail
          all_goals
           go_end0
           exact HF.out
         ·have x3i:¬(d:Int)<(e:Int):=(by omega);go_wp2_with fail
          all_goals
           go_end0
           exact HF.out
end
section
variable {RB RU X n cap:Nat} {ru:Nat→Int}
theorem zBT (h1:RB≠X) (h2:RU≠X) (hn:n≤100000):∀(N:Nat) (w:World) (f:Nat→Int) (a m b:Nat),b-a≤N→ArrF w X n f→KY w RB RU n ru→InF n f→a<m→m<b→b≤n→zZ (xC ru) a m f→zZ (xC ru) m b f →
  Calls Tryz.prog 94 #[.slice (some ⟨X,0,none⟩) n cap,.int .i64 a,.int .i64 m,.int .i64 b,YM RB] w fun e w'=>vj w w' X n a b ru f e
 | 0,_,_,a,m,b,hN,_,_,_,ham,hmb,_,_,_=>by omega
 | N+1,w,f,a,m,b,hN,h,hc,hin,ham,hmb,hb,hs1,hs2=>by
  by_cases c1:m=a+1
  ·subst c1;have:=zH4 (cap:=cap) h hc hin (by omega) hb hn hs2
   rwa [show ((a+1:Nat):Int)=(a:Int)+1 by omega]
  ·by_cases c2:b=m+1
   ·subst c2;have:=zEO (cap:=cap) h hc hin (by omega) hb hn hs1
    rwa [show ((m+1:Nat):Int)=(m:Int)+1 by omega]
   ·exact zH5 h hc h1 h2 hin (by omega) (by omega) hb hn hs1 hs2 fun W g p q r hl g1 g2 g3 g4 g5 g6 g7 g8=>zBT h1 h2 hn N W g p q r (by omega) g1 g2 g3 g4 g5 g6 g7 g8
def Z1 (r:Int→Int) (s e:Nat) (f:Nat→Int):Prop:=∀k,k*s<e→zZ r (k*s) (min ((k+1)*s) e) f
theorem KK {r:Int→Int} {s e:Nat} {f:Nat→Int} (h:Z1 r s e f) (he:e≤s):zZ r 0 e f:=by
 by_cases c:0<e
 ·have:=h 0 (by omega);rw[Nat.zero_mul,Nat.zero_add,Nat.one_mul,Nat.min_eq_right he] at this;exact this
 ·exact zZ.small (by omega)
structure J4 (r:Int→Int) (s n a:Nat) (f:Nat→Int):Prop where
 done:Z1 r (2*s) a f
 left:∀k,a≤k*s→k*s<n→zZ r (k*s) (min ((k+1)*s) n) f
theorem vL {r:Int→Int} {s a:Nat} {f g:Nat→Int} {q:Nat} (h:Z1 r s a f) (ha:a=q*s) (e:Nat) (hae:a≤e) (hes:e≤a+s) (hp:PermB a e f g) (hs:zZ r a e g):Z1 r s e g:=fun k hk=>by
 by_cases c:k<q
 ·have h1:(k+1)*s≤q*s:=Nat.mul_le_mul_right s c;have h2:=h k (by rw[Nat.add_mul] at h1;omega);rw[Nat.min_eq_left (by omega)] at h2 ⊢;exact h2.congr fun i _ hi=>hp.out (.inl (by omega))
 ·by_cases c2:k=q
  ·subst c2;rw[←ha,Nat.min_eq_right (by rw[Nat.add_mul];omega)];exact hs
  ·have h1:(q+1)*s≤k*s:=Nat.mul_le_mul_right s (by omega);rw[Nat.add_mul] at h1;omega
theorem KL {r:Int→Int} {s n:Nat} {f:Nat→Int} (h:Z1 r s n f):J4 r s n 0 f:=⟨fun k hk=>by omega,fun k _ hk=>h k hk⟩
theorem VR {r:Int→Int} {s n a q:Nat} {f:Nat→Int} (h:J4 r s n a f) (ha:a=q*(2*s)) (hs:0<s) (hb:a+s<n):zZ r a (a+s) f∧zZ r (a+s) (min (a+2*s) n) f:=by
 have e1:a=(2*q)*s:=by rw[ha,←Nat.mul_assoc,Nat.mul_comm q 2]
 have h1:=h.left (2*q) (by omega) (by omega);have h2:=h.left (2*q+1) (by rw[Nat.add_mul];omega) (by rw[Nat.add_mul];omega);rw[←e1,Nat.add_mul,←e1,Nat.one_mul,Nat.min_eq_left (by omega)] at h1;rw[Nat.add_mul,←e1,Nat.one_mul,Nat.add_mul,Nat.add_mul,←e1,Nat.one_mul] at h2;rw[show a+2*s=a+s+s by omega];exact⟨h1,h2⟩
theorem zBU {r:Int→Int} {s n a q:Nat} {f g:Nat→Int} (h:J4 r s n a f) (ha:a=q*(2*s)) (hp:PermB a (a+2*s) f g) (hs:zZ r a (a+2*s) g):J4 r s n (a+2*s) g:=
 ⟨vL h.done ha _ (by omega) (Nat.le_refl _) hp hs,fun k hk hkn=>(h.left k (by omega) hkn).congr fun i hi _=>hp.out (.inr (by omega))⟩
theorem VS {r:Int→Int} {s n a q:Nat} {f g:Nat→Int} (h:J4 r s n a f) (ha:a=q*(2*s)) (han:a≤n) (hn:n<a+2*s) (hp:PermB a n f g) (hs:zZ r a n g):Z1 r (2*s) n g:=
 vL h.done ha n han (by omega) hp hs
theorem zBV {r:Int→Int} {s n a q:Nat} {f:Nat→Int} (h:J4 r s n a f) (ha:a=q*(2*s)) (han:a≤n) (hn:n≤a+s) (hs:0<s):Z1 r (2*s) n f:=by
 refine VS h ha han (by omega) (PermB.refl _ _ _) ?_;by_cases c:a<n
 ·have e1:a=(2*q)*s:=by rw[ha,←Nat.mul_assoc,Nat.mul_comm q 2]
  have h1:=h.left (2*q) (by omega) (by omega);rw[←e1,Nat.add_mul,←e1,Nat.one_mul,Nat.min_eq_right (by omega)] at h1;exact h1
 ·exact zZ.small (by omega)
def zCP (w w':World) (X n:Nat) (f:Nat→Int) (Q:(Nat→Int)→Prop):Prop:=∃g,ArrF w' X n g∧PermB 0 n f g∧Q g∧KeepW (fun k=>k≠X) w w'
set_option maxRecDepth 4000 in
theorem KM {w:World} {f:Nat→Int} (h:ArrF w X n f) (hc:KY w RB RU n ru) (h1:RB≠X) (h2:RU≠X) (hin:InF n f) (hn:n≤100000):
  Calls Tryz.prog 86 #[.slice (some ⟨X,0,none⟩) n cap,.int .i64 n,YM RB] w fun e w'=>vj w w' X n 0 n ru f e:=by
 have HI:Hid (∀(W:World) (Q:(Nat→Int)→Prop),zCP w W X n f Q→∀a b,a≤b→b≤n→Calls Tryz.prog 93 #[.slice (some ⟨X,0,none⟩) n cap,.int .i64 a,.int .i64 b,.func (.func 74) #[] #[.pointer (some ⟨RB,0,none⟩)]] W fun e w'=>e= .returned (.tuple #[])∧zCP w w' X n f fun g'=>∃g,Q g∧PermB a b g g'∧zZ (xC ru) a b g'):=qh (by
  rintro W Q ⟨g,g1,g2,g3,g4⟩ a b hab hb;refine (zGX g1 (hc.keep g4 h1 h2) h1 h2 (hin.perm g2 (Nat.le_refl _)) hab hb hn).mono ?_;rintro e w' ⟨rfl,g',y1,y2,y3,y4⟩;exact⟨rfl,g',y1,g2.trans (y2.mono (Nat.zero_le _) hb),⟨g,g3,y2,y3⟩,g4.trans y4⟩)
 have HS:Hid (∀(W:World) (Q:(Nat→Int)→Prop) (a m b:Nat),(∀g,Q g→zZ (xC ru) a m g∧zZ (xC ru) m b g)→zCP w W X n f Q→a<m→m<b→b≤n→Calls Tryz.prog 94 #[.slice (some ⟨X,0,none⟩) n cap,.int .i64 a,.int .i64 m,.int .i64 b,.func (.func 74) #[] #[.pointer (some ⟨RB,0,none⟩)]] W fun e w'=>e= .returned (.tuple #[])∧zCP w w' X n f fun g'=>∃g,Q g∧PermB a b g g'∧zZ (xC ru) a b g'):=qh (by
  rintro W Q a m b hQ ⟨g,g1,g2,g3,g4⟩ ham hmb hb;refine (zBT h1 h2 hn _ W g a m b (Nat.le_refl _) g1 (hc.keep g4 h1 h2) (hin.perm g2 (Nat.le_refl _)) ham hmb hb (hQ g g3).1 (hQ g g3).2).mono ?_;rintro e w' ⟨rfl,g',y1,y2,y3,y4⟩;exact⟨rfl,g',y1,g2.trans (y2.mono (Nat.zero_le _) hb),⟨g,g3,y2,y3⟩,g4.trans y4⟩)
 have H0:Hid (zCP w w X n f (Z1 (xC ru) 20 0)):=qh ⟨f,h,PermB.refl _ _ _,fun k hk=>by omega,KeepW.refl _ _⟩;have n0:(0:Int)≤(n:Int):=by omega
 have n1:(n:Int)≤100000:=by omega
 clear h hc hin;unfold YM;go_enter Tryz.func86,Tryz.ntmps86;go_wp2_with fail
 go_loopw [7,8] (fun s7 s8 wr=>∃a q:Nat,s7= .int .i64 (a:Int)∧s8= .int .i64 ((a:Int)+20)∧a=q*20∧a≤n∧Hid (zCP w wr X n f (Z1 (xC ru) 20 a))) (fun s7 _ _=>n-(intOf s7).toNat)
 case atStart=>exact⟨0,0,rfl,rfl,rfl,Nat.zero_le _,H0⟩
 case round=>
  clear H0;obtain⟨a,q,rfl,rfl,haq,han,HX⟩:=hrel;have a0:(0:Int)≤(a:Int):=by omega
  have a1:(a:Int)≤100000:=by omega
  have HAQ:=qh haq;clear haq;by_cases hlt:a+20≤n
  ·have hlti:(a:Int)+20≤(n:Int):=(by omega);have HF:=HI.out wr _ HX.out a (a+20) (by omega) hlt;rw[show ((a+20:Nat):Int)=(a:Int)+20 by omega] at HF;have HG:=qh HF;clear HF HX;go_wp2_with fail
   go_fit HG.out;rintro e w2 ⟨rfl,q2⟩;have HQ:=qh q2;clear q2 HG;go_wp2_with fail
   go_roundw
   case rel=>
    refine⟨a+20,q+1,by go_num,by go_num,by have:=HAQ.out;omega,hlt,qh ?_⟩;obtain⟨g',y1,y2,⟨g,z1,z2,z3⟩,y4⟩:=HQ.out;exact⟨g',y1,y2,vL z1 HAQ.out _ (by omega) (Nat.le_refl _) z2 z3,y4⟩
   case measure=>simp[intOf]<;>omega
  ·have hlti:¬(a:Int)+20≤(n:Int):=(by omega);have HG:=qh (HI.out wr _ HX.out a n han (Nat.le_refl _));clear HX HI;go_wp2_with fail
   go_fit HG.out;rintro e w2 ⟨rfl,q2⟩;have HQ:Hid (zCP w w2 X n f (Z1 (xC ru) 20 n)):=qh (by
    obtain⟨g',y1,y2,⟨g,z1,z2,z3⟩,y4⟩:=q2;exact⟨g',y1,y2,vL z1 HAQ.out _ han (by omega) z2 z3,y4⟩)
   clear q2 HG;go_wp2_with fail
   go_loopw [6,7,8] (fun s6 _ _ wr=>∃s:Nat,s6= .int .i64 (s:Int)∧20≤s∧(s=20∨s≤2*n)∧Hid (zCP w wr X n f (Z1 (xC ru) s n))) (fun s6 _ _ _=>n-(intOf s6).toNat)
   case atStart=>exact⟨20,rfl,Nat.le_refl _,.inl rfl,HQ⟩
   case round=>
    clear HQ;obtain⟨s,rfl,hs20,hsn,HX⟩:=hrel;have s0:(0:Int)≤(s:Int):=(by omega);have s1:(s:Int)≤200020:=(by omega);by_cases hsl:s<n
    ·have hsli:(s:Int)<(n:Int):=(by omega);have HP:Hid (zCP w wr X n f (J4 (xC ru) s n 0)):=qh (by
      obtain⟨g,y1,y2,y3,y4⟩:=HX.out;exact⟨g,y1,y2,KL y3,y4⟩)
     clear HX;go_wp2_with fail
     go_loopw [7,8] (fun s7 s8 wr=>∃a q:Nat,s7= .int .i64 (a:Int)∧s8= .int .i64 ((a:Int)+2*(s:Int))∧a=q*(2*s)∧a≤n∧Hid (zCP w wr X n f (J4 (xC ru) s n a))) (fun s7 _ _=>n-(intOf s7).toNat)
     case atStart=>exact⟨0,0,rfl,by go_num,by omega,Nat.zero_le _,HP⟩
     case round=>
      clear HP;obtain⟨a,q,rfl,rfl,haq,han,HX⟩:=hrel;have a0:(0:Int)≤(a:Int):=(by omega);have a1:(a:Int)≤100000:=(by omega);have HAQ:=qh haq;clear haq;by_cases hlt:a+2*s≤n
      ·have hlti:(a:Int)+2*(s:Int)≤(n:Int):=(by omega);have HF:=HS.out wr _ a (a+s) (a+2*s) (fun g hg=>by
        have:=VR hg HAQ.out (by omega) (by omega)
        rwa [Nat.min_eq_left hlt] at this) HX.out (by omega) (by omega) hlt
       rw[show ((a+2*s:Nat):Int)=(a:Int)+2*(s:Int) by omega,show ((a+s:Nat):Int)=(a:Int)+(s:Int) by omega] at HF;have HG:=qh HF;clear HF HX;go_wp2_with fail
       go_fit HG.out;rintro e w3 ⟨rfl,q2⟩;have HQ:=qh q2;clear q2 HG;go_wp2_with fail
       go_roundw
       case rel=>
        refine⟨a+2*s,q+1,by go_num,by go_num,by rw[Nat.add_mul,←HAQ.out,Nat.one_mul],hlt,qh ?_⟩;obtain⟨g',y1,y2,⟨g,z1,z2,z3⟩,y4⟩:=HQ.out;exact⟨g',y1,y2,zBU z1 HAQ.out z2 z3,y4⟩
       case measure=>simp[intOf]<;>omega
      ·have hlti:¬(a:Int)+2*(s:Int)≤(n:Int):=(by omega);by_cases hm:a+s<n
       ·have hmi:(a:Int)+(s:Int)<(n:Int):=(by omega);have HF:=HS.out wr _ a (a+s) n (fun g hg=>by
         have:=VR hg HAQ.out (by omega) hm
         rwa [Nat.min_eq_right (by omega)] at this) HX.out (by omega) hm (Nat.le_refl _)
        rw[show ((a+s:Nat):Int)=(a:Int)+(s:Int) by omega] at HF;have HG:=qh HF;clear HF HX;go_wp2_with fail
        go_fit HG.out;rintro e w3 ⟨rfl,q2⟩;have HQ:=qh q2;clear q2 HG;go_wp2_with fail
        go_roundw
        case rel=>
         refine⟨2*s,by go_num,by omega,.inr (by omega),qh ?_⟩;obtain⟨g',y1,y2,⟨g,z1,z2,z3⟩,y4⟩:=HQ.out;exact⟨g',y1,y2,VS z1 HAQ.out han (by omega) z2 z3,y4⟩
        case measure=>simp[intOf]<;>omega
       ·have hmi:¬(a:Int)+(s:Int)<(n:Int):=(by omega);go_wp2_with fail
        go_roundw
        case rel=>
         refine⟨2*s,by go_num,by omega,.inr (by omega),qh ?_⟩;obtain⟨g,y1,y2,y3,y4⟩:=HX.out;exact⟨g,y1,y2,zBV y3 HAQ.out han (by omega) (by omega),y4⟩
        case measure=>simp[intOf]<;>omega
    ·have hsli:¬(s:Int)<(n:Int):=(by omega);have HF:Hid (vj w wr X n 0 n ru f (.returned (.tuple #[]))):=qh (by
      obtain⟨g,y1,y2,y3,y4⟩:=HX.out;exact⟨rfl,g,y1,y2,KK y3 (by omega),y4⟩)
     clear HX;go_wp2_with fail
     go_end0
     exact HF.out
theorem sort_any {w:World} {f:Nat→Int} (h:ArrF w X n f) (hc:KY w RB RU n ru) (h1:RB≠X) (h2:RU≠X) (hin:InF n f) (hn:n≤100000):
  Calls Tryz.prog 73 #[.slice (some ⟨X,0,none⟩) n cap,YM RB] w fun e w'=>vj w w' X n 0 n ru f e:=by
 have HS:=qh (KM (cap:=cap) h hc h1 h2 hin hn);clear h hc hin;unfold YM at HS ⊢;go_enter Tryz.func73,Tryz.ntmps73;go_wp2_with fail
 go_fit HS.out;rintro e w2 ⟨rfl,q⟩;have HQ:=qh q;clear q;go_wp2_with fail
 go_end0
 exact⟨rfl,HQ.out⟩
end
end Go.Proofs.YtjeomlickkpebaaGreatDoor
