/-
  Texts of this proof, one behind the other; each begins with its own remark.
-/
import Derived.Test.YtjeomlickkpebaaGreatDoorBe1
namespace Go.Proofs.YtjeomlickkpebaaGreatDoor
def lastF (s:St4):Nat→Nat→Nat
 | 0,b=>b
 | f+1,b=>if b<255∧xf s (b+1)=true then lastF s f (b+1) else b
def zHP (s:St4) (b:Nat):Nat:=lastF s 256 b
def zIL (s:St4) (b:Nat):List Nat:=zHW b++if b<zHP s b then 45::zHW (zHP s b) else []
def runT (s:St4) (b:Nat):List Nat:=if xf s b=true∧¬(0<b∧xf s (b-1)=true) then zIL s b else []
def zFS (s:St4):Nat→Nat→List Nat
 | 0,_=> []
 | n+1,b=>runT s b++zFS s n (b+1)
def zIM (s:St4):Nat→Nat
 | 0=>0
 | n+1=>zIM s n+if xf s n=true then 1 else 0
def setT (s:St4):List Nat:=if zIM s 256=0 then [91,94,92,120,48,48,45,92,120,102,102,93] else if zIM s 256=1 then zFS s 256 0 else 91::(zFS s 256 0++ [93])
def zIN (k kk:Int) (t:List Nat):List Nat:=if kk=3∨kk=2∧k≠3 then 40::(t++ [41]) else t
def zIO (k:Int):List Nat:=if k=4 then [42] else if k=5 then [43] else if k=6 then [63] else []
mutual
def zIP:Nd→List Nat
 | .mk k s l=>if k=0 then [40,41] else if k=1 then setT s else zHQ k true l++zIO k
def zHQ:Int→Bool→List Nd→List Nat
 | _,_,[]=> []
 | k,first,n::l=>((if k=3∧first=false then [124] else [])++zIN k n.kind (zIP n))++zHQ k false l
end
def Z7 (k:Int) (s:St4) (n:Nat):Bool:=
 decide (0≤k∧k≤6)&& !(decide (k<2)&&decide (0<n))&& !(decide (4≤k)&&decide (n≠1))&& !((decide (k=2)||decide (k=3))&&decide (n<2))&&(decide (k=1)||decide (s=noR))
mutual
def Z8:Nd→Bool
 | .mk k s l=>Z7 k s l.length&&qu l
def qu:List Nd→Bool
 | []=>true
 | n::l=>Z8 n&&qu l
end
mutual
def Jg:Nd→Nat
 | .mk _ _ l=>KZ l+1
def KZ:List Nd→Nat
 | []=>0
 | n::l=>max (Jg n) (KZ l)
end
mutual
def wfR:Nd→Prop
 | .mk _ s l=>OkR s∧wfL l
def wfL:List Nd→Prop
 | []=>True
 | n::l=>wfR n∧wfL l
end
theorem qw {k:Int} {s:St4} {l:List Nd} (h:Z8 (.mk k s l)=true):Z7 k s l.length=true∧qu l=true:=by
 rw[Z8,Bool.and_eq_true] at h;exact h
theorem qx {k:Int} {s:St4} {n:Nat} (h:Z7 k s n=true):0≤k∧k≤6∧(k<2→n=0)∧(4≤k→n=1)∧(k=2∨k=3→2≤n)∧(k≠1→s=noR):=by
 unfold Z7 at h;simp only[Bool.and_eq_true,Bool.not_eq_true',Bool.or_eq_true,decide_eq_true_eq,Bool.and_eq_false_iff,decide_eq_false_iff_not,Bool.or_eq_false_iff] at h;obtain⟨⟨⟨⟨h1,h2⟩,h3⟩,h4⟩,h5⟩:=h;refine⟨h1.1,h1.2,fun h=>by omega,fun h=>by omega,fun h=>by omega,fun h=> ?_⟩;rcases h5 with h5 | h5
 ·exact absurd h5 h
 ·exact h5
theorem form_of {k:Int} {s:St4} {n:Nat} (h0:0≤k) (h6:k≤6) (h1:k<2→n=0) (h2:4≤k→n=1) (h3:k=2∨k=3→2≤n) (h4:k≠1→s=noR):Z7 k s n=true:=by
 unfold Z7;simp only[Bool.and_eq_true,Bool.not_eq_true',Bool.or_eq_true,decide_eq_true_eq,Bool.and_eq_false_iff,decide_eq_false_iff_not,Bool.or_eq_false_iff];refine⟨⟨⟨⟨⟨h0,h6⟩,by omega⟩,by omega⟩,by omega⟩,?_⟩;by_cases e:k=1
 ·exact .inl e
 ·exact .inr (h4 e)
def vq (l:List Nat):Option (Nd×List Nat):=(atR l).map fun x=>zY x.1 x.2
end Go.Proofs.YtjeomlickkpebaaGreatDoor
namespace Go.Proofs.YtjeomlickkpebaaGreatDoor
theorem kR:∀(f:Nat) (first:Bool) (s:St4) (l:List Nat) (x:St4×List Nat),(∀y,y∈l→y<256)→OkR s→spansR f first s l=some x→OkR x.1∧∀y,y∈x.2→y∈l
 | 0,_,_,_,_,_,_,h=>by cases h
 | f+1,first,s,l,x,hl,hs,h=>by
  simp only[spansR] at h;split at h
  ·cases h;exact⟨hs,fun y hy=>List.mem_of_mem_tail hy⟩
  split at h
  ·cases h
  ·rename_i a r ha;have h1:=let_lt hl ha;have h2:=Js ha;split at h
   ·split at h
    ·cases h
    ·rename_i b u hb;have h3:=let_lt (fun y hy=>hl y (h2 y (List.mem_of_mem_tail hy))) hb;have h4:=Js hb;split at h
     ·cases h
     ·obtain⟨q1,q2⟩:=kR f _ _ u x (fun y hy=>hl y (h2 y (List.mem_of_mem_tail (h4 y hy)))) (ok_with _ _ _ (by omega) hs) h;exact⟨q1,fun y hy=>h2 y (List.mem_of_mem_tail (h4 y (q2 y hy)))⟩
   ·obtain⟨q1,q2⟩:=kR f _ _ r x (fun y hy=>hl y (h2 y hy)) (ok_with _ _ _ (by omega) hs) h;exact⟨q1,fun y hy=>h2 y (q2 y hy)⟩
structure Zf (n:Nd) (d:Nat):Prop where
 may:Z8 n=true
 wf:wfR n
 deep:Jg n≤d
theorem Zf.mono {n:Nd} {d e:Nat} (h:Zf n d) (hd:d≤e):Zf n e:=⟨h.may,h.wf,Nat.le_trans h.deep hd⟩
theorem Y8 (n:Nd):1≤Jg n:=by
 cases n with
 | mk k s l=>rw[Jg];omega
theorem js (s:St4) (hs:OkR s):Zf (.mk 1 s []) 1:=⟨by rw[Z8,qu];rfl,by rw[wfR,wfL];exact⟨hs,trivial⟩,by rw[Jg,KZ];exact Nat.le_refl _⟩
theorem QW:∀(l:List Nd) (d:Nat),(∀x,x∈l→Zf x d)→qu l=true∧wfL l∧KZ l≤d
 | [],d,_=>⟨rfl,trivial,Nat.zero_le _⟩
 | n::l,d,h=>by
  have h1:=h n (by simp);obtain⟨a,b,c⟩:=QW l d fun x hx=>h x (by simp[hx]);rw[qu,wfL,KZ,h1.may,a];exact⟨rfl,⟨h1.wf,b⟩,Nat.max_le.2 ⟨h1.deep,c⟩⟩
theorem QX (k:Int) (l:List Nd) (d:Nat) (hk:Z7 k noR l.length=true) (h:∀x,x∈l→Zf x d):Zf (.mk k noR l) (d+1):=by
 obtain⟨a,b,c⟩:=QW l d h;refine⟨by rw[Z8,hk,a];rfl,by rw[wfR];exact⟨ok_no,b⟩,by rw[Jg];omega⟩
theorem QY (k:Int) (hk:k=2∨k=3) (l:List Nd) (d:Nat) (h:∀x,x∈l→Zf x d) (h2:2≤l.length→∀x,x∈l→Zf x (d-1)) (hd:1≤d):Zf (zl k l) d:=by
 match l,h,h2 with
 | [],_,_=>exact⟨rfl,⟨ok_no,trivial⟩,hd⟩
 | [x],h,_=>exact h x (by simp)
 | x::y::l,_,h2=>
  have:=QX k (x::y::l) (d-1) (form_of (by omega) (by omega) (by omega) (by omega) (fun _=>by simp) (fun _=>rfl)) (h2 (by simp));rw[show d-1+1=d by omega] at this;exact this
theorem vr {l r:List Nat} {n:Nd} (hl:∀y,y∈l→y<256) (h:zh l=some (n,r)):Zf n 1∧∀y,y∈r→y∈l:=by
 unfold zh at h;split at h
 ·rcases hs:spansR (l.length+1) true noR l.tail with _ | x
  ·rw[hs] at h;cases h
  ·rw[hs] at h;cases h;obtain⟨a,b⟩:=kR _ _ _ _ _ (fun y hy=>hl y (List.mem_of_mem_tail hy)) ok_no hs;exact⟨js _ (vw _ 256 (Nat.le_refl _)),fun y hy=>List.mem_of_mem_tail (b y hy)⟩
 ·rcases hs:spansR (l.length+1) true noR l with _ | x
  ·rw[hs] at h;cases h
  ·rw[hs] at h;cases h;obtain⟨a,b⟩:=kR _ _ _ _ _ hl ok_no hs;exact⟨js _ a,b⟩
theorem Zg:∀(l:List Nat) (n:Nd) (d:Nat),Zf n d→∃e,Zf (zY n l).1 e∧e+(zY n l).2.length=d+l.length∧∀y,y∈(zY n l).2→y∈l
 | [],n,d,h=>⟨d,h,rfl,fun y hy=>hy⟩
 | c::t,n,d,h=>by
  simp only[zY];split
  ·rename_i hc;have hk:Z7 ((signR c:Nat):Int) noR [n].length=true:=by
    unfold signR at hc ⊢;by_cases h1:c=42
    ·rw[if_pos h1];rfl
    by_cases h2:c=43
    ·rw[if_neg h1,if_pos h2];rfl
    by_cases h3:c=63
    ·rw[if_neg h1,if_neg h2,if_pos h3];rfl
    ·rw[if_neg h1,if_neg h2,if_neg h3] at hc;omega
   obtain⟨e,h1,h2,h3⟩:=Zg t _ (d+1) (QX _ [n] d hk fun x hx=>by rw[List.mem_singleton.1 hx];exact h);exact⟨e,h1,by simp only[List.length_cons];omega,fun y hy=>List.mem_cons_of_mem _ (h3 y hy)⟩
  ·exact⟨d,h,rfl,fun y hy=>hy⟩
theorem yg:∀(N:Nat) (l:List Nat),l.length≤N→(∀y,y∈l→y<256) →
  (∀n r,atR l=some (n,r)→Zf n (l.length-r.length)∧∀y,y∈r→y∈l) ∧
  (∀all row ca cr n r,(∀x,x∈row→Zf x cr)→(2≤row.length→∀x,x∈row→Zf x (cr-1))→(∀x,x∈all→Zf x (max 2 ca-1))→(all≠ []→1≤ca)→rwR l all row=some (n,r)→Zf n (max 2 (ca+cr+(l.length-r.length)))∧∀y,y∈r→y∈l)
 | N,l,hN,hl=>by
  have hA:∀n r,atR l=some (n,r)→Zf n (l.length-r.length)∧∀y,y∈r→y∈l:=by
   intro n r h;have hlt:=yn h;have htl:l.tail.length+1=l.length:=(by rw[List.length_tail];omega);rw[Kk] at h;split at h
   ·rename_i hc;split at h
    ·cases h
    ·rename_i m q hq;split at h
     ·rename_i hp;cases h;have h4:=congrArg List.length (xF hp);simp only[List.length_cons] at h4;obtain⟨N,rfl⟩:∃k,N=k+1:=⟨N-1,by omega⟩;obtain⟨g1,g2⟩:=(yg N l.tail (by omega) (fun y hy=>hl y (List.mem_of_mem_tail hy))).2 [] [] 0 0 _ q (fun x hx=>by cases hx) (fun h=>by simp at h) (fun x hx=>by cases hx) (fun h=>absurd rfl h) hq;have h5:=ZI hq;refine⟨g1.mono ?_,fun y hy=>List.mem_of_mem_tail (g2 y (List.mem_of_mem_tail hy))⟩;omega
     ·cases h
   split at h
   ·obtain⟨g1,g2⟩:=vr (fun y hy=>hl y (List.mem_of_mem_tail hy)) h;exact⟨g1.mono (by omega),fun y hy=>List.mem_of_mem_tail (g2 y hy)⟩
   split at h
   ·cases h;exact⟨(js _ (ok_with _ _ _ (by omega) (ok_with _ _ _ (by omega) ok_no))).mono (by omega),fun y hy=>List.mem_of_mem_tail hy⟩
   ·rcases hs:letR false l with _ | x
    ·rw[hs] at h;cases h
    ·rw[hs] at h;cases h;have:=let_lt hl hs;exact⟨(js _ (ok_with _ _ _ (by omega) ok_no)).mono (by omega),Js hs⟩
  refine⟨hA,fun all row ca cr n r hrow hrow2 hall hca h=> ?_⟩;have hj:Zf (zl 2 row) (max cr 1):=QY 2 (.inl rfl) row _ (fun x hx=>(hrow x hx).mono (by omega)) (fun h2 x hx=>(hrow2 h2 x hx).mono (by omega)) (by omega);rw[Jt] at h;split at h
  ·cases h;refine⟨QY 3 (.inr rfl) _ _ (fun x hx=> ?_) (fun h2 x hx=> ?_) (by omega),fun y hy=>hy⟩
   ·rcases List.mem_append.1 hx with hx | hx
    ·exact (hall x hx).mono (by omega)
    ·rw[List.mem_singleton.1 hx];exact hj.mono (by omega)
   ·have hne:all≠ []:=by
     intro e;subst e;simp at h2
    have:=hca hne;rcases List.mem_append.1 hx with hx | hx
    ·exact (hall x hx).mono (by omega)
    ·rw[List.mem_singleton.1 hx];exact hj.mono (by omega)
  split at h
  ·rename_i hc;have h4:=congrArg List.length (xF hc);simp only[List.length_cons] at h4;obtain⟨N,rfl⟩:∃k,N=k+1:=⟨N-1,by omega⟩;obtain⟨g1,g2⟩:=(yg N l.tail (by omega) (fun y hy=>hl y (List.mem_of_mem_tail hy))).2 (all++ [zl 2 row]) [] (ca+cr+1) 0 n r (fun x hx=>by cases hx) (fun h=>by simp at h) (fun x hx=>by
    rcases List.mem_append.1 hx with hx | hx
    ·exact (hall x hx).mono (by omega)
    ·rw[List.mem_singleton.1 hx];exact hj.mono (by omega)) (fun _=>by omega) h
   have h5:=ZI h;exact⟨g1.mono (by omega),fun y hy=>List.mem_of_mem_tail (g2 y hy)⟩
  split at h
  ·cases h
  ·rename_i m q hq;obtain⟨g1,g2⟩:=hA m q hq;have hlt:=yn hq;obtain⟨e,s1,s2,s3⟩:=Zg q m _ g1;have hsl:=qE q m;obtain⟨N,rfl⟩:∃k,N=k+1:=⟨N-1,by omega⟩;have hep:=Y8 (zY m q).1;have hed:=s1.deep;obtain⟨k1,k2⟩:=(yg N (zY m q).2 (by omega) (fun y hy=>hl y (g2 y (s3 y hy)))).2 all (row++ [(zY m q).1]) ca (cr+e) n r (fun x hx=>by
    rcases List.mem_append.1 hx with hx | hx
    ·exact (hrow x hx).mono (by omega)
    ·rw[List.mem_singleton.1 hx];exact s1.mono (by omega)) (fun h2 x hx=>by
    rcases List.mem_append.1 hx with hx | hx
    ·exact (hrow x hx).mono (by omega)
    ·rw[List.mem_singleton.1 hx];have hne:row≠ []:=by
      intro e;subst e;simp at h2
     obtain⟨z,zs,hz⟩:=List.exists_cons_of_ne_nil hne;have h7:=(hrow z (by rw[hz];simp)).deep;have h8:=Y8 z;exact s1.mono (by omega)) hall hca h
   have h5:=ZI h;exact⟨k1.mono (by omega),fun y hy=>g2 y (s3 y (k2 y hy))⟩
theorem V7 (l:List Nat) (n:Nd) (hl:∀y,y∈l→y<256) (h:yl l=some n):Z8 n=true∧wfR n∧Jg n≤max 2 l.length:=by
 rw[kX] at h;split at h
 ·rename_i m hm;cases h;have:=((yg _ l (Nat.le_refl _) hl).2 [] [] 0 0 _ [] (fun x hx=>by cases hx) (fun h=>by simp at h) (fun x hx=>by cases hx) (fun h=>absurd rfl h) hm).1;exact⟨this.may,this.wf,Nat.le_trans this.deep (by simp)⟩
 ·cases h
end Go.Proofs.YtjeomlickkpebaaGreatDoor
namespace Go.Proofs.YtjeomlickkpebaaGreatDoor
mutual
def wtR:Nd→Nat
 | .mk _ _ l=>wtL l+1
def wtL:List Nd→Nat
 | []=>0
 | n::l=>wtR n+wtL l
end
theorem qm (n:Nd):wtR n=wtL n.kids+1:=by
 cases n with
 | mk k s l=>rw[wtR];rfl
theorem Y9 (n:Nd):1≤wtR n:=by rw[qm];omega
theorem XX:∀(l:List Nd),l.length≤wtL l
 | []=>Nat.le_refl _
 | n::l=>by
  have:=XX l;have:=Y9 n;rw[wtL,List.length_cons];omega
theorem kv:∀(l m:List Nd),wtL (l++m)=wtL l+wtL m
 | [],m=>by simp[wtL]
 | n::l,m=>by rw[List.cons_append,wtL,wtL,kv l m];omega
theorem Jh (n:Nd):wtL [n]=wtR n:=by simp[wtL]
theorem kw:∀(l:List Nd) (n:Nd),n∈l→wtR n≤wtL l
 | m::l,n,h=>by
  rw[wtL];rcases List.mem_cons.1 h with rfl | h
  ·omega
  ·have:=kw l n h;omega
theorem K2 (k:Int) (l:List Nd):wtR (zl k l)≤wtL l+1:=by
 match l with
 | []=>simp[zl,vx,wtR,wtL]
 | [x]=>simp[zl,wtL]
 | x::y::l=>simp[zl,wtR]
theorem Ya:∀(l:List Nat) (n:Nd),wtR (zY n l).1+(zY n l).2.length=wtR n+l.length
 | [],n=>rfl
 | c::t,n=>by
  simp only[zY];split
  ·have:=Ya t (.mk (signR c:Nat) noR [n]);rw[this];simp only[wtR,wtL,List.length_cons];omega
  ·rfl
theorem V8 {l r:List Nat} {n:Nd} (h:zh l=some (n,r)):wtR n=1:=by
 unfold zh at h;split at h
 ·rcases hs:spansR (l.length+1) true noR l.tail with _ | x
  ·rw[hs] at h;cases h
  ·rw[hs] at h;cases h;simp[wtR,wtL]
 ·rcases hs:spansR (l.length+1) true noR l with _ | x
  ·rw[hs] at h;cases h
  ·rw[hs] at h;cases h;simp[wtR,wtL]
theorem wt_rows:∀(N:Nat) (l:List Nat),l.length≤N →
  (∀n r,atR l=some (n,r)→wtR n+2*r.length≤2*l.length) ∧
  (∀all row n r,rwR l all row=some (n,r)→wtR n+2*r.length≤wtL all+wtL row+2*l.length+3)
 | N,l,hN=>by
  have hA:∀n r,atR l=some (n,r)→wtR n+2*r.length≤2*l.length:=by
   intro n r h;have hlt:=yn h;have htl:l.tail.length+1=l.length:=(by rw[List.length_tail];omega);rw[Kk] at h;split at h
   ·split at h
    ·cases h
    ·rename_i m q hq;split at h
     ·rename_i hp;cases h;have h4:=congrArg List.length (xF hp);simp only[List.length_cons] at h4;obtain⟨N,rfl⟩:∃k,N=k+1:=⟨N-1,by omega⟩;have:=(wt_rows N l.tail (by omega)).2 [] [] _ q hq;simp only[wtL] at this;omega
     ·cases h
   split at h
   ·have:=V8 h;omega
   split at h
   ·cases h;simp only[zIR,wtR,wtL];omega
   ·rcases hs:letR false l with _ | x
    ·rw[hs] at h;cases h
    ·rw[hs] at h;cases h;simp only[zFZ,wtR,wtL];omega
  refine⟨hA,fun all row n r h=> ?_⟩;have hj:=K2 2 row;rw[Jt] at h;split at h
  ·cases h;have:=K2 3 (all++ [zl 2 row]);rw[kv,Jh] at this;omega
  split at h
  ·rename_i hc;have h4:=congrArg List.length (xF hc);simp only[List.length_cons] at h4;obtain⟨N,rfl⟩:∃k,N=k+1:=⟨N-1,by omega⟩;have:=(wt_rows N l.tail (by omega)).2 _ _ _ r h;rw[kv,Jh] at this;simp only[wtL] at this;omega
  split at h
  ·cases h
  ·rename_i m q hq;have h1:=hA m q hq;have hlt:=yn hq;have h2:=Ya q m;have hsl:=qE q m;obtain⟨N,rfl⟩:∃k,N=k+1:=⟨N-1,by omega⟩;have:=(wt_rows N (zY m q).2 (by omega)).2 _ _ _ r h;rw[kv,Jh] at this;omega
theorem zCQ (l:List Nat) (n:Nd) (h:yl l=some n):wtR n≤2*l.length+3:=by
 rw[kX] at h;split at h
 ·rename_i m hm;cases h;have:=(wt_rows _ l (Nat.le_refl _)).2 [] [] _ [] hm;simp only[wtL,List.length_nil] at this;omega
 ·cases h
end Go.Proofs.YtjeomlickkpebaaGreatDoor
namespace Go.Proofs.YtjeomlickkpebaaGreatDoor
inductive StarP (L:List Nat→Prop):List Nat→Prop
 | nil:StarP L []
 | cons {u v:List Nat} (hu:L u) (hv:StarP L v):StarP L (u++v)
def zFT (L:List Nat→Prop) (w:List Nat):Prop:=∃u v,w=u++v∧L u∧StarP L v
mutual
def xj:Nd→List Nat→Prop
 | .mk k s l,w=>if k=1 then ∃b,w= [b]∧xf s b=true else if k=2 then Z9 l w else if k=3 then Za l w else if k=4 then StarP (QZ l) w else if k=5 then zFT (QZ l) w else if k=6 then w= []∨QZ l w else w= []
def Z9:List Nd→List Nat→Prop
 | [],w=>w= []
 | n::l,w=>∃u v,w=u++v∧xj n u∧Z9 l v
def Za:List Nd→List Nat→Prop
 | [],_=>False
 | n::l,w=>xj n w∨Za l w
def QZ:List Nd→List Nat→Prop
 | [],w=>w= []
 | n::_,w=>xj n w
end
structure Sta where
 kind:Nat
 set:St4
 next:Nat
 also:Nat
 rule:Nat
def qn (s:St4) (next:Nat):Sta:=⟨0,s,next,0,0⟩
def zJ (next also:Nat):Sta:=⟨1,noR,next,also,0⟩
def endS (rule:Nat):Sta:=⟨2,noR,0,0,rule⟩
def xi:List Sta→Nat→Nat→List Sta
 | [],_,_=> []
 | s::q,0,v=>⟨s.kind,s.set,s.next,v,s.rule⟩::q
 | s::q,i+1,v=>s::xi q i v
mutual
def buildT:Nd→List Sta→Nat→List Sta×Nat
 | .mk k s l,q,next=>
  if k=1 then (q++ [qn s next],q.length)
  else if k=2 then yH l q next
  else if k=3 then XY l q next
  else if k=4 then (xi (j8 l (q++ [zJ next next]) q.length).1 q.length (j8 l (q++ [zJ next next]) q.length).2,q.length)
  else if k=5 then (xi (j8 l (q++ [zJ next next]) q.length).1 q.length (j8 l (q++ [zJ next next]) q.length).2,(j8 l (q++ [zJ next next]) q.length).2)
  else if k=6 then ((j8 l q next).1++ [zJ (j8 l q next).2 next],(j8 l q next).1.length)
  else (q,next)
def yH:List Nd→List Sta→Nat→List Sta×Nat
 | [],q,next=>(q,next)
 | n::l,q,next=>buildT n (yH l q next).1 (yH l q next).2
def XY:List Nd→List Sta→Nat→List Sta×Nat
 | [],q,next=>(q,next)
 | n::l,q,next=>qP l (buildT n q next).1 (buildT n q next).2 next
def qP:List Nd→List Sta→Nat→Nat→List Sta×Nat
 | [],q,a,_=>(q,a)
 | n::l,q,a,next=>qP l ((buildT n q next).1++ [zJ a (buildT n q next).2]) (buildT n q next).1.length next
def j8:List Nd→List Sta→Nat→List Sta×Nat
 | [],q,next=>(q,next)
 | n::_,q,next=>buildT n q next
end
theorem zg:∀(q:List Sta) (i v:Nat),(xi q i v).length=q.length
 | [],_,_=>rfl
 | s::q,0,v=>rfl
 | s::q,i+1,v=>by rw[xi,List.length_cons,zg q i v,List.length_cons]
theorem qX:∀(q:List Sta) (i v j:Nat),j≠i→(xi q i v)[j]? =q[j]?
 | [],_,_,_,_=>rfl
 | s::q,0,v,0,h=>absurd rfl h
 | s::q,0,v,j+1,_=>rfl
 | s::q,i+1,v,0,_=>rfl
 | s::q,i+1,v,j+1,h=>by
  show (xi q i v)[j]? =q[j]?;exact qX q i v j (by omega)
theorem XZ:∀(q:List Sta) (i v:Nat) (s:Sta),q[i]? =some s→(xi q i v)[i]? =some ⟨s.kind,s.set,s.next,v,s.rule⟩
 | [],_,_,_,h=>by simp at h
 | s::q,0,v,_,h=>by cases h;rfl
 | s::q,i+1,v,t,h=>by
  show (xi q i v)[i]? =_;exact XZ q i v t h
inductive yL (Q:List Sta):Nat→List Nat→Nat→Nat→Prop
 | fin {i:Nat} {s:Sta} (h:Q[i]? =some s) (hk:s.kind=2):yL Q i [] s.rule 0
 | take {i:Nat} {s:Sta} {b r k:Nat} {w:List Nat} (h:Q[i]? =some s) (hk:s.kind=0) (hb:xf s.set b=true) (g:yL Q s.next w r k):yL Q i (b::w) r (k+1)
 | next {i:Nat} {s:Sta} {r k:Nat} {w:List Nat} (h:Q[i]? =some s) (hk:s.kind=1) (g:yL Q s.next w r k):yL Q i w r (k+1)
 | also {i:Nat} {s:Sta} {r k:Nat} {w:List Nat} (h:Q[i]? =some s) (hk:s.kind=1) (g:yL Q s.also w r k):yL Q i w r (k+1)
theorem kx {Q:List Sta} {i a b:Nat} (h:Q[i]? =some (zJ a b)) {w:List Nat} {r k:Nat} (g:yL Q i w r k):∃k',k'<k∧(yL Q a w r k'∨yL Q b w r k'):=by
 cases g with
 | fin h2 hk=>rw[h] at h2;cases h2;exact absurd hk (by simp[zJ])
 | take h2 hk=>rw[h] at h2;cases h2;exact absurd hk (by simp[zJ])
 | next h2 hk g=>rw[h] at h2;cases h2;exact⟨_,Nat.lt_succ_self _,.inl g⟩
 | also h2 hk g=>rw[h] at h2;cases h2;exact⟨_,Nat.lt_succ_self _,.inr g⟩
theorem K3 {Q:List Sta} {i a:Nat} {s:St4} (h:Q[i]? =some (qn s a)) {w:List Nat} {r k:Nat} (g:yL Q i w r k):∃b v k',w=b::v∧xf s b=true∧k'<k∧yL Q a v r k':=by
 cases g with
 | fin h2 hk=>rw[h] at h2;cases h2;exact absurd hk (by simp[qn])
 | take h2 hk hb g=>rw[h] at h2;cases h2;exact⟨_,_,_,rfl,hb,Nat.lt_succ_self _,g⟩
 | next h2 hk g=>rw[h] at h2;cases h2;exact absurd hk (by simp[qn])
 | also h2 hk g=>rw[h] at h2;cases h2;exact absurd hk (by simp[qn])
theorem zCR {Q:List Sta} {i j:Nat} (h:Q[i]? =some (endS j)) {w:List Nat} {r k:Nat} (g:yL Q i w r k):w= []∧r=j:=by
 cases g with
 | fin h2 hk=>rw[h] at h2;cases h2;exact⟨rfl,rfl⟩
 | take h2 hk=>rw[h] at h2;cases h2;exact absurd hk (by simp[endS])
 | next h2 hk g=>rw[h] at h2;cases h2;exact absurd hk (by simp[endS])
 | also h2 hk g=>rw[h] at h2;cases h2;exact absurd hk (by simp[endS])
def Zh (m:Nat) (s:Sta):Prop:=s.next<m∧s.also<m∧s.kind<3∧OkR s.set
theorem Zh.mono {m n:Nat} {s:Sta} (h:Zh m s) (hm:m≤n):Zh n s:=⟨Nat.lt_of_lt_of_le h.1 hm,Nat.lt_of_lt_of_le h.2.1 hm,h.2.2⟩
structure xQ (L:List Nat→Prop) (q:List Sta) (next:Nat) (q':List Sta) (a:Nat):Prop where
 len:q.length≤q'.length
 same:∀i,i<q.length→q'[i]? =q[i]?
 at_:a=next∨q.length≤a∧a<q'.length
 ok:next<q.length→∀i s,q.length≤i→q'[i]? =some s→Zh q'.length s
 fwd:∀Q,(∀i,q.length≤i→i<q'.length→Q[i]? =q'[i]?)→∀w r k,yL Q a w r k→∃u v k',w=u++v∧L u∧yL Q next v r k'∧k'≤k
 bwd:∀Q,(∀i,q.length≤i→i<q'.length→Q[i]? =q'[i]?)→∀u v r k,L u→yL Q next v r k→∃k',yL Q a (u++v) r k'
theorem xQ.atlt {L:List Nat→Prop} {q q':List Sta} {next a:Nat} (h:xQ L q next q' a) (hn:next<q.length):a<q'.length:=by
 rcases h.at_ with e | e
 ·rw[e];exact Nat.lt_of_lt_of_le hn h.len
 ·exact e.2
theorem zz {q:List Sta} {s:Sta}:(q++ [s])[q.length]? =some s:=by
 rw[List.getElem?_append_right (Nat.le_refl _),Nat.sub_self];rfl
theorem zv {q:List Sta} {s:Sta} {i:Nat} (h:i<q.length):(q++ [s])[i]? =q[i]? :=List.getElem?_append_left h
theorem ju (q:List Sta) (next:Nat):xQ (fun w=>w= []) q next q next where
 len:=Nat.le_refl _
 same:=fun _ _=>rfl
 at_:= .inl rfl
 ok:=fun _ i s h hs=>absurd (List.getElem?_eq_some_iff.1 hs).1 (by omega)
 fwd:=fun Q _ w r k g=>⟨[],w,k,rfl,rfl,g,Nat.le_refl _⟩
 bwd:=fun Q _ u v r k hu g=>by rw[hu];exact⟨k,g⟩
theorem V9 (s:St4) (hs:OkR s) (q:List Sta) (next:Nat):xQ (fun w=>∃b,w= [b]∧xf s b=true) q next (q++ [qn s next]) q.length where
 len:=by rw[List.length_append];omega
 same:=fun i h=>zv h
 at_:= .inr ⟨Nat.le_refl _,by rw[List.length_append];show _<_+1;omega⟩
 ok:=fun hn i t h ht=>by
  have h1:=(List.getElem?_eq_some_iff.1 ht).1;rw[List.length_append] at h1;rw[show i=q.length by simp at h1;omega,zz] at ht;cases ht;exact⟨by rw[List.length_append];show next<_;omega,by rw[List.length_append];show 0<_+1;omega,by show 0<3;omega,hs⟩
 fwd:=fun Q hQ w r k g=>by
  have:=hQ q.length (Nat.le_refl _) (by rw[List.length_append];show _<_+1;omega);rw[zz] at this;obtain⟨b,v,k',e,hb,hk,g'⟩:=K3 this g;exact⟨[b],v,k',e,⟨b,rfl,hb⟩,g',by omega⟩
 bwd:=fun Q hQ u v r k hu g=>by
  have:=hQ q.length (Nat.le_refl _) (by rw[List.length_append];show _<_+1;omega);rw[zz] at this;obtain⟨b,rfl,hb⟩:=hu;exact⟨_,yL.take this rfl hb g⟩
theorem xQ.cat {L M:List Nat→Prop} {q q1 q2:List Sta} {next a b:Nat} (h:xQ L q next q1 a) (g:xQ M q1 a q2 b):xQ (fun w=>∃u v,w=u++v∧M u∧L v) q next q2 b where
 len:=Nat.le_trans h.len g.len
 same:=fun i hi=>(g.same i (Nat.lt_of_lt_of_le hi h.len)).trans (h.same i hi)
 at_:=by
  have:=h.len;have:=g.len;rcases g.at_ with e | e
  ·rcases h.at_ with f | f
   ·exact .inl (e.trans f)
   ·right;rw[e];omega
  ·right;omega
 ok:=fun hn i s hi hs=>by
  have:=g.len;by_cases hi1:q1.length≤i
  ·exact g.ok (h.atlt hn) i s hi1 hs
  ·rw[g.same i (by omega)] at hs;exact (h.ok hn i s hi hs).mono (by omega)
 fwd:=fun Q hQ w r k hg=>by
  have h1:=h.len;have h2:=g.len;obtain⟨u,v,k1,rfl,hu,g1,hk1⟩:=g.fwd Q (fun i hi hl=>hQ i (by omega) hl) w r k hg;obtain⟨u2,v2,k2,rfl,hu2,g2,hk2⟩:=h.fwd Q (fun i hi hl=>(hQ i hi (by omega)).trans (g.same i hl)) v r k1 g1;exact⟨u++u2,v2,k2,by rw[List.append_assoc],⟨u,u2,rfl,hu,hu2⟩,g2,by omega⟩
 bwd:=fun Q hQ u v r k hu hg=>by
  have h1:=h.len;have h2:=g.len;obtain⟨u1,u2,rfl,hu1,hu2⟩:=hu;obtain⟨k1,g1⟩:=h.bwd Q (fun i hi hl=>(hQ i hi (by omega)).trans (g.same i hl)) u2 v r k hu2 hg;rw[List.append_assoc];exact g.bwd Q (fun i hi hl=>hQ i (by omega) hl) u1 (u2++v) r k1 hu1 g1
theorem xQ.alt {L M:List Nat→Prop} {q q1 q2:List Sta} {next a b:Nat} (h:xQ L q next q1 a) (g:xQ M q1 next q2 b):xQ (fun w=>L w∨M w) q next (q2++ [zJ a b]) q2.length where
 len:=by have:=h.len;have:=g.len;rw[List.length_append];omega
 same:=fun i hi=>by
  have:=h.len;have:=g.len;rw[zv (by omega),g.same i (by omega),h.same i hi]
 at_:=by have:=h.len;have:=g.len;rw[List.length_append];right;exact⟨by omega,by show _<_+1;omega⟩
 ok:=fun hn i s hi hs=>by
  have h1:=h.len;have h2:=g.len;have ha:=h.atlt hn;have hb:=g.atlt (Nat.lt_of_lt_of_le hn h1);have hlen:(q2++ [zJ a b]).length=q2.length+1:=by rw[List.length_append];rfl
  have hl:=(List.getElem?_eq_some_iff.1 hs).1;rw[hlen] at hl ⊢;by_cases e:i=q2.length
  ·rw[e,zz] at hs;cases hs;exact⟨by show a<_;omega,by show b<_;omega,by show 1<3;omega,ok_no⟩
  ·rw[zv (by omega)] at hs;by_cases hi1:q1.length≤i
   ·exact (g.ok (by omega) i s hi1 hs).mono (by omega)
   ·rw[g.same i (by omega)] at hs;exact (h.ok hn i s hi hs).mono (by omega)
 fwd:=fun Q hQ w r k hg=>by
  have h1:=h.len;have h2:=g.len;have hlen:(q2++ [zJ a b]).length=q2.length+1:=by rw[List.length_append];rfl
  have hq:=hQ q2.length (by omega) (by omega);rw[zz] at hq;obtain⟨k',hk',g' | g'⟩:=kx hq hg
  ·obtain⟨u,v,k1,e,hu,g1,hk1⟩:=h.fwd Q (fun i hi hl=>by rw[hQ i hi (by omega),zv (by omega),g.same i hl]) w r k' g';exact⟨u,v,k1,e,.inl hu,g1,by omega⟩
  ·obtain⟨u,v,k1,e,hu,g1,hk1⟩:=g.fwd Q (fun i hi hl=>by rw[hQ i (by omega) (by omega),zv (by omega)]) w r k' g';exact⟨u,v,k1,e,.inr hu,g1,by omega⟩
 bwd:=fun Q hQ u v r k hu hg=>by
  have h1:=h.len;have h2:=g.len;have hlen:(q2++ [zJ a b]).length=q2.length+1:=by rw[List.length_append];rfl
  have hq:=hQ q2.length (by omega) (by omega);rw[zz] at hq;rcases hu with hu | hu
  ·obtain⟨k1,g1⟩:=h.bwd Q (fun i hi hl=>by rw[hQ i hi (by omega),zv (by omega),g.same i hl]) u v r k hu hg;exact⟨_,yL.next hq rfl g1⟩
  ·obtain⟨k1,g1⟩:=g.bwd Q (fun i hi hl=>by rw[hQ i (by omega) (by omega),zv (by omega)]) u v r k hu hg;exact⟨_,yL.also hq rfl g1⟩
theorem xQ.maybe {L:List Nat→Prop} {q q1:List Sta} {next a:Nat} (h:xQ L q next q1 a):xQ (fun w=>w= []∨L w) q next (q1++ [zJ a next]) q1.length:=by
 have:=h.alt (ju q1 next);exact⟨this.len,this.same,this.at_,this.ok,fun Q hQ w r k hg=>by
  obtain⟨u,v,k',e,hu,g,hk⟩:=this.fwd Q hQ w r k hg;exact⟨u,v,k',e,hu.symm,g,hk⟩,fun Q hQ u v r k hu hg=>this.bwd Q hQ u v r k hu.symm hg⟩
section
variable {L:List Nat→Prop} {q q1:List Sta} {next a:Nat}
theorem xk (h:xQ L (q++ [zJ next next]) q.length q1 a):q.length<q1.length∧(xi q1 q.length a)[q.length]? =some (zJ next a)∧∀i,i<q.length→(xi q1 q.length a)[i]? =q[i]? :=by
 have hlen:(q++ [zJ next next]).length=q.length+1:=by rw[List.length_append];rfl
 have h1:=h.len;rw[hlen] at h1;have h2:=h.same q.length (by omega);rw[zz] at h2;exact⟨by omega,XZ _ _ _ _ h2,fun i hi=>by rw[qX _ _ _ _ (by omega),h.same i (by omega),zv hi]⟩
theorem K4 (h:xQ L (q++ [zJ next next]) q.length q1 a) (hn:next<q.length) (i:Nat) (s:Sta) (hi:q.length≤i) (hs:(xi q1 q.length a)[i]? =some s):Zh q1.length s:=by
 have hlen:(q++ [zJ next next]).length=q.length+1:=by rw[List.length_append];rfl
 obtain⟨h1,h2,_⟩:=xk h;by_cases e:i=q.length
 ·rw[e,h2] at hs;cases hs;exact⟨by show next<_;omega,h.atlt (by omega),by show 1<3;omega,ok_no⟩
 ·rw[qX _ _ _ _ e] at hs;exact h.ok (by omega) i s (by omega) hs
theorem Yb (h:xQ L (q++ [zJ next next]) q.length q1 a) (Q:List Sta) (hQ:∀i,q.length≤i→i<q1.length→Q[i]? =(xi q1 q.length a)[i]?):
  ∀(K k:Nat),k≤K→∀w r,yL Q q.length w r k→∃u v k',w=u++v∧StarP L u∧yL Q next v r k'∧k'≤k:=by
 have hlen:(q++ [zJ next next]).length=q.length+1:=by rw[List.length_append];rfl
 obtain⟨h1,h2,_⟩:=xk h;have hq:=hQ q.length (Nat.le_refl _) h1;rw[h2] at hq;intro K
 induction K with
 | zero=>
  intro k hk w r hg;obtain⟨k',hk',_⟩:=kx hq hg;omega
 | succ K ih=>
  intro k hk w r hg;obtain⟨k',hk',g' | g'⟩:=kx hq hg
  ·exact⟨[],w,k',rfl,.nil,g',by omega⟩
  ·obtain⟨u,v,k1,rfl,hu,g1,hk1⟩:=h.fwd Q (fun i hi hl=>by rw[hQ i (by omega) (by omega),qX _ _ _ _ (by omega)]) w r k' g';obtain⟨u2,v2,k2,rfl,hu2,g2,hk2⟩:=ih k1 (by omega) v r g1;exact⟨u++u2,v2,k2,by rw[List.append_assoc],.cons hu hu2,g2,by omega⟩
theorem Yc (h:xQ L (q++ [zJ next next]) q.length q1 a) (Q:List Sta) (hQ:∀i,q.length≤i→i<q1.length→Q[i]? =(xi q1 q.length a)[i]?) (v:List Nat) (r k:Nat) (hg:yL Q next v r k) (u:List Nat) (hu:StarP L u):∃k',yL Q q.length (u++v) r k':=by
 have hlen:(q++ [zJ next next]).length=q.length+1:=by rw[List.length_append];rfl
 obtain⟨h1,h2,_⟩:=xk h;have hq:=hQ q.length (Nat.le_refl _) h1;rw[h2] at hq
 induction hu with
 | nil=>exact⟨_,yL.next hq rfl hg⟩
 | cons hu _ ih=>
  obtain⟨k1,g1⟩:=ih;obtain⟨k2,g2⟩:=h.bwd Q (fun i hi hl=>by rw[hQ i (by omega) (by omega),qX _ _ _ _ (by omega)]) _ _ _ _ hu g1;rw[List.append_assoc];exact⟨_,yL.also hq rfl g2⟩
theorem xQ.star (h:xQ L (q++ [zJ next next]) q.length q1 a):xQ (StarP L) q next (xi q1 q.length a) q.length where
 len:=by rw[zg];exact Nat.le_of_lt (xk h).1
 same:=(xk h).2.2
 at_:= .inr ⟨Nat.le_refl _,by rw[zg];exact (xk h).1⟩
 ok:=fun hn i s hi hs=>by rw[zg];exact K4 h hn i s hi hs
 fwd:=fun Q hQ w r k hg=>by rw[zg] at hQ;exact Yb h Q hQ k k (Nat.le_refl _) w r hg
 bwd:=fun Q hQ u v r k hu hg=>by rw[zg] at hQ;exact Yc h Q hQ v r k hg u hu
theorem xQ.plus (h:xQ L (q++ [zJ next next]) q.length q1 a):xQ (zFT L) q next (xi q1 q.length a) a where
 len:=by rw[zg];exact Nat.le_of_lt (xk h).1
 same:=(xk h).2.2
 at_:=by
  have hlen:(q++ [zJ next next]).length=q.length+1:=by rw[List.length_append];rfl
  have h1:=(xk h).1;right;rw[zg];rcases h.at_ with e | e
  ·rw[e];omega
  ·omega
 ok:=fun hn i s hi hs=>by rw[zg];exact K4 h hn i s hi hs
 fwd:=fun Q hQ w r k hg=>by
  have hlen:(q++ [zJ next next]).length=q.length+1:=by rw[List.length_append];rfl
  rw[zg] at hQ;obtain⟨u,v,k1,rfl,hu,g1,hk1⟩:=h.fwd Q (fun i hi hl=>by rw[hQ i (by omega) (by omega),qX _ _ _ _ (by omega)]) w r k hg;obtain⟨u2,v2,k2,rfl,hu2,g2,hk2⟩:=Yb h Q hQ k1 k1 (Nat.le_refl _) v r g1;exact⟨u++u2,v2,k2,by rw[List.append_assoc],⟨u,u2,rfl,hu,hu2⟩,g2,by omega⟩
 bwd:=fun Q hQ u v r k hu hg=>by
  have hlen:(q++ [zJ next next]).length=q.length+1:=by rw[List.length_append];rfl
  rw[zg] at hQ;obtain⟨u1,u2,rfl,hu1,hu2⟩:=hu;obtain⟨k1,g1⟩:=Yc h Q hQ v r k hg u2 hu2;rw[List.append_assoc];exact h.bwd Q (fun i hi hl=>by rw[hQ i (by omega) (by omega),qX _ _ _ _ (by omega)]) u1 (u2++v) r k1 hu1 g1
end
theorem xQ.conv {L M:List Nat→Prop} {q q1:List Sta} {next a:Nat} (h:xQ L q next q1 a) (hl:∀w,L w↔M w):xQ M q next q1 a:=
 ⟨h.len,h.same,h.at_,h.ok,fun Q hQ w r k hg=>by
  obtain⟨u,v,k',e,hu,g,hk⟩:=h.fwd Q hQ w r k hg;exact⟨u,v,k',e,(hl u).1 hu,g,hk⟩,fun Q hQ u v r k hu hg=>h.bwd Q hQ u v r k ((hl u).2 hu) hg⟩
mutual
theorem xl:∀(n:Nd),Z8 n=true→wfR n→∀(q:List Sta) (next:Nat),xQ (xj n) q next (buildT n q next).1 (buildT n q next).2
 | .mk k s l,h,hw,q,next=>by
  obtain⟨h1,h2⟩:=qw h;obtain⟨f0,f6,f1,f4,f2,fs⟩:=qx h1;rw[wfR] at hw;rw[buildT];by_cases k1:k=1
  ·rw[if_pos k1];exact (V9 s hw.1 q next).conv fun w=>by rw[xj,if_pos k1]
  rw[if_neg k1];by_cases k2:k=2
  ·rw[if_pos k2];exact (Ji l h2 hw.2 q next).conv fun w=>by rw[xj,if_neg k1,if_pos k2]
  rw[if_neg k2];by_cases k3:k=3
  ·rw[if_pos k3];exact (zFU l (by have:=f2 (.inr k3);omega) h2 hw.2 q next).conv fun w=>by rw[xj,if_neg k1,if_neg k2,if_pos k3]
  rw[if_neg k3];by_cases k4:k=4
  ·rw[if_pos k4];exact (vP l h2 hw.2 _ _).star.conv fun w=>by rw[xj,if_neg k1,if_neg k2,if_neg k3,if_pos k4]
  rw[if_neg k4];by_cases k5:k=5
  ·rw[if_pos k5];exact (vP l h2 hw.2 _ _).plus.conv fun w=>by rw[xj,if_neg k1,if_neg k2,if_neg k3,if_neg k4,if_pos k5]
  rw[if_neg k5];by_cases k6:k=6
  ·rw[if_pos k6];exact (vP l h2 hw.2 _ _).maybe.conv fun w=>by rw[xj,if_neg k1,if_neg k2,if_neg k3,if_neg k4,if_neg k5,if_pos k6]
  rw[if_neg k6];exact (ju q next).conv fun w=>by rw[xj,if_neg k1,if_neg k2,if_neg k3,if_neg k4,if_neg k5,if_neg k6]
theorem Ji:∀(l:List Nd),qu l=true→wfL l→∀(q:List Sta) (next:Nat),xQ (Z9 l) q next (yH l q next).1 (yH l q next).2
 | [],_,_,q,next=>(ju q next).conv fun w=>by rw[Z9]
 | n::l,h,hw,q,next=>by
  rw[qu,Bool.and_eq_true] at h;rw[wfL] at hw;rw[yH];exact ((Ji l h.2 hw.2 q next).cat (xl n h.1 hw.1 _ _)).conv fun w=>by rw[Z9]
theorem zFU:∀(l:List Nd),0<l.length→qu l=true→wfL l→∀(q:List Sta) (next:Nat),xQ (Za l) q next (XY l q next).1 (XY l q next).2
 | [],h0,_,_,q,next=>absurd h0 (Nat.lt_irrefl _)
 | n::l,_,h,hw,q,next=>by
  rw[qu,Bool.and_eq_true] at h;rw[wfL] at hw;rw[XY];exact (Yd l h.2 hw.2 (xj n) q _ _ next (xl n h.1 hw.1 q next)).conv fun w=>by rw[Za]
theorem Yd:∀(l:List Nd),qu l=true→wfL l→∀(L:List Nat→Prop) (q q1:List Sta) (a next:Nat),xQ L q next q1 a→xQ (fun w=>L w∨Za l w) q next (qP l q1 a next).1 (qP l q1 a next).2
 | [],_,_,L,q,q1,a,next,hb=>hb.conv fun w=>by rw[Za,or_false]
 | n::l,h,hw,L,q,q1,a,next,hb=>by
  rw[qu,Bool.and_eq_true] at h;rw[wfL] at hw;rw[qP];exact (Yd l h.2 hw.2 _ q _ _ next (hb.alt (xl n h.1 hw.1 q1 next))).conv fun w=>by rw[Za,or_assoc]
theorem vP:∀(l:List Nd),qu l=true→wfL l→∀(q:List Sta) (next:Nat),xQ (QZ l) q next (j8 l q next).1 (j8 l q next).2
 | [],_,_,q,next=>(ju q next).conv fun w=>by rw[QZ]
 | n::l,h,hw,q,next=>by
  rw[qu,Bool.and_eq_true] at h;rw[wfL] at hw;rw[j8];exact (xl n h.1 hw.1 q next).conv fun w=>by rw[QZ]
end
mutual
theorem xZ:∀(n:Nd) (q:List Sta) (next:Nat),(buildT n q next).1.length+1≤q.length+2*wtR n
 | .mk k s l,q,next=>by
  rw[buildT,wtR];split
  ·rw[List.length_append];show _+1+1≤_;omega
  split
  ·have:=X0 l q next;omega
  split
  ·have:=zCS l q next;omega
  split
  ·have:=X1 l (q++ [zJ next next]) q.length;rw[List.length_append] at this;rw[zg];simp only[List.length_cons,List.length_nil] at this;omega
  split
  ·have:=X1 l (q++ [zJ next next]) q.length;rw[List.length_append] at this;rw[zg];simp only[List.length_cons,List.length_nil] at this;omega
  split
  ·have:=X1 l q next;rw[List.length_append];simp only[List.length_cons,List.length_nil];omega
  ·show q.length+1≤_;omega
theorem X0:∀(l:List Nd) (q:List Sta) (next:Nat),(yH l q next).1.length≤q.length+2*wtL l
 | [],q,next=>Nat.le_add_right _ _
 | n::l,q,next=>by
  rw[yH,wtL];have:=xZ n (yH l q next).1 (yH l q next).2;have:=X0 l q next;omega
theorem zCS:∀(l:List Nd) (q:List Sta) (next:Nat),(XY l q next).1.length≤q.length+2*wtL l
 | [],q,next=>Nat.le_add_right _ _
 | n::l,q,next=>by
  rw[XY,wtL];have:=xZ n q next;have:=Q0 l (buildT n q next).1 (buildT n q next).2 next;omega
theorem Q0:∀(l:List Nd) (q:List Sta) (a next:Nat),(qP l q a next).1.length≤q.length+2*wtL l
 | [],q,a,next=>Nat.le_add_right _ _
 | n::l,q,a,next=>by
  rw[qP,wtL];have:=xZ n q next;have:=Q0 l ((buildT n q next).1++ [zJ a (buildT n q next).2]) (buildT n q next).1.length next;rw[List.length_append] at this;simp only[List.length_cons,List.length_nil] at this;omega
theorem X1:∀(l:List Nd) (q:List Sta) (next:Nat),(j8 l q next).1.length≤q.length+2*wtL l
 | [],q,next=>Nat.le_add_right _ _
 | n::l,q,next=>by
  rw[j8,wtL];have:=xZ n q next;omega
end
mutual
theorem yh:∀(n:Nd) (q:List Sta) (next:Nat),q.length≤(buildT n q next).1.length
 | .mk k s l,q,next=>by
  rw[buildT];split
  ·rw[List.length_append];omega
  split
  ·exact K5 l q next
  split
  ·exact zFV l q next
  split
  ·have:=Jj l (q++ [zJ next next]) q.length;rw[List.length_append] at this;rw[zg];omega
  split
  ·have:=Jj l (q++ [zJ next next]) q.length;rw[List.length_append] at this;rw[zg];omega
  split
  ·have:=Jj l q next;rw[List.length_append];omega
  ·exact Nat.le_refl _
theorem K5:∀(l:List Nd) (q:List Sta) (next:Nat),q.length≤(yH l q next).1.length
 | [],_,_=>Nat.le_refl _
 | n::l,q,next=>Nat.le_trans (K5 l q next) (yh n _ _)
theorem zFV:∀(l:List Nd) (q:List Sta) (next:Nat),q.length≤(XY l q next).1.length
 | [],_,_=>Nat.le_refl _
 | n::l,q,next=>Nat.le_trans (yh n q next) (Ye l _ _ _)
theorem Ye:∀(l:List Nd) (q:List Sta) (a next:Nat),q.length≤(qP l q a next).1.length
 | [],_,_,_=>Nat.le_refl _
 | n::l,q,a,next=>by
  rw[qP];have h1:=yh n q next;have h2:=Ye l ((buildT n q next).1++ [zJ a (buildT n q next).2]) (buildT n q next).1.length next;rw[List.length_append] at h2;omega
theorem Jj:∀(l:List Nd) (q:List Sta) (next:Nat),q.length≤(j8 l q next).1.length
 | [],_,_=>Nat.le_refl _
 | n::_,q,next=>yh n q next
end
end Go.Proofs.YtjeomlickkpebaaGreatDoor
namespace Go.Proofs.YtjeomlickkpebaaGreatDoor
def yI:Nat→List Sta→List Bool→Nat→List Bool
 | 0,_,seen,_=>seen
 | f+1,q,seen,a=>
  if seen.getD a true=true then seen else
  match q[a]? with
  | none=>seen
  | some s=>if s.kind=1 then yI f q (yI f q (seen.set a true) s.next) s.also else seen.set a true
def yJ:List Bool→Nat
 | []=>0
 | b::l=>(if b=true then 0 else 1)+yJ l
theorem Jk:∀(l:List Bool),yJ l≤l.length
 | []=>Nat.le_refl _
 | b::l=>by
  have:=Jk l;rw[yJ,List.length_cons];split<;>omega
theorem X2:∀(l:List Bool) (a:Nat),l.getD a true=false→yJ (l.set a true)+1=yJ l
 | [],a,h=>by simp at h
 | b::l,0,h=>by
  have:b=false:=by simpa using h
  subst this;rw[List.set_cons_zero,yJ,yJ];simp;omega
 | b::l,a+1,h=>by
  have:=X2 l a (by simpa using h);rw[List.set_cons_succ,yJ,yJ];omega
theorem ky:∀(l:List Bool) (a:Nat),yJ l=0→l.getD a true=true
 | [],a,_=>by simp
 | b::l,0,h=>by
  rw[yJ] at h;cases b with
  | true=>rfl
  | false=>simp at h
 | b::l,a+1,h=>by
  rw[yJ] at h;have:=ky l a (by omega)
  simpa using this
inductive Eps (q:List Sta):Nat→Nat→Prop
 | refl (a:Nat):Eps q a a
 | next {a b:Nat} {s:Sta} (h:q[a]? =some s) (hk:s.kind=1) (g:Eps q s.next b):Eps q a b
 | also {a b:Nat} {s:Sta} (h:q[a]? =some s) (hk:s.kind=1) (g:Eps q s.also b):Eps q a b
def X3 (q:List Sta) (seen:List Bool) (i:Nat):Prop:=∀s,q[i]? =some s→s.kind=1→seen.getD s.next false=true∧seen.getD s.also false=true
structure zHR (q:List Sta) (seen out:List Bool) (a:Nat):Prop where
 len:out.length=seen.length
 mono:∀i,seen.getD i false=true→out.getD i false=true
 at_:out.getD a false=true
 cnt:yJ out≤yJ seen
 sound:∀i,out.getD i false=true→seen.getD i false=true∨Eps q a i
 closed:∀i,out.getD i false=true→seen.getD i false=true∨X3 q out i
theorem Q1 {l:List Bool} {a:Nat} (h:a<l.length) (d e:Bool):l.getD a d=l.getD a e:=by
 simp[List.getD,List.getElem?_eq_getElem h]
theorem getD_set {l:List Bool} {a i:Nat} (h:a<l.length):(l.set a true).getD i false=if i=a then true else l.getD i false:=by
 simp only[List.getD_eq_getElem?_getD,List.getElem?_set];by_cases e:a=i
 ·subst e;simp[h]
 ·rw[if_neg e,if_neg (fun x=>e x.symm)]
theorem X4 (q:List Sta) (hq:∀(i:Nat) (s:Sta),q[i]? =some s→Zh q.length s):∀(f:Nat) (seen:List Bool) (a:Nat),seen.length=q.length→a<q.length→yJ seen≤f→zHR q seen (yI f q seen a) a
 | 0,seen,a,hl,ha,hf=>by
  have h1:seen.getD a false=true:=by
   rw[Q1 (by omega) false true];exact ky _ _ (by omega)
  exact⟨rfl,fun _ h=>h,h1,Nat.le_refl _,fun _ h=> .inl h,fun _ h=> .inl h⟩
 | f+1,seen,a,hl,ha,hf=>by
  rw[yI];by_cases h0:seen.getD a true=true
  ·rw[if_pos h0];exact⟨rfl,fun _ h=>h,by rw[Q1 (by omega) false true];exact h0,Nat.le_refl _,fun _ h=> .inl h,fun _ h=> .inl h⟩
  rw[if_neg h0];have h0':seen.getD a true=false:=by simpa using h0
  have hc:=X2 seen a h0';rw[List.getElem?_eq_getElem ha];obtain⟨s,hs⟩:∃s,q[a]=s:=⟨_,rfl⟩;have hsa:q[a]? =some s:=by rw[List.getElem?_eq_getElem ha,hs]
  simp only[hs];by_cases hk:s.kind=1
  ·rw[if_pos hk];obtain⟨o1,o2,_⟩:=hq a s hsa;obtain⟨l1,m1,a1,c1,s1,d1⟩:=X4 q hq f (seen.set a true) s.next (by rw[List.length_set];exact hl) o1 (by omega);obtain⟨l2,m2,a2,c2,s2,d2⟩:=X4 q hq f (yI f q (seen.set a true) s.next) s.also (by rw[l1,List.length_set];exact hl) o2 (by omega);refine⟨by rw[l2,l1,List.length_set],fun i h=> ?_,?_,by omega,fun i h=> ?_,fun i h=> ?_⟩
   ·refine m2 i (m1 i ?_);rw[getD_set (by omega)];split
    ·rfl
    ·exact h
   ·refine m2 a (m1 a ?_);rw[getD_set (by omega),if_pos rfl]
   ·rcases s2 i h with h | h
    ·rcases s1 i h with h | h
     ·rw[getD_set (by omega)] at h;split at h
      ·rename_i e;rw[e];exact .inr (.refl _)
      ·exact .inl h
     ·exact .inr (.next hsa hk h)
    ·exact .inr (.also hsa hk h)
   ·rcases d2 i h with h | h
    ·rcases d1 i h with h | h
     ·rw[getD_set (by omega)] at h;split at h
      ·rename_i e;right;intro t ht _;rw[e,hsa] at ht;cases ht;exact⟨m2 _ a1,a2⟩
      ·exact .inl h
     ·right;intro t ht hkt;obtain⟨x,y⟩:=h t ht hkt;exact⟨m2 _ x,m2 _ y⟩
    ·exact .inr h
  ·rw[if_neg hk];refine⟨by rw[List.length_set],fun i h=> ?_,?_,by omega,fun i h=> ?_,fun i h=> ?_⟩
   ·rw[getD_set (by omega)];split
    ·rfl
    ·exact h
   ·rw[getD_set (by omega),if_pos rfl]
   ·rw[getD_set (by omega)] at h;split at h
    ·rename_i e;rw[e];exact .inr (.refl _)
    ·exact .inl h
   ·rw[getD_set (by omega)] at h;split at h
    ·rename_i e;right;intro t ht hkt;rw[e,hsa] at ht;cases ht;exact absurd hkt hk
    ·exact .inl h
def marksP (q:List Sta):List Int→List Bool→List Bool
 | [],seen=>seen
 | a::l,seen=>marksP q l (yI q.length q seen a.toNat)
theorem Zi (q:List Sta):∀(l:List Int) (a:Int) (seen:List Bool),marksP q (l++ [a]) seen=yI q.length q (marksP q l seen) a.toNat
 | [],a,seen=>rfl
 | b::l,a,seen=>by rw[List.cons_append,marksP,marksP,Zi q l a]
def InQ (q:List Sta) (l:List Int):Prop:=∀a,a∈l→0≤a∧a<q.length
theorem jv (q:List Sta) (hq:∀(i:Nat) (s:Sta),q[i]? =some s→Zh q.length s):∀(l:List Int) (seen:List Bool),InQ q l→seen.length=q.length →
  (marksP q l seen).length=q.length∧(∀i,seen.getD i false=true→(marksP q l seen).getD i false=true)∧(∀a,a∈l→(marksP q l seen).getD a.toNat false=true) ∧
  (∀i,(marksP q l seen).getD i false=true→seen.getD i false=true∨∃a,a∈l∧Eps q a.toNat i)∧(∀i,(marksP q l seen).getD i false=true→seen.getD i false=true∨X3 q (marksP q l seen) i)
 | [],seen,_,hl=>⟨hl,fun _ h=>h,(fun a h=>by cases h),fun _ h=> .inl h,fun _ h=> .inl h⟩
 | a::l,seen,hi,hl=>by
  have ha:=hi a (by simp);obtain⟨l1,m1,a1,c1,s1,d1⟩:=X4 q hq q.length seen a.toNat hl (by omega) (by have:=Jk seen;omega);obtain⟨l2,m2,a2,s2,d2⟩:=jv q hq l (yI q.length q seen a.toNat) (fun x hx=>hi x (by simp[hx])) (by rw[l1];exact hl);rw[marksP];refine⟨l2,fun i h=>m2 i (m1 i h),fun x hx=> ?_,fun i h=> ?_,fun i h=> ?_⟩
  ·rcases List.mem_cons.1 hx with rfl | hx
   ·exact m2 _ a1
   ·exact a2 x hx
  ·rcases s2 i h with h | ⟨x,hx,h⟩
   ·rcases s1 i h with h | h
    ·exact .inl h
    ·exact .inr ⟨a,by simp,h⟩
   ·exact .inr ⟨x,by simp[hx],h⟩
  ·rcases d2 i h with h | h
   ·rcases d1 i h with h | h
    ·exact .inl h
    ·right;intro t ht hk;obtain⟨x,y⟩:=h t ht hk;exact⟨m2 _ x,m2 _ y⟩
   ·exact .inr h
def qo (q:List Sta) (seen:List Bool):Nat→List Int
 | 0=> []
 | i+1=>if seen.getD i false=true∧(q[i]?.map (·.kind))≠some 1 then qo q seen i++ [(i:Int)] else qo q seen i
def noneB:Nat→List Bool
 | 0=> []
 | n+1=>false::noneB n
theorem zi:∀n,(noneB n).length=n
 | 0=>rfl
 | n+1=>by rw[noneB,List.length_cons,zi n]
theorem noneB_get:∀n i,(noneB n).getD i false=false
 | 0,i=>by simp[noneB]
 | n+1,0=>rfl
 | n+1,i+1=>by
  have:=noneB_get n i
  simpa [noneB] using this
def reachP (q:List Sta) (l:List Int):List Int:=qo q (marksP q l (noneB q.length)) q.length
theorem qQ (q:List Sta) (seen:List Bool):∀(n:Nat) (x:Int),x∈qo q seen n↔∃i:Nat,x=i∧i<n∧seen.getD i false=true∧(q[i]?.map (·.kind))≠some 1
 | 0,x=>⟨(fun h=>by cases h),fun⟨_,_,h,_⟩=>absurd h (by omega)⟩
 | n+1,x=>by
  rw[qo];split
  ·rename_i h;rw[List.mem_append,qQ q seen n x,List.mem_singleton];constructor
   ·rintro (⟨i,a,b,c⟩ | e)
    ·exact⟨i,a,by omega,c⟩
    ·exact⟨n,e,by omega,h⟩
   ·rintro⟨i,a,b,c⟩;by_cases e:i=n
    ·right;rw[a,e]
    ·left;exact⟨i,a,by omega,c⟩
  ·rename_i h;rw[qQ q seen n x];constructor
   ·rintro⟨i,a,b,c⟩;exact⟨i,a,by omega,c⟩
   ·rintro⟨i,a,b,c⟩;by_cases e:i=n
    ·subst e;exact absurd c h
    ·exact⟨i,a,by omega,c⟩
def zCK (q:List Sta) (l:List Int) (w:List Nat) (r:Nat):Prop:=∃a,a∈l∧0≤a∧∃k,yL q a.toNat w r k
def vt (q:List Sta) (l:List Int):Prop:=∀a s,a∈l→q[a.toNat]? =some s→s.kind≠1
theorem zCT {q:List Sta} {a b:Nat} (h:Eps q a b):∀ {w r k},yL q b w r k→∃k',yL q a w r k':=by
 induction h with
 | refl a=>intro w r k g;exact⟨k,g⟩
 | next h hk _ ih=>intro w r k g;obtain⟨k',g'⟩:=ih g;exact⟨_,.next h hk g'⟩
 | also h hk _ ih=>intro w r k g;obtain⟨k',g'⟩:=ih g;exact⟨_,.also h hk g'⟩
theorem kS (q:List Sta) (hq:∀(i:Nat) (s:Sta),q[i]? =some s→Zh q.length s) (l:List Int) (hl:InQ q l):InQ q (reachP q l)∧vt q (reachP q l)∧∀w r,zCK q (reachP q l) w r↔zCK q l w r:=by
 obtain⟨l1,_,a1,s1,d1⟩:=jv q hq l (noneB q.length) hl (zi _);unfold reachP;generalize marksP q l (noneB q.length)=seen at l1 a1 s1 d1;have s1':∀i,seen.getD i false=true→∃a,a∈l∧Eps q a.toNat i:=fun i h=>by
  rcases s1 i h with h | h
  ·rw[noneB_get] at h;cases h
  ·exact h
 have d1':∀i,seen.getD i false=true→X3 q seen i:=fun i h=>by
  rcases d1 i h with h | h
  ·rw[noneB_get] at h;cases h
  ·exact h
 refine⟨fun a ha=> ?_,fun a s ha hs hk=> ?_,fun w r=>Iff.intro ?_ ?_⟩
 ·obtain⟨i,rfl,hi,_⟩:=(qQ q seen _ a).1 ha;omega
 ·obtain⟨i,rfl,hi,_,hn⟩:=(qQ q seen _ a).1 ha;rw[Int.toNat_natCast] at hs;exact hn (by rw[hs,Option.map_some,hk])
 ·rintro⟨a,ha,h0,k,g⟩;obtain⟨i,rfl,hi,hs,hn⟩:=(qQ q seen _ a).1 ha;rw[Int.toNat_natCast] at g;obtain⟨b,hb,he⟩:=s1' i hs;obtain⟨k',g'⟩:=zCT he g;exact⟨b,hb,(hl b hb).1,k',g'⟩
 ·rintro⟨a,ha,h0,k,g⟩;have key:∀(k i:Nat) (w:List Nat) (r:Nat),seen.getD i false=true→i<q.length→yL q i w r k→∃j:Nat,j<q.length∧seen.getD j false=true∧(q[j]?.map (·.kind))≠some 1∧∃k',yL q j w r k':=by
   intro k
   induction k with
   | zero=>
    intro i w r hs hi g;cases g with
    | fin h2 hk=>exact⟨i,hi,hs,by rw[h2,Option.map_some,hk];simp,_,.fin h2 hk⟩
   | succ k ih=>
    intro i w r hs hi g;cases g with
    | take h2 hk hb g=>exact⟨i,hi,hs,by rw[h2,Option.map_some,hk];simp,_,.take h2 hk hb g⟩
    | next h2 hk g=>exact ih _ _ _ (d1' i hs _ h2 hk).1 (hq _ _ h2).1 g
    | also h2 hk g=>exact ih _ _ _ (d1' i hs _ h2 hk).2 (hq _ _ h2).2.1 g
  have hr:=hl a ha;obtain⟨j,hj,hsj,hnj,k',g'⟩:=key k a.toNat w r (a1 a ha) (by omega) g;exact⟨(j:Int),(qQ q seen _ _).2 ⟨j,rfl,hj,hsj,hnj⟩,by omega,k',by rw[Int.toNat_natCast];exact g'⟩
def lookS (q:List Sta) (a:Int):Option Sta:=if 0≤a then q[a.toNat]? else none
def nextsP (q:List Sta) (b:Nat):List Int→List Int
 | []=> []
 | a::l=>match lookS q a with
  | none=>nextsP q b l
  | some s=>if s.kind=0∧xf s.set b=true then (s.next:Int)::nextsP q b l else nextsP q b l
theorem Q2 (q:List Sta) (b:Nat):∀(l m:List Int),nextsP q b (l++m)=nextsP q b l++nextsP q b m
 | [],m=>rfl
 | a::l,m=>by
  rw[List.cons_append,nextsP,nextsP,Q2 q b l m];split
  ·rfl
  ·split<;>rfl
theorem qy (q:List Sta) (b:Nat):∀(l:List Int) (x:Int),x∈nextsP q b l↔∃a s,a∈l∧lookS q a=some s∧s.kind=0∧xf s.set b=true∧x=s.next
 | [],x=>⟨(fun h=>by cases h),fun⟨_,_,h,_⟩=>by cases h⟩
 | a::l,x=>by
  rw[nextsP];have ih:=qy q b l x;split
  ·rename_i h;rw[ih];constructor
   ·rintro⟨c,s,hc,h2⟩;exact⟨c,s,by simp[hc],h2⟩
   ·rintro⟨c,s,hc,h2,h3⟩;rcases List.mem_cons.1 hc with rfl | hc
    ·rw[h] at h2;cases h2
    ·exact⟨c,s,hc,h2,h3⟩
  ·rename_i t h;split
   ·rename_i hk;rw[List.mem_cons,ih];constructor
    ·rintro (e | ⟨c,s,hc,h2⟩)
     ·exact⟨a,t,by simp,h,hk.1,hk.2,e⟩
     ·exact⟨c,s,by simp[hc],h2⟩
    ·rintro⟨c,s,hc,h2,h3⟩;rcases List.mem_cons.1 hc with rfl | hc
     ·rw[h] at h2;cases h2;exact .inl h3.2.2
     ·exact .inr ⟨c,s,hc,h2,h3⟩
   ·rename_i hk;rw[ih];constructor
    ·rintro⟨c,s,hc,h2⟩;exact⟨c,s,by simp[hc],h2⟩
    ·rintro⟨c,s,hc,h2,h3⟩;rcases List.mem_cons.1 hc with rfl | hc
     ·rw[h] at h2;cases h2;exact absurd ⟨h3.1,h3.2.1⟩ hk
     ·exact⟨c,s,hc,h2,h3⟩
def zy (q:List Sta) (b:Nat) (l:List Int):List Int:=if nextsP q b l= [] then [] else reachP q (nextsP q b l)
theorem nexts_in (q:List Sta) (hq:∀(i:Nat) (s:Sta),q[i]? =some s→Zh q.length s) (b:Nat) (l:List Int):InQ q (nextsP q b l):=by
 intro x hx;obtain⟨a,s,_,h,_,_,rfl⟩:=(qy q b l x).1 hx;unfold lookS at h;split at h
 ·have:=(hq _ _ h).1;omega
 ·cases h
theorem nexts_acc (q:List Sta) (b:Nat) (l:List Int) (hn:vt q l) (w:List Nat) (r:Nat):zCK q (nextsP q b l) w r↔zCK q l (b::w) r:=by
 constructor
 ·rintro⟨x,hx,h0,k,g⟩;obtain⟨a,s,ha,h,hk,hb,rfl⟩:=(qy q b l x).1 hx;unfold lookS at h;split at h
  ·rename_i ha0;rw[Int.toNat_natCast] at g;exact⟨a,ha,ha0,_,.take h hk hb g⟩
  ·cases h
 ·rintro⟨a,ha,h0,k,g⟩;cases g with
  | take h hk hb g=>exact⟨_,(qy q b l _).2 ⟨a,_,ha,by unfold lookS;rw[if_pos h0];exact h,hk,hb,rfl⟩,by omega,_,by rw[Int.toNat_natCast];exact g⟩
  | next h hk g=>exact absurd hk (hn a _ ha h)
  | also h hk g=>exact absurd hk (hn a _ ha h)
theorem K6 (q:List Sta) (hq:∀(i:Nat) (s:Sta),q[i]? =some s→Zh q.length s) (b:Nat) (l:List Int) (hn:vt q l):InQ q (zy q b l)∧vt q (zy q b l)∧∀w r,zCK q (zy q b l) w r↔zCK q l (b::w) r:=by
 unfold zy;have h1:=nexts_in q hq b l;have h2:=fun w r=>nexts_acc q b l hn w r;split
 ·rename_i e;rw[e] at h2;exact⟨(fun a h=>by cases h),(fun a s h=>by cases h),h2⟩
 ·obtain⟨a,c,d⟩:=kS q hq _ h1;exact⟨a,c,fun w r=>(d w r).trans (h2 w r)⟩
def accP (q:List Sta):List Int→Int→Int
 | [],r=>r
 | a::l,r=>match lookS q a with
  | none=>accP q l r
  | some s=>if s.kind=2∧(r= -1∨(s.rule:Int)<r) then accP q l s.rule else accP q l r
theorem X5 (q:List Sta):∀(l m:List Int) (r:Int),accP q (l++m) r=accP q m (accP q l r)
 | [],m,r=>rfl
 | a::l,m,r=>by
  rw[List.cons_append,accP,accP];split
  ·exact X5 q l m r
  ·split
   ·exact X5 q l m _
   ·exact X5 q l m r
def qg (A:Nat→Prop) (r:Int):Prop:=(r= -1∧∀j,¬A j)∨∃j:Nat,r=j∧A j∧∀i,i<j→¬A i
theorem qg.unique {A B:Nat→Prop} {r s:Int} (h:qg A r) (g:qg B s) (e:∀j,A j↔B j):r=s:=by
 rcases h with ⟨rfl,h⟩ | ⟨j,rfl,h1,h2⟩
 ·rcases g with ⟨rfl,_⟩ | ⟨i,rfl,g1,_⟩
  ·rfl
  ·exact absurd ((e i).2 g1) (h i)
 ·rcases g with ⟨rfl,g⟩ | ⟨i,rfl,g1,g2⟩
  ·exact absurd ((e j).1 h1) (g j)
  ·have h3:¬i<j:=fun x=>h2 i x ((e i).2 g1);have h4:¬j<i:=fun x=>g2 j x ((e j).1 h1);omega
theorem qg.conv {A B:Nat→Prop} {r:Int} (h:qg A r) (e:∀j,A j↔B j):qg B r:=by
 rcases h with ⟨rfl,h⟩ | ⟨j,rfl,h1,h2⟩
 ·exact .inl ⟨rfl,fun j hj=>h j ((e j).2 hj)⟩
 ·exact .inr ⟨j,rfl,(e j).1 h1,fun i hi hb=>h2 i hi ((e i).2 hb)⟩
def zIQ (q:List Sta) (l:List Int) (j:Nat):Prop:=∃a s,a∈l∧lookS q a=some s∧s.kind=2∧s.rule=j
theorem acc_least (q:List Sta):∀(l:List Int) (A:Nat→Prop) (r:Int),qg A r→qg (fun j=>A j∨zIQ q l j) (accP q l r)
 | [],A,r,h=>h.conv fun j=>Iff.intro .inl fun h=>h.resolve_right fun⟨_,_,h,_⟩=>by cases h
 | a::l,A,r,h=>by
  rw[accP];split
  ·rename_i hn;refine (acc_least q l A r h).conv fun j=>or_congr Iff.rfl ⟨fun⟨c,s,hc,h2⟩=>⟨c,s,by simp[hc],h2⟩,fun⟨c,s,hc,h2,h3⟩=> ?_⟩;rcases List.mem_cons.1 hc with rfl | hc
   ·rw[hn] at h2;cases h2
   ·exact⟨c,s,hc,h2,h3⟩
  ·rename_i t ht;split
   ·rename_i hk;have hnew:qg (fun j=>A j∨j=t.rule) (t.rule:Int):=by
     refine .inr ⟨t.rule,rfl,.inr rfl,fun i hi hA=> ?_⟩;rcases hA with hA | hA
     ·rcases h with ⟨rfl,h⟩ | ⟨j,rfl,h1,h2⟩
      ·exact h i hA
      ·rcases hk.2 with e | e
       ·omega
       ·exact h2 i (by omega) hA
     ·omega
    refine (acc_least q l _ _ hnew).conv fun j=>⟨?_,?_⟩
    ·rintro ((hA | e) | ⟨c,s,hc,h2⟩)
     ·exact .inl hA
     ·exact .inr ⟨a,t,by simp,ht,hk.1,e.symm⟩
     ·exact .inr ⟨c,s,by simp[hc],h2⟩
    ·rintro (hA | ⟨c,s,hc,h2,h3,h4⟩)
     ·exact .inl (.inl hA)
     ·rcases List.mem_cons.1 hc with rfl | hc
      ·rw[ht] at h2;cases h2;exact .inl (.inr h4.symm)
      ·exact .inr ⟨c,s,hc,h2,h3,h4⟩
   ·rename_i hk;have hold:qg (fun j=>A j∨t.kind=2∧t.rule=j) r:=by
     rcases h with ⟨rfl,h⟩ | ⟨j,rfl,h1,h2⟩
     ·exact .inl ⟨rfl,fun j hj=>hj.elim (h j) fun⟨e,_⟩=>hk ⟨e,.inl rfl⟩⟩
     ·exact .inr ⟨j,rfl,.inl h1,fun i hi hj=>hj.elim (h2 i hi) fun⟨e,e2⟩=>hk ⟨e,.inr (by omega)⟩⟩
    refine (acc_least q l _ _ hold).conv fun j=>⟨?_,?_⟩
    ·rintro ((hA | ⟨e,e2⟩) | ⟨c,s,hc,h2⟩)
     ·exact .inl hA
     ·exact .inr ⟨a,t,by simp,ht,e,e2⟩
     ·exact .inr ⟨c,s,by simp[hc],h2⟩
    ·rintro (hA | ⟨c,s,hc,h2,h3,h4⟩)
     ·exact .inl (.inl hA)
     ·rcases List.mem_cons.1 hc with rfl | hc
      ·rw[ht] at h2;cases h2;exact .inl (.inr ⟨h3,h4⟩)
      ·exact .inr ⟨c,s,hc,h2,h3,h4⟩
theorem Va (q:List Sta) (l:List Int) (hn:vt q l):qg (fun j=>zCK q l [] j) (accP q l (-1)):=by
 refine (acc_least q l (fun _=>False) (-1) (.inl ⟨rfl,fun _ h=>h⟩)).conv fun j=>⟨?_,?_⟩
 ·rintro (h | ⟨a,s,ha,h,hk,rfl⟩)
  ·exact h.elim
  ·unfold lookS at h;split at h
   ·rename_i h0;exact⟨a,ha,h0,_,.fin h hk⟩
   ·cases h
 ·rintro⟨a,ha,h0,k,g⟩;right;cases g with
  | fin h hk=>exact⟨a,_,ha,by unfold lookS;rw[if_pos h0];exact h,hk,rfl⟩
  | next h hk g=>exact absurd hk (hn a _ ha h)
  | also h hk g=>exact absurd hk (hn a _ ha h)
end Go.Proofs.YtjeomlickkpebaaGreatDoor
namespace Go.Proofs.YtjeomlickkpebaaGreatDoor
theorem zj {α:Type} {l:List α} {i:Nat} {x d:α} (h:l[i]? =some x):l.getD i d=x:=by rw[List.getD,h];rfl
theorem xx {α:Type} {l:List α} {i:Nat} {d:α} (h:l.length≤i):l.getD i d=d:=by rw[List.getD,List.getElem?_eq_none h];rfl
structure Dfa where
 next:List (List Int)
 rule:List Int
namespace Dfa
def n (d:Dfa):Nat:=d.next.length
def to (d:Dfa) (q:Int) (b:Nat):Int:=if 0≤q then (d.next.getD q.toNat []).getD b (-1) else -1
def acc (d:Dfa) (q:Int):Int:=if 0≤q then d.rule.getD q.toNat (-1) else -1
def run (d:Dfa):Int→List Nat→Int
 | q,[]=>q
 | q,b::w=>d.run (d.to q b) w
def says (d:Dfa) (q:Int) (w:List Nat):Int:=d.acc (d.run q w)
end Dfa
theorem zHS (d:Dfa) {q:Int} (h:q<0) (b:Nat):d.to q b= -1:=if_neg (by omega)
theorem K7 (d:Dfa) {q:Int} (h:q<0):d.acc q= -1:=if_neg (by omega)
theorem K8 (d:Dfa):∀(w:List Nat) (q:Int),q<0→d.run q w<0
 | [],_,h=>h
 | _::w,_,h=>K8 d w _ (by rw[zHS d h];decide)
theorem jx (d:Dfa) {q:Int} (h:q<0) (w:List Nat):d.says q w= -1:=K7 d (K8 d w q h)
theorem j9 (d:Dfa) (q:Int) (b:Nat) (w:List Nat):d.says q (b::w)=d.says (d.to q b) w:=rfl
theorem X6 (d:Dfa) (q:Int):d.says q []=d.acc q:=rfl
theorem Jl (d:Dfa):∀(u:List Nat) (q:Int) (v:List Nat),d.run q (u++v)=d.run (d.run q u) v
 | [],_,_=>rfl
 | _::u,_,v=>Jl d u _ v
theorem Yf (d:Dfa) (q:Int) (u v:List Nat):d.says q (u++v)=d.says (d.run q u) v:=by unfold Dfa.says;rw[Jl]
structure OkD (d:Dfa):Prop where
 pos:0<d.n
 rules:d.rule.length=d.n
 row:∀r,r∈d.next→r.length=256
 into:∀r,r∈d.next→∀x,x∈r→ -1≤x∧x<(d.n:Int)
 low:∀x,x∈d.rule→ -1≤x
section
variable {d:Dfa}
theorem OkD.rowAt (h:OkD d) {k:Nat} (hk:k<d.n):∃r,d.next[k]? =some r∧r.length=256∧∀b,d.to k b=r.getD b (-1):=by
 have hk2:k<d.next.length:=hk;refine⟨d.next[k],List.getElem?_eq_getElem hk2,h.row _ (List.getElem_mem hk2),fun b=> ?_⟩;unfold Dfa.to;rw[if_pos (by omega),Int.toNat_natCast,zj (List.getElem?_eq_getElem hk2)]
theorem OkD.to_in (h:OkD d) (q:Int) (b:Nat): -1≤d.to q b∧d.to q b<(d.n:Int):=by
 have hp:=h.pos;unfold Dfa.to;split
 ·rename_i h0;by_cases hq:q.toNat<d.next.length
  ·rw[zj (List.getElem?_eq_getElem hq)];by_cases hb:b<(d.next[q.toNat]).length
   ·rw[zj (List.getElem?_eq_getElem hb)];exact h.into _ (List.getElem_mem hq) _ (List.getElem_mem hb)
   ·rw[xx (by omega)];exact⟨Int.le_refl _,by omega⟩
  ·rw[xx (l:=d.next) (by omega)];exact⟨Int.le_refl _,by show (-1:Int)<_;omega⟩
 ·exact⟨Int.le_refl _,by omega⟩
theorem OkD.to_big (h:OkD d) (q:Int) (b:Nat) (hb:256≤b):d.to q b= -1:=by
 unfold Dfa.to;split
 ·by_cases hq:q.toNat<d.next.length
  ·rw[zj (List.getElem?_eq_getElem hq),xx (by rw[h.row _ (List.getElem_mem hq)];exact hb)]
  ·rw[xx (l:=d.next) (by omega)];rfl
 ·rfl
theorem OkD.run_in (h:OkD d):∀(w:List Nat) (q:Int),-1≤q→q<(d.n:Int)→ -1≤d.run q w∧d.run q w<(d.n:Int)
 | [],_,h1,h2=>⟨h1,h2⟩
 | b::w,q,_,_=>h.run_in w _ (h.to_in q b).1 (h.to_in q b).2
def ByL (w:List Nat):Prop:=∀b,b∈w→b<256
theorem ByL.cons {b:Nat} {w:List Nat} (h:ByL (b::w)):b<256∧ByL w:=⟨h b (by simp),fun c hc=>h c (by simp[hc])⟩
theorem OkD.says_big (h:OkD d):∀(w:List Nat) (q:Int),¬ByL w→d.says q w= -1
 | [],_,hw=>absurd (fun b hb=>by cases hb) hw
 | b::w,q,hw=>by
  rw[j9];by_cases hb:b<256
  ·refine h.says_big w _ fun h2=>hw fun c hc=> ?_;rcases List.mem_cons.1 hc with rfl | hc
   ·exact hb
   ·exact h2 c hc
  ·rw[h.to_big q b (by omega)];exact jx d (by decide) w
end
def x7:List Int→Nat→Option Nat
 | [],s=>some s
 | e::l,s=>if e<(s:Int) then x7 l s else if e=(s:Int) then x7 l (s+1) else none
theorem xm:∀(l m:List Int) (s:Nat),x7 (l++m) s=(x7 l s).bind (x7 m)
 | [],m,s=>rfl
 | e::l,m,s=>by
  rw[List.cons_append,x7,x7];split
  ·exact xm l m s
  ·split
   ·exact xm l m (s+1)
   ·rfl
theorem qY:∀(l:List Int) (s t:Nat),x7 l s=some t→s≤t
 | [],s,t,h=>by cases h;exact Nat.le_refl _
 | e::l,s,t,h=>by
  rw[x7] at h;split at h
  ·exact qY l s t h
  ·split at h
   ·have:=qY l (s+1) t h;omega
   ·cases h
theorem scan_has:∀(l:List Int) (s t:Nat),x7 l s=some t→∀j:Nat,s≤j→j<t→∃b:Nat,l[b]? =some (j:Int)
 | [],s,t,h,j,h1,h2=>by cases h;omega
 | e::l,s,t,h,j,h1,h2=>by
  rw[x7] at h;split at h
  ·obtain⟨b,hb⟩:=scan_has l s t h j h1 h2;exact⟨b+1,hb⟩
  ·split at h
   ·rename_i he;by_cases hj:j=s
    ·exact⟨0,by rw[hj,←he];rfl⟩
    ·obtain⟨b,hb⟩:=scan_has l (s+1) t h j (by omega) h2;exact⟨b+1,hb⟩
   ·cases h
structure IsMin (F:List Nat→Int) (m:Dfa):Prop where
 ok:OkD m
 says:∀w,m.says 0 w=F w
 live:∀(k b:Nat),k<m.n→0≤m.to k b→∃w,m.says (m.to k b) w≠ -1
 apart:∀i k:Nat,i<k→k<m.n→∃w,m.says i w≠m.says k w
 num:∀k,k≤m.n→∃s,x7 ((m.next.take k).flatten) 1=some s∧(k<m.n→k<s)∧s≤m.n
theorem ZA {m m':Dfa} (ha:∀i k:Nat,i<k→k<m.n→∃w,m.says i w≠m.says k w) (ha':∀i k:Nat,i<k→k<m'.n→∃w,m'.says i w≠m'.says k w):
  ∀(r r':List Int) (s t t':Nat),r.length=r'.length →
   (∀(b:Nat) e e',r[b]? =some e→r'[b]? =some e'→ -1≤e∧ -1≤e'∧(∀w,m.says e w=m'.says e' w)∧(0≤e→∃w,m.says e w≠ -1)∧(0≤e'→∃w,m'.says e' w≠ -1)) →
   (∀i:Nat,i<s→∀w,m.says i w=m'.says i w)→x7 r s=some t→x7 r' s=some t'→t≤m.n→t'≤m'.n →
   r=r'∧t=t'∧∀i:Nat,i<t→∀w,m.says i w=m'.says i w
 | [],[],s,t,t',_,_,hI,h,h',_,_=>by
  cases h;cases h';exact⟨rfl,rfl,hI⟩
 | e::r,e'::r',s,t,t',hl,hQ,hI,h,h',ht,ht'=>by
  obtain⟨q1,q2,q3,q4,q5⟩:=hQ 0 e e' rfl rfl;have hl2:r.length=r'.length:=by simpa using hl
  have hQ2:∀(b:Nat) x x',r[b]? =some x→r'[b]? =some x'→_:=fun b x x' h1 h2=>hQ (b+1) x x' h1 h2;rw[x7] at h h';have hneg:e<0→e'<0:=fun h0=>by
   by_cases h1:0≤e'
   ·obtain⟨w,hw⟩:=q5 h1;exact absurd (by rw[←q3 w];exact jx m h0 w) hw
   ·omega
  have hneg':e'<0→e<0:=fun h0=>by
   by_cases h1:0≤e
   ·obtain⟨w,hw⟩:=q4 h1;exact absurd (by rw[q3 w];exact jx m' h0 w) hw
   ·omega
  by_cases c:e<(s:Int)
  ·rw[if_pos c] at h;have hst:=qY _ _ _ h;by_cases c':e'<(s:Int)
   ·rw[if_pos c'] at h';obtain⟨a1,a2,a3⟩:=ZA ha ha' r r' s t t' hl2 hQ2 hI h h' ht ht';refine⟨?_,a2,a3⟩;rw[a1];congr 1;by_cases h0:0≤e
    ·have h0':0≤e':=by
      by_cases h1:0≤e'
      ·exact h1
      ·have:=hneg' (by omega);omega
     obtain⟨i,rfl⟩:∃i:Nat,e=i:=⟨e.toNat,by omega⟩;obtain⟨k,rfl⟩:∃k:Nat,e'=k:=⟨e'.toNat,by omega⟩;have heq:∀w,m.says i w=m.says k w:=fun w=>(by rw[q3 w,hI k (by omega) w]);by_cases c1:i<k
     ·obtain⟨w,hw⟩:=ha i k c1 (by omega);exact absurd (heq w) hw
     by_cases c2:k<i
     ·obtain⟨w,hw⟩:=ha k i c2 (by omega);exact absurd (heq w).symm hw
     omega
    ·have:=hneg (by omega);omega
   ·rw[if_neg c'] at h';split at h'
    ·rename_i he;have hst':=qY _ _ _ h';have h0:0≤e:=by
      by_cases h1:0≤e
      ·exact h1
      ·have:=hneg (by omega);omega
     obtain⟨i,rfl⟩:∃i:Nat,e=i:=⟨e.toNat,by omega⟩;obtain⟨w,hw⟩:=ha' i s (by omega) (by omega);exact absurd (by rw[←hI i (by omega) w,q3 w,he]) hw
    ·cases h'
  ·rw[if_neg c] at h;split at h
   ·rename_i he;have hst:=qY _ _ _ h;by_cases c':e'<(s:Int)
    ·rw[if_pos c'] at h';have h0:0≤e':=by
      by_cases h1:0≤e'
      ·exact h1
      ·have:=hneg' (by omega);omega
     obtain⟨i,rfl⟩:∃i:Nat,e'=i:=⟨e'.toNat,by omega⟩;obtain⟨w,hw⟩:=ha i s (by omega) (by omega);exact absurd (by rw[hI i (by omega) w,←q3 w,he]) hw
    ·rw[if_neg c'] at h';split at h'
     ·rename_i he';have hI2:∀i:Nat,i<s+1→∀w,m.says i w=m'.says i w:=fun i hi w=>by
       by_cases c2:i=s
       ·have:=q3 w;rw[he,he'] at this;rw[c2];exact this
       ·exact hI i (by omega) w
      obtain⟨a1,a2,a3⟩:=ZA ha ha' r r' (s+1) t t' hl2 hQ2 hI2 h h' ht ht';exact⟨by rw[a1,he,he'],a2,a3⟩
     ·cases h'
   ·cases h
theorem flat_snoc {k:Nat} {l:List (List Int)} {r:List Int} (h:l[k]? =some r):(l.take (k+1)).flatten=(l.take k).flatten++r:=by
 rw[List.take_add_one,h,List.flatten_append];simp
section
variable {m m':Dfa} {F:List Nat→Int}
theorem IsMin.scan0 (h:IsMin F m) {s:Nat} {k:Nat} (hk:k≤m.n) (hs:x7 ((m.next.take k).flatten) 1=some s):(k<m.n→k<s)∧s≤m.n:=by
 obtain⟨t,h1,h2,h3⟩:=h.num k hk;rw[hs] at h1;cases h1;exact⟨h2,h3⟩
theorem min_rows (h:IsMin F m) (h':IsMin F m'):∀k,k≤m.n→k≤m'.n→m.next.take k=m'.next.take k∧∀s,x7 ((m.next.take k).flatten) 1=some s→∀i:Nat,i<s→∀w,m.says i w=m'.says i w
 | 0,_,_=>⟨rfl,fun s hs i hi w=>by
  rw[List.take_zero] at hs;cases hs;rw[show i=0 by omega];exact (h.says w).trans (h'.says w).symm⟩
 | k+1,hk,hk'=>by
  obtain⟨e1,e2⟩:=min_rows h h' k (by omega) (by omega);obtain⟨r,hr,hr1,hr2⟩:=h.ok.rowAt (k:=k) (by omega);obtain⟨r',hr',hr1',hr2'⟩:=h'.ok.rowAt (k:=k) (by omega);obtain⟨s,hs,hs1,_⟩:=h.num k (by omega);have hks:=hs1 (by omega);have hI:=e2 s hs;obtain⟨t,ht,_,ht3⟩:=h.num (k+1) hk;obtain⟨t',ht',_,ht3'⟩:=h'.num (k+1) hk';rw[flat_snoc hr,xm,hs] at ht;rw[flat_snoc hr',←e1,xm,hs] at ht';obtain⟨a1,a2,a3⟩:=ZA h.apart h'.apart r r' s t t' (by rw[hr1,hr1']) (fun b e e' hb hb'=>by
   have g:m.to k b=e:=(by rw[hr2 b,zj hb]);have g':m'.to k b=e':=(by rw[hr2' b,zj hb']);refine⟨by rw[←g];exact (h.ok.to_in _ _).1,by rw[←g'];exact (h'.ok.to_in _ _).1,fun w=> ?_,fun h0=> ?_,fun h0=> ?_⟩
   ·have:=hI k hks (b::w);rw[j9,j9,g,g'] at this;exact this
   ·rw[←g] at h0 ⊢;exact h.live k b (by omega) h0
   ·rw[←g'] at h0 ⊢;exact h'.live k b (by omega) h0) hI ht ht' ht3 ht3'
  refine⟨by rw[List.take_add_one,List.take_add_one,hr,hr',e1,a1],fun s2 hs2=> ?_⟩;rw[flat_snoc hr,xm,hs] at hs2;change x7 r s=some s2 at hs2;change x7 r s=some t at ht;rw[ht] at hs2;cases hs2;exact a3
theorem zF8 (h:IsMin F m) (h':IsMin F m') (hn:m.n≤m'.n):m'.n≤m.n:=by
 obtain⟨e1,_⟩:=min_rows h h' m.n (Nat.le_refl _) hn;obtain⟨s,hs,_,hs3⟩:=h.num m.n (Nat.le_refl _);rw[e1] at hs;have:=(h'.scan0 hn hs).1;omega
theorem Vb (h:IsMin F m) (h':IsMin F m'):m=m':=by
 have hn:m.n=m'.n:=by
  by_cases c:m.n≤m'.n
  ·have:=zF8 h h' c;omega
  ·have:=zF8 h' h (by omega);omega
 obtain⟨e1,e2⟩:=min_rows h h' m.n (Nat.le_refl _) (by omega);rw[show m.next.take m.n=m.next from List.take_of_length_le (Nat.le_refl _),show m'.next.take m.n=m'.next from List.take_of_length_le (by show m'.n≤m.n;omega)] at e1;obtain⟨s,hs,h3,hs3⟩:=h.num m.n (Nat.le_refl _);have hsn:∀k,k<m.n→k<s:=fun k hk=>by
  obtain⟨t,ht,ht2,_⟩:=h.num k (by omega);have h1:=ht2 hk;have h2:t≤s:=by
   have:m.next.take m.n=m.next.take k++(m.next.take m.n).drop k:=by
    have:=(List.take_append_drop k (m.next.take m.n)).symm
    rwa [List.take_take,Nat.min_eq_left (Nat.le_of_lt hk)] at this
   rw[this,List.flatten_append,xm,ht] at hs;exact qY _ _ _ hs
  omega
 have hI:=e2 s hs;have er:m.rule=m'.rule:=by
  refine List.ext_getElem? fun k=> ?_;by_cases hk:k<m.n
  ·have h1:=hI k (hsn k hk) [];rw[X6,X6] at h1;unfold Dfa.acc at h1;rw[if_pos (by omega),if_pos (by omega),Int.toNat_natCast,List.getD,List.getD] at h1;have a1:k<m.rule.length:=(by rw[h.ok.rules];exact hk);have a2:k<m'.rule.length:=(by rw[h'.ok.rules];omega);rw[List.getElem?_eq_getElem a1,List.getElem?_eq_getElem a2] at h1 ⊢;exact congrArg some h1
  ·rw[List.getElem?_eq_none (by rw[h.ok.rules];omega),List.getElem?_eq_none (by rw[h'.ok.rules];omega)]
 cases m;cases m';cases e1;cases er;rfl
end
end Go.Proofs.YtjeomlickkpebaaGreatDoor
namespace Go.Proofs.YtjeomlickkpebaaGreatDoor
theorem pig:∀(n m:Nat) (f:Nat→Nat),(∀i,i<n→f i<m)→(∀i k,i<k→k<n→f i≠f k)→n≤m
 | 0,m,_,_,_=>Nat.zero_le m
 | n+1,0,f,h,_=>absurd (h n (Nat.lt_succ_self n)) (by omega)
 | n+1,m+1,f,h,hi=>by
  have:=pig n m (fun i=>if f i=m then f n else f i) (fun i hl=>by
   show (if f i=m then f n else f i)<m;have h1:=h i (by omega);have h2:=h n (by omega);have h3:=hi i n hl (by omega);split<;>omega) (fun i k hik hk=>by
   show (if f i=m then f n else f i)≠(if f k=m then f n else f k);have h1:=hi i k hik (by omega);have h2:=hi i n (by omega) (by omega);have h3:=hi k n hk (by omega);split<;>split<;>omega)
  omega
section
variable {m d:Dfa} {F:List Nat→Int}
theorem IsMin.led (h:IsMin F m):∀k s,k≤m.n→x7 ((m.next.take k).flatten) 1=some s→∀j:Nat,j<s→∃w,ByL w∧m.run 0 w=j∧(j=0∨∃i b:Nat,i<m.n∧m.to i b=j)
 | 0,s,_,hs,j,hj=>by
  rw[List.take_zero] at hs;cases hs;exact⟨[],(fun b hb=>by cases hb),by show (0:Int)=_;omega,.inl (by omega)⟩
 | k+1,s,hk,hs,j,hj=>by
  obtain⟨r,hr,hr1,hr2⟩:=h.ok.rowAt (k:=k) (by omega);obtain⟨t,ht,ht1,_⟩:=h.num k (by omega);rw[flat_snoc hr,xm,ht] at hs;change x7 r t=some s at hs;by_cases c:j<t
  ·exact h.led k t (by omega) ht j c
  ·obtain⟨b,hb⟩:=scan_has r t s hs j (by omega) hj;have hb2:=(List.getElem?_eq_some_iff.1 hb).1;obtain⟨w,hw,hw2,_⟩:=h.led k t (by omega) ht k (ht1 (by omega));have hto:m.to k b=j:=(by rw[hr2 b,zj hb]);refine⟨w++ [b],fun c hc=> ?_,by rw[Jl,hw2];exact hto,.inr ⟨k,b,by omega,hto⟩⟩;rcases List.mem_append.1 hc with hc | hc
   ·exact hw c hc
   ·rw[List.mem_singleton.1 hc];omega
theorem IsMin.word (h:IsMin F m) (j:Nat) (hj:j<m.n):∃w,ByL w∧m.run 0 w=j∧(j=0∨∃v,m.says j v≠ -1):=by
 obtain⟨t,ht,ht1,_⟩:=h.num j (by omega);obtain⟨s,hs,_,hs3⟩:=h.num m.n (Nat.le_refl _);have hjs:j<s:=by
  have h1:=ht1 hj;have h2:t≤s:=by
   have:m.next.take m.n=m.next.take j++(m.next.take m.n).drop j:=by
    have:=(List.take_append_drop j (m.next.take m.n)).symm
    rwa [List.take_take,Nat.min_eq_left (Nat.le_of_lt hj)] at this
   rw[this,List.flatten_append,xm,ht] at hs;exact qY _ _ _ hs
  omega
 obtain⟨w,hw,hw2,h3⟩:=h.led m.n s (Nat.le_refl _) hs j hjs;refine⟨w,hw,hw2,h3.imp_right ?_⟩;rintro⟨i,b,hi,hto⟩;have:=h.live i b hi (by omega);rw[hto] at this;exact this
theorem K9 (h:IsMin F m) (hd:OkD d) (hs:∀w,d.says 0 w=F w):m.n≤d.n:=by
 have hw:∀k:Nat,∃w,k<m.n→m.run 0 w=k∧(k=0→w= [])∧(k=0∨∃v,m.says k v≠ -1):=fun k=>by
  by_cases hk:k<m.n
  ·by_cases h0:k=0
   ·exact⟨[],fun _=>⟨by show (0:Int)=_;omega,fun _=>rfl,.inl h0⟩⟩
   ·obtain⟨w,_,h1,h2⟩:=h.word k hk;exact⟨w,fun _=>⟨h1,fun e=>absurd e h0,h2⟩⟩
  ·exact⟨[],fun x=>absurd x hk⟩
 let W:=fun k=>Classical.choose (hw k);have hW:∀k,k<m.n→m.run 0 (W k)=k∧(k=0→W k= [])∧(k=0∨∃v,m.says k v≠ -1):=fun k=>Classical.choose_spec (hw k);have same:∀k:Nat,k<m.n→∀v,d.says (d.run 0 (W k)) v=m.says k v:=fun k hk v=>by
  have h1:=(hs (W k++v)).trans (h.says (W k++v)).symm;rw[Yf,Yf,(hW k hk).1] at h1;exact h1
 have hp:=hd.pos;have rin:∀k:Nat,k<m.n→0≤d.run 0 (W k)∧d.run 0 (W k)<(d.n:Int):=fun k hk=>by
  refine⟨?_,(hd.run_in _ 0 (by omega) (by omega)).2⟩;rcases (hW k hk).2.2 with h0 | ⟨v,hv⟩
  ·rw[(hW k hk).2.1 h0];exact Int.le_refl _
  ·by_cases c:0≤d.run 0 (W k)
   ·exact c
   ·exact absurd (by rw[←same k hk v];exact jx d (by omega) v) hv
 refine pig m.n d.n (fun k=>(d.run 0 (W k)).toNat) (fun i hi=> ?_) fun i k hik hk=> ?_
 ·have:=rin i hi;show (d.run 0 (W i)).toNat<d.n;omega
 ·show (d.run 0 (W i)).toNat≠(d.run 0 (W k)).toNat;intro e;have h1:=rin i (by omega);have h2:=rin k hk;have e2:d.run 0 (W i)=d.run 0 (W k):=by omega
  obtain⟨v,hv⟩:=h.apart i k hik hk;exact hv (by rw[←same i (by omega) v,←same k hk v,e2])
theorem IsMin.conv {G:List Nat→Int} (h:IsMin F m) (e:∀w,F w=G w):IsMin G m:=⟨h.ok,fun w=>(h.says w).trans (e w),h.live,h.apart,h.num⟩
def zFW (d:Dfa):List Nat→Int→Int→Int→Int→Int×Int×Int
 | [],_,i,long,rule=>(long,rule,i)
 | b::w,q,i,long,rule=>
  if d.to q b<0 then (long,rule,i)
  else if d.acc (d.to q b)<0 then zFW d w (d.to q b) (i+1) long rule
  else zFW d w (d.to q b) (i+1) (i+1) (d.acc (d.to q b))
def j4 (d:Dfa) (w:List Nat):Int×Int×Int:=zFW d w 0 0 0 (d.acc 0)
theorem OkD.acc_low (h:OkD d) (q:Int): -1≤d.acc q:=by
 unfold Dfa.acc;split
 ·by_cases hq:q.toNat<d.rule.length
  ·rw[zj (List.getElem?_eq_getElem hq)];exact h.low _ (List.getElem_mem hq)
  ·rw[xx (by omega)];exact Int.le_refl _
 ·exact Int.le_refl _
end
end Go.Proofs.YtjeomlickkpebaaGreatDoor
namespace Go.Proofs.YtjeomlickkpebaaGreatDoor
section
variable {α:Type}
def xH (same:α→α→Bool):List α→α→Nat→Int
 | [],_,_=> -1
 | x::xs,y,j=>if same x y=true then (j:Int) else xH same xs y (j+1)
theorem X7 {same:α→α→Bool} {y:α}:∀ {xs:List α} {j:Nat},xH same xs y j<0→∀(i:Nat) x,xs[i]? =some x→same x y=false
 | [],_,_,i,x,h=>by simp at h
 | z::xs,j,h,i,x,hx=>by
  rw[xH] at h;split at h
  ·omega
  ·rename_i hz;cases i with
   | zero=>cases hx;simpa using hz
   | succ i=>exact X7 h i x hx
theorem ZB {same:α→α→Bool} {y:α}:∀ {xs:List α} {j:Nat},0≤xH same xs y j→∃(i:Nat) (x:α),xH same xs y j=((j+i:Nat):Int)∧xs[i]? =some x∧same x y=true
 | [],_,h=>absurd (show (0:Int)≤ -1 from h) (by decide)
 | z::xs,j,h=>by
  rw[xH] at h ⊢;split
  ·rename_i hz;exact⟨0,z,rfl,rfl,hz⟩
  ·rename_i hz;rw[if_neg hz] at h;obtain⟨i,x,h1,h2,h3⟩:=ZB h;exact⟨i+1,x,by rw[h1];congr 1;omega,h2,h3⟩
theorem yj {same:α→α→Bool} {y:α}:∀(xs:List α) (j:Nat),-1≤xH same xs y j
 | [],_=>Int.le_refl _
 | z::xs,j=>by
  rw[xH];split
  ·omega
  ·exact yj xs (j+1)
theorem yX {same:α→α→Bool} {y:α}:∀(xs:List α) (j i:Nat) (x:α),xs[i]? =some x→same x y=true→(∀(k:Nat) z,k<i→xs[k]? =some z→same z y=false)→xH same xs y j=((j+i:Nat):Int)
 | [],_,_,_,h,_,_=>by simp at h
 | z::xs,j,0,x,h,hs,_=>by
  cases h;rw[xH,if_pos hs];rfl
 | z::xs,j,i+1,x,h,hs,hno=>by
  rw[xH,if_neg (by rw[hno 0 z (by omega) rfl];decide),yX xs (j+1) i x h hs fun k z hk hz=>hno (k+1) z (by omega) hz];congr 1;omega
theorem vQ {same:α→α→Bool} {y:α}:∀(xs:List α) (j:Nat),(∀(k:Nat) z,xs[k]? =some z→same z y=false)→xH same xs y j= -1
 | [],_,_=>rfl
 | z::xs,j,h=>by
  rw[xH,if_neg (by rw[h 0 z rfl];decide)];exact vQ xs (j+1) fun k z hz=>h (k+1) z hz
variable (step:α→Nat→α) (dead:α→Bool) (same:α→α→Bool)
def kT (x:α) (s:List α×List Int) (b:Nat):List α×List Int:=
 if dead (step x b)=true then (s.1,s.2++ [-1])
 else if xH same s.1 (step x b) 0<0 then (s.1++ [step x b],s.2++ [(s.1.length:Int)])
 else (s.1,s.2++ [xH same s.1 (step x b) 0])
def rowX (x:α) (xs:List α):Nat→List α×List Int
 | 0=>(xs,[])
 | b+1=>kT step dead same x (rowX x xs b) b
def goX (first:α):Nat→List α×List (List Int)
 | 0=>([first],[])
 | k+1=>match (goX first k).1[k]? with
  | some x=>((rowX step dead same x (goX first k).1 256).1,(goX first k).2++ [(rowX step dead same x (goX first k).1 256).2])
  | none=>goX first k
structure zF9 (G:α→Prop) (sem:α→List Nat→Int):Prop where
 step_good:∀x b,G x→b<256→dead (step x b)=false→G (step x b)
 step_sem:∀x b,G x→b<256→dead (step x b)=false→∀w,ByL w→sem (step x b) w=sem x (b::w)
 dead_sem:∀x b,G x→b<256→dead (step x b)=true→∀w,ByL w→sem x (b::w)= -1
 same_sem:∀x y,G x→G y→same x y=true→∀w,ByL w→sem x w=sem y w
structure zHT (G:α→Prop) (sem:α→List Nat→Int) (xs0:List α) (x:α) (done:List Int) (xs:List α) (row:List Int):Prop where
 pre:∃t,xs=xs0++t
 good:∀y,y∈xs→G y
 unlike:∀(i j:Nat) a b,i<j→xs[i]? =some a→xs[j]? =some b→same a b=false
 scan:x7 (done++row) 1=some xs.length
 ent:∀(b:Nat) e,row[b]? =some e→(e= -1∧dead (step x b)=true)∨∃(k:Nat) (y:α),e=k∧xs[k]? =some y∧dead (step x b)=false∧(y=step x b∨same y (step x b)=true)∧∀w,ByL w→sem y w=sem x (b::w)
variable {step dead same} {G:α→Prop} {sem:α→List Nat→Int}
theorem Q3 (H:zF9 step dead same G sem) {xs0:List α} {x:α} {done:List Int} (hx:G x) (h0:zHT step dead same G sem xs0 x done xs0 []):∀b,b≤256→zHT step dead same G sem xs0 x done (rowX step dead same x xs0 b).1 (rowX step dead same x xs0 b).2∧(rowX step dead same x xs0 b).2.length=b
 | 0,_=>⟨h0,rfl⟩
 | b+1,hb=>by
  obtain⟨h,hl⟩:=Q3 H hx h0 b (by omega);rw[rowX];generalize hs:rowX step dead same x xs0 b=s at h hl;obtain⟨xs,row⟩:=s;dsimp only at h hl
  have old:∀ {xs':List α} {e:Int},(∃t,xs'=xs++t)→((e= -1∧dead (step x b)=true)∨∃(k:Nat) (y:α),e=k∧xs'[k]? =some y∧dead (step x b)=false∧(y=step x b∨same y (step x b)=true)∧∀w,ByL w→sem y w=sem x (b::w)) →
    ∀(c:Nat) e',(row++ [e])[c]? =some e'→(e'= -1∧dead (step x c)=true)∨∃(k:Nat) (y:α),e'=k∧xs'[k]? =some y∧dead (step x c)=false∧(y=step x c∨same y (step x c)=true)∧∀w,ByL w→sem y w=sem x (c::w):=by
   intro xs' e hp he c e' hc;by_cases hcl:c<row.length
   ·rw[List.getElem?_append_left hcl] at hc;rcases h.ent c e' hc with h1 | ⟨k,y,h1,h2,h3⟩
    ·exact .inl h1
    ·obtain⟨t,rfl⟩:=hp;exact .inr ⟨k,y,h1,by rw[List.getElem?_append_left (List.getElem?_eq_some_iff.1 h2).1];exact h2,h3⟩
   ·have hlt:=(List.getElem?_eq_some_iff.1 hc).1;rw[List.length_append] at hlt;have hcb:c=b:=(by simp at hlt;omega);subst hcb;rw[List.getElem?_append_right (by omega),hl,Nat.sub_self] at hc;cases hc;exact he
  unfold kT;dsimp only;by_cases hd:dead (step x b)=true
  ·rw[if_pos hd];refine⟨⟨h.pre,h.good,h.unlike,?_,old ⟨[],by simp⟩ (.inl ⟨rfl,hd⟩)⟩,by simp[hl]⟩;rw[←List.append_assoc,xm,h.scan];show x7 [-1] _=_;rw[x7,if_pos (by omega)];rfl
  ·rw[if_neg hd];have hdf:dead (step x b)=false:=(by simpa using hd);have hy:=H.step_good x b hx (by omega) hdf;by_cases hf:xH same xs (step x b) 0<0
   ·rw[if_pos hf];refine⟨⟨?_,fun y hym=> ?_,fun i j a c hij hi hj=> ?_,?_,old ⟨[step x b],rfl⟩ (.inr ⟨xs.length,step x b,rfl,?_,hdf,.inl rfl,fun w hw=>H.step_sem x b hx (by omega) hdf w hw⟩)⟩,by simp[hl]⟩
    ·obtain⟨t,ht⟩:=h.pre;exact⟨t++ [step x b],by rw[ht,List.append_assoc]⟩
    ·rcases List.mem_append.1 hym with hym | hym
     ·exact h.good y hym
     ·rw[List.mem_singleton.1 hym];exact hy
    ·have hjl:=(List.getElem?_eq_some_iff.1 hj).1;rw[List.length_append] at hjl;simp at hjl;by_cases hc:j<xs.length
     ·rw[List.getElem?_append_left (by omega)] at hi;rw[List.getElem?_append_left hc] at hj;exact h.unlike i j a c hij hi hj
     ·rw[List.getElem?_append_left (by omega)] at hi;rw[show j=xs.length by omega,List.getElem?_append_right (Nat.le_refl _),Nat.sub_self] at hj;cases hj;exact X7 hf i a hi
    ·rw[←List.append_assoc,xm,h.scan];show x7 [(xs.length:Int)] xs.length=_;rw[x7,if_neg (by omega),if_pos rfl,x7,List.length_append];rfl
    ·rw[List.getElem?_append_right (Nat.le_refl _),Nat.sub_self];rfl
   ·rw[if_neg hf];obtain⟨i,y,h1,h2,h3⟩:=ZB (same:=same) (xs:=xs) (y:=step x b) (j:=0) (by omega);rw[Nat.zero_add] at h1;have hil:=(List.getElem?_eq_some_iff.1 h2).1;refine⟨⟨h.pre,h.good,h.unlike,?_,old ⟨[],by simp⟩ (.inr ⟨i,y,h1,h2,hdf,.inr h3,fun w hw=> ?_⟩)⟩,by simp[hl]⟩
    ·rw[←List.append_assoc,xm,h.scan,h1];show x7 [(i:Int)] xs.length=_;rw[x7,if_pos (by omega)];rfl
    ·rw[H.same_sem y (step x b) (h.good y (List.mem_of_getElem? h2)) hy h3 w hw];exact H.step_sem x b hx (by omega) hdf w hw
structure GoI (step:α→Nat→α) (dead:α→Bool) (same:α→α→Bool) (G:α→Prop) (sem:α→List Nat→Int) (first:α) (k:Nat) (xs:List α) (rows:List (List Int)):Prop where
 head:xs[0]? =some first
 len:rows.length=k
 le:k≤xs.length
 good:∀y,y∈xs→G y
 unlike:∀(i j:Nat) a b,i<j→xs[i]? =some a→xs[j]? =some b→same a b=false
 scan:x7 rows.flatten 1=some xs.length
 past:∀j,j<k→∃s,x7 ((rows.take j).flatten) 1=some s∧j<s∧s≤xs.length
 row:∀(j:Nat) r,rows[j]? =some r→r.length=256∧∃x,xs[j]? =some x∧∀(b:Nat) e,r[b]? =some e→(e= -1∧dead (step x b)=true)∨∃(i:Nat) (y:α),e=i∧xs[i]? =some y∧dead (step x b)=false∧(y=step x b∨same y (step x b)=true)∧∀w,ByL w→sem y w=sem x (b::w)
theorem kU (first:α) (h:G first):GoI step dead same G sem first 0 [first] [] where
 head:=rfl
 len:=rfl
 le:=Nat.zero_le _
 good:=fun y hy=>by rw[List.mem_singleton.1 hy];exact h
 unlike:=fun i j a b hij hi hj=>by
  have:=(List.getElem?_eq_some_iff.1 hj).1;simp at this;omega
 scan:=rfl
 past:=fun j hj=>absurd hj (by omega)
 row:=fun j r h=>by simp at h
theorem X8 {first x:α} {k:Nat} {xs:List α} {rows:List (List Int)} (h:GoI step dead same G sem first k xs rows):zHT step dead same G sem xs x rows.flatten xs [] where
 pre:=⟨[],by simp⟩
 good:=h.good
 unlike:=h.unlike
 scan:=by rw[List.append_nil];exact h.scan
 ent:=fun b e h=>by simp at h
theorem X9 (H:zF9 step dead same G sem) {first x:α} {k:Nat} {xs:List α} {rows:List (List Int)} (h:GoI step dead same G sem first k xs rows) (hx:xs[k]? =some x):
  GoI step dead same G sem first (k+1) (rowX step dead same x xs 256).1 (rows++ [(rowX step dead same x xs 256).2]):=by
 have hk:=(List.getElem?_eq_some_iff.1 hx).1;obtain⟨hr,hl⟩:=Q3 H (h.good x (List.mem_of_getElem? hx)) (X8 h) 256 (Nat.le_refl _);generalize rowX step dead same x xs 256=s at hr hl ⊢;obtain⟨ys,row⟩:=s;dsimp only at hr hl ⊢;obtain⟨t,ht⟩:=hr.pre;have hxy:∀(i:Nat) y,xs[i]? =some y→ys[i]? =some y:=fun i y hy=>by
  rw[ht,List.getElem?_append_left (List.getElem?_eq_some_iff.1 hy).1];exact hy
 have hyl:xs.length≤ys.length:=by rw[ht,List.length_append];omega
 exact {
  head:=hxy 0 _ h.head
  len:=by rw[List.length_append,h.len];rfl
  le:=by omega
  good:=hr.good
  unlike:=hr.unlike
  scan:=by rw[List.flatten_append];simpa using hr.scan
  past:=fun j hj=>by
   by_cases hjk:j<k
   ·obtain⟨s,h1,h2,h3⟩:=h.past j hjk;refine⟨s,?_,h2,by omega⟩;rw[List.take_append_of_le_length (by rw[h.len];omega)];exact h1
   ·have:j=k:=(by omega);subst this;refine⟨xs.length,?_,hk,hyl⟩;rw[List.take_append_of_le_length (by rw[h.len];omega),List.take_of_length_le (by rw[h.len];omega)];exact h.scan
  row:=fun j r hj=>by
   by_cases hjk:j<k
   ·rw[List.getElem?_append_left (by rw[h.len];exact hjk)] at hj;obtain⟨h1,z,h2,h3⟩:=h.row j r hj;refine⟨h1,z,hxy j z h2,fun b e he=> ?_⟩;rcases h3 b e he with h4 | ⟨i,y,h4,h5,h6⟩
    ·exact .inl h4
    ·exact .inr ⟨i,y,h4,hxy i y h5,h6⟩
   ·have hjl:=(List.getElem?_eq_some_iff.1 hj).1;rw[List.length_append,h.len] at hjl;simp at hjl;have:j=k:=(by omega);subst this;rw[List.getElem?_append_right (by rw[h.len];exact Nat.le_refl _),h.len,Nat.sub_self] at hj;cases hj;exact⟨hl,x,hxy _ x hx,hr.ent⟩}
section
variable {first:α} {xs:List α} {rows:List (List Int)} {acc:α→Int}
theorem Q4 (h:GoI step dead same G sem first xs.length xs rows) (hacc:∀x,G x→ -1≤acc x):OkD ⟨rows,xs.map acc⟩ where
 pos:=by
  have:=(List.getElem?_eq_some_iff.1 h.head).1;show 0<rows.length;rw[h.len];exact this
 rules:=by show (xs.map acc).length=rows.length;rw[List.length_map,h.len]
 row:=fun r hr=>by
  obtain⟨j,hj⟩:=List.mem_iff_getElem?.1 hr;exact (h.row j r hj).1
 into:=fun r hr e he=>by
  obtain⟨j,hj⟩:=List.mem_iff_getElem?.1 hr;obtain⟨b,hb⟩:=List.mem_iff_getElem?.1 he;obtain⟨_,x,_,h3⟩:=h.row j r hj;have hn:((⟨rows,xs.map acc⟩:Dfa).n:Int)=(xs.length:Int):=by
   show ((rows.length:Nat):Int)=_;rw[h.len]
  rcases h3 b e hb with ⟨rfl,_⟩ | ⟨i,y,rfl,h5,_⟩
  ·exact⟨Int.le_refl _,by omega⟩
  ·have:=(List.getElem?_eq_some_iff.1 h5).1;omega
 low:=fun r hr=>by
  obtain⟨x,hx,rfl⟩:=List.mem_map.1 hr;exact hacc x (h.good x hx)
theorem go_to (h:GoI step dead same G sem first xs.length xs rows) {j:Nat} {x:α} (hx:xs[j]? =some x) (b:Nat) (hb:b<256):
  ((⟨rows,xs.map acc⟩:Dfa).to j b= -1∧dead (step x b)=true)∨∃(i:Nat) (y:α),(⟨rows,xs.map acc⟩:Dfa).to j b=i∧xs[i]? =some y∧dead (step x b)=false∧(y=step x b∨same y (step x b)=true)∧∀w,ByL w→sem y w=sem x (b::w):=by
 have hj:=(List.getElem?_eq_some_iff.1 hx).1;have hr:rows[j]? =some (rows[j]'(by rw[h.len];exact hj)):=List.getElem?_eq_getElem _;obtain⟨h1,z,h2,h3⟩:=h.row j _ hr;rw[hx] at h2;cases h2;have hb2:(rows[j]'(by rw[h.len];exact hj))[b]? =some ((rows[j]'(by rw[h.len];exact hj))[b]'(by rw[h1];exact hb)):=List.getElem?_eq_getElem _;have ht:(⟨rows,xs.map acc⟩:Dfa).to j b=(rows[j]'(by rw[h.len];exact hj))[b]'(by rw[h1];exact hb):=by
  unfold Dfa.to;rw[if_pos (by omega),Int.toNat_natCast];show (rows.getD j []).getD b (-1)=_;rw[zj hr,zj hb2]
 rw[ht];exact h3 b _ hb2
theorem ZC (h:GoI step dead same G sem first xs.length xs rows) (hacc:∀x,G x→acc x=sem x []) (hdead:∀x b,G x→b<256→dead (step x b)=true→∀w,ByL w→sem x (b::w)= -1):∀(w:List Nat) (j:Nat) (x:α),ByL w→xs[j]? =some x→(⟨rows,xs.map acc⟩:Dfa).says j w=sem x w
 | [],j,x,_,hx=>by
  rw[X6];unfold Dfa.acc;rw[if_pos (by omega),Int.toNat_natCast];show (xs.map acc).getD j (-1)=_;rw[zj (by rw[List.getElem?_map,hx];rfl)];exact hacc x (h.good x (List.mem_of_getElem? hx))
 | b::w,j,x,hw,hx=>by
  rw[j9];rcases go_to (acc:=acc) h hx b hw.cons.1 with ⟨h1,h2⟩ | ⟨i,y,h1,h2,_,_,h4⟩
  ·rw[h1,jx _ (by decide)];exact (hdead x b (h.good x (List.mem_of_getElem? hx)) hw.cons.1 h2 w hw.cons.2).symm
  ·rw[h1,ZC h hacc hdead w i y hw.cons.2 h2];exact h4 w hw.cons.2
open Classical in
noncomputable def byF (f:List Nat→Int) (w:List Nat):Int:=if ByL w then f w else -1
theorem Ka (h:GoI step dead same G sem first xs.length xs rows) (H:zF9 step dead same G sem) (hacc:∀x,G x→acc x=sem x []) (hlow:∀x,G x→ -1≤acc x) (w:List Nat):(⟨rows,xs.map acc⟩:Dfa).says 0 w=byF (sem first) w:=by
 unfold byF;split
 ·rename_i hw;exact ZC h hacc H.dead_sem w 0 first hw h.head
 ·rename_i hw;exact (Q4 h hlow).says_big w 0 hw
theorem zHU (h:GoI step dead same G sem first xs.length xs rows) (H:zF9 step dead same G sem) (hacc:∀x,G x→acc x=sem x []) (hlow:∀x,G x→ -1≤acc x)
  (hlive:∀x b,G x→b<256→dead (step x b)=false→∃w,ByL w∧sem x (b::w)≠ -1) (hap:∀x y,G x→G y→same x y=false→∃w,ByL w∧sem x w≠sem y w):IsMin (byF (sem first)) ⟨rows,xs.map acc⟩ where
 ok:=Q4 h hlow
 says:=Ka h H hacc hlow
 live:=fun k b hk h0=>by
  have hk2:k<xs.length:=by rw[←h.len];exact hk
  have hx:xs[k]? =some xs[k]:=List.getElem?_eq_getElem hk2;have hb:b<256:=by
   by_cases c:b<256
   ·exact c
   ·rw[(Q4 h hlow).to_big k b (by omega)] at h0;exact absurd h0 (by decide)
  rcases go_to (acc:=acc) h hx b hb with ⟨h1,h2⟩ | ⟨i,y,h1,h2,h3,_,h4⟩
  ·omega
  ·obtain⟨w,hw,hne⟩:=hlive _ b (h.good _ (List.mem_of_getElem? hx)) hb h3;refine⟨w,?_⟩;rw[h1,ZC h hacc H.dead_sem w i y hw h2,h4 w hw];exact hne
 apart:=fun i k hik hk=>by
  have hk2:k<xs.length:=by rw[←h.len];exact hk
  have hx:xs[k]? =some xs[k]:=List.getElem?_eq_getElem hk2;have hi:xs[i]? =some (xs[i]'(by omega)):=List.getElem?_eq_getElem _;obtain⟨w,hw,hne⟩:=hap _ _ (h.good _ (List.mem_of_getElem? hi)) (h.good _ (List.mem_of_getElem? hx)) (h.unlike i k _ _ hik hi hx);exact⟨w,by rw[ZC h hacc H.dead_sem w i _ hw hi,ZC h hacc H.dead_sem w k _ hw hx];exact hne⟩
 num:=fun k hk=>by
  have hk2:k≤xs.length:=by rw[←h.len];exact hk
  have hn:(⟨rows,xs.map acc⟩:Dfa).n=xs.length:=h.len;rw[hn];by_cases c:k<xs.length
  ·obtain⟨s,h1,h2,h3⟩:=h.past k c;exact⟨s,h1,fun _=>h2,h3⟩
  ·refine⟨xs.length,?_,fun x=>absurd x c,Nat.le_refl _⟩;show x7 ((rows.take k).flatten) 1=_;rw[List.take_of_length_le (by rw[h.len];omega)];exact h.scan
end
end
end Go.Proofs.YtjeomlickkpebaaGreatDoor
namespace Go.Proofs.YtjeomlickkpebaaGreatDoor
section
variable (d:Dfa)
def toN (i b:Nat):Nat:=if i<d.n∧0≤d.to i b then (d.to i b).toNat else d.n
def ruN (i:Nat):Int:=if i<d.n then d.acc i else -1
def QM (i:Nat) (w:List Nat):Int:=if i<d.n then d.says i w else -1
def Zj (i k:Nat):Prop:=∃w,ByL w∧QM d i w≠QM d k w
structure zCU (A:Nat→Nat→Bool):Prop where
 sound:∀i k,i≤d.n→k≤d.n→A i k=true→Zj d i k
 rule:∀i k,i≤d.n→k≤d.n→ruN d i≠ruN d k→A i k=true
 closed:∀i k b,i≤d.n→k≤d.n→b<256→A i k=false→A (toN d i b) (toN d k b)=false
end
section
variable {d:Dfa}
theorem qZ (h:OkD d) (i b:Nat):toN d i b≤d.n:=by
 unfold toN;split
 ·have:=h.to_in i b;omega
 ·exact Nat.le_refl _
theorem jQ (i:Nat):QM d i []=ruN d i:=rfl
theorem Xa {i b:Nat} (hi:i<d.n) (h0:0≤d.to i b):toN d i b=(d.to i b).toNat:=if_pos ⟨hi,h0⟩
theorem ZD {i b:Nat} (h:¬(i<d.n∧0≤d.to i b)):toN d i b=d.n:=if_neg h
theorem Yg {i:Nat} (hi:i<d.n) (w:List Nat):QM d i w=d.says i w:=if_pos hi
theorem Jm {i:Nat} (hi:d.n≤i) (w:List Nat):QM d i w= -1:=if_neg (by omega)
theorem qa (h:OkD d) (i b:Nat) (w:List Nat):QM d (toN d i b) w=QM d i (b::w):=by
 have:=h.to_in i b;by_cases hi:i<d.n
 ·rw[Yg hi,j9];by_cases h0:0≤d.to i b
  ·rw[Xa hi h0,Yg (by omega),Int.toNat_of_nonneg h0]
  ·rw[ZD (by omega),Jm (Nat.le_refl _),jx d (by omega)]
 ·rw[ZD (by omega),Jm (Nat.le_refl _),Jm (by omega)]
theorem Yh (w:List Nat):QM d d.n w= -1:=if_neg (Nat.lt_irrefl _)
theorem Kb (h:OkD d) (i:Nat): -1≤ruN d i:=by
 unfold ruN;split
 ·exact h.acc_low i
 ·exact Int.le_refl _
theorem Zk (h:OkD d) {i k b:Nat} (hb:b<256) (ha:Zj d (toN d i b) (toN d k b)):Zj d i k:=by
 obtain⟨w,hw,hne⟩:=ha;refine⟨b::w,fun c hc=> ?_,by rw[←qa h,←qa h];exact hne⟩;rcases List.mem_cons.1 hc with rfl | hc
 ·exact hb
 ·exact hw c hc
variable {A:Nat→Nat→Bool}
theorem zCU.same (hA:zCU d A) (h:OkD d):∀(w:List Nat),ByL w→∀i k,i≤d.n→k≤d.n→A i k=false→QM d i w=QM d k w
 | [],_,i,k,hi,hk,ha=>by
  rw[jQ,jQ];exact Classical.byContradiction fun hne=>by rw[hA.rule i k hi hk hne] at ha;cases ha
 | b::w,hw,i,k,hi,hk,ha=>by
  rw[←qa h,←qa h];exact hA.same h w hw.cons.2 _ _ (qZ h i b) (qZ h k b) (hA.closed i k b hi hk hw.cons.1 ha)
def qz (d:Dfa) (A:Nat→Nat→Bool) (t:Nat):Bool:= !A t d.n
def xT (A:Nat→Nat→Bool) (i k:Nat):Bool:= !A i k
theorem Xb (hA:zCU d A) (h:OkD d):zF9 (toN d) (qz d A) (xT A) (fun i=>i<d.n) (QM d) where
 step_good:=fun x b _ _ hd=>by
  have h1:=qZ h x b;by_cases c:toN d x b=d.n
  ·unfold qz at hd;rw[c] at hd;obtain⟨w,_,hne⟩:=hA.sound d.n d.n (Nat.le_refl _) (Nat.le_refl _) (by simpa using hd);exact absurd rfl hne
  ·show toN d x b<d.n;omega
 step_sem:=fun x b _ _ _ w _=>qa h x b w
 dead_sem:=fun x b _ _ hd w hw=>by
  rw[←qa h,hA.same h w hw _ d.n (qZ h x b) (Nat.le_refl _) (by simpa [qz] using hd),Yh]
 same_sem:=fun x y hx hy hs w hw=>hA.same h w hw x y (Nat.le_of_lt hx) (Nat.le_of_lt hy) (by simpa [xT] using hs)
theorem zCV (h:OkD d) (w:List Nat):byF (QM d 0) w=d.says 0 w:=by
 unfold byF;have hp:=h.pos;split
 ·unfold QM;rw[if_pos hp];rfl
 ·rename_i hw;exact (h.says_big w 0 hw).symm
theorem zFA (hA:zCU d A) (h:OkD d) {xs:List Nat} {rows:List (List Int)} (hg:GoI (toN d) (qz d A) (xT A) (fun i=>i<d.n) (QM d) 0 xs.length xs rows):IsMin (d.says 0) ⟨rows,xs.map (ruN d)⟩:=by
 refine (zHU hg (Xb hA h) (fun x _=>(jQ x).symm) (fun x _=>Kb h x) (fun x b hx hb hd=> ?_) (fun x y hx hy hs=> ?_)).conv (zCV h)
 ·obtain⟨w,hw,hne⟩:=hA.sound (toN d x b) d.n (qZ h x b) (Nat.le_refl _) (by simpa [qz] using hd);refine⟨w,hw,?_⟩;rw[Yh,qa h] at hne;exact hne
 ·exact hA.sound x y (Nat.le_of_lt hx) (Nat.le_of_lt hy) (by simpa [xT] using hs)
end
end Go.Proofs.YtjeomlickkpebaaGreatDoor
namespace Go.Proofs.YtjeomlickkpebaaGreatDoor
structure Gl where
 null:Bool
 first:Nat→Bool
 last:Nat→Bool
 fol:Nat→Nat→Bool
def noF:Nat→Bool:=fun _=>false
def Yi:Nat→Nat→Bool:=fun _ _=>false
def kL (a:Nat):Nat→Bool:=fun i=>i==a
def orF (f g:Nat→Bool):Nat→Bool:=fun i=>f i||g i
def zm (F:Nat→Nat→Bool) (l f:Nat→Bool):Nat→Nat→Bool:=fun i j=>F i j||(l i&&f j)
def xu (F G:Nat→Nat→Bool):Nat→Nat→Bool:=fun i j=>F i j||G i j
def qe (p k:Gl):Gl:=⟨p.null&&k.null,if p.null=true then orF p.first k.first else p.first,if k.null=true then orF p.last k.last else k.last,zm (xu p.fol k.fol) p.last k.first⟩
def zQ (p k:Gl):Gl:=⟨p.null||k.null,orF p.first k.first,orF p.last k.last,xu p.fol k.fol⟩
def loopG (star:Bool) (k:Gl):Gl:=⟨k.null||star,k.first,k.last,zm k.fol k.last k.first⟩
def ZE (k:Gl):Gl:=⟨true,k.first,k.last,k.fol⟩
def xE:Gl:=⟨true,noF,noF,Yi⟩
def jA:Gl:=⟨false,noF,noF,Yi⟩
mutual
def zU:Nd→List St4
 | .mk k s l=>if k=1 then s::zL l else zL l
def zL:List Nd→List St4
 | []=> []
 | n::l=>zU n++zL l
end
mutual
def glN:Nd→Nat→Gl
 | .mk k _ l,a=>if k=1 then ⟨false,kL a,kL a,Yi⟩ else if k=2 then yf l a xE else if k=3 then yY l a jA else if k=4 then loopG true (Vc l a) else if k=5 then loopG false (Vc l a) else if k=6 then ZE (Vc l a) else xE
def yf:List Nd→Nat→Gl→Gl
 | [],_,p=>p
 | n::l,a,p=>yf l (a+(zU n).length) (qe p (glN n a))
def yY:List Nd→Nat→Gl→Gl
 | [],_,p=>p
 | n::l,a,p=>yY l (a+(zU n).length) (zQ p (glN n a))
def Vc:List Nd→Nat→Gl
 | [],_=>xE
 | n::_,a=>glN n a
end
def xX (F:Nat→Nat→Bool) (S:Nat→St4) (L:Nat→Bool):List Nat→Nat→Prop
 | [],p=>L p=true
 | b::w,p=>∃q,F p q=true∧xf (S q) b=true∧xX F S L w q
def xe (g:Gl) (S:Nat→St4):List Nat→Prop
 | []=>g.null=true
 | b::w=>∃q,g.first q=true∧xf (S q) b=true∧xX g.fol S g.last w q
structure InG (g:Gl) (a b:Nat):Prop where
 first:∀q,g.first q=true→a≤q∧q<b
 last:∀q,g.last q=true→a≤q∧q<b
 fol:∀p q,g.fol p q=true→(a≤p∧p<b)∧a≤q∧q<b
theorem InG.firstNo {g:Gl} {a b:Nat} (h:InG g a b) {q:Nat} (hq:q<a∨b≤q):g.first q=false:=by
 rcases e:g.first q with _ | _
 ·rfl
 ·have:=h.first q e;omega
theorem InG.lastNo {g:Gl} {a b:Nat} (h:InG g a b) {q:Nat} (hq:q<a∨b≤q):g.last q=false:=by
 rcases e:g.last q with _ | _
 ·rfl
 ·have:=h.last q e;omega
theorem InG.folNo {g:Gl} {a b:Nat} (h:InG g a b) {p q:Nat} (hq:p<a∨b≤p):g.fol p q=false:=by
 rcases e:g.fol p q with _ | _
 ·rfl
 ·have:=h.fol p q e;omega
theorem Xc (a b:Nat):InG xE a b:=⟨(fun q h=>by cases h),(fun q h=>by cases h),(fun p q h=>by cases h)⟩
theorem in_fail (a b:Nat):InG jA a b:=⟨(fun q h=>by cases h),(fun q h=>by cases h),(fun p q h=>by cases h)⟩
section
variable {p k:Gl} {a m c:Nat} {S:Nat→St4}
theorem zFB (hp:InG p a m) (hk:InG k m c) (h1:a≤m) (h2:m≤c):InG (qe p k) a c:=by
 refine⟨fun q e=> ?_,fun q e=> ?_,fun x y e=> ?_⟩
 ·simp only[qe] at e;split at e
  ·simp only[orF,Bool.or_eq_true] at e;rcases e with e | e
   ·have:=hp.first q e;omega
   ·have:=hk.first q e;omega
  ·have:=hp.first q e;omega
 ·simp only[qe] at e;split at e
  ·simp only[orF,Bool.or_eq_true] at e;rcases e with e | e
   ·have:=hp.last q e;omega
   ·have:=hk.last q e;omega
  ·have:=hk.last q e;omega
 ·simp only[qe,zm,xu,Bool.or_eq_true,Bool.and_eq_true] at e;rcases e with (e | e) | ⟨e,f⟩
  ·have:=hp.fol x y e;omega
  ·have:=hk.fol x y e;omega
  ·have:=hp.last x e;have:=hk.first y f;omega
theorem qV (hp:InG p a m):∀(w:List Nat) (q:Nat),InG k m c→m≤q→(xX (qe p k).fol S (qe p k).last w q↔xX k.fol S k.last w q)
 | [],q,hk,hq=>by
  have h1:=hp.lastNo (q:=q) (.inr hq);simp only[xX,qe];split
  ·simp[orF,h1]
  ·exact Iff.rfl
 | b::w,q,hk,hq=>by
  simp only[xX];refine exists_congr fun x=> ?_;have h1:=hp.lastNo (q:=q) (.inr hq);have h2:=hp.folNo (p:=q) (q:=x) (.inr hq);rw[show (qe p k).fol q x=k.fol q x by simp[qe,zm,xu,h1,h2]];constructor
  ·rintro⟨e,f,g⟩;exact⟨e,f,(qV hp w x hk (hk.fol _ _ e).2.1).1 g⟩
  ·rintro⟨e,f,g⟩;exact⟨e,f,(qV hp w x hk (hk.fol _ _ e).2.1).2 g⟩
theorem jy (hp:InG p a m) (hk:InG k m c):∀(w:List Nat) (q:Nat),q<m→(xX (qe p k).fol S (qe p k).last w q↔∃u v,w=u++v∧xX p.fol S p.last u q∧xe k S v)
 | [],q,hq=>by
  have h1:=hk.lastNo (q:=q) (.inl hq);simp only[xX,qe];constructor
  ·intro h;split at h
   ·rename_i hn;simp only[orF,h1,Bool.or_false] at h;exact⟨[],[],rfl,h,hn⟩
   ·rw[h1] at h;cases h
  ·rintro⟨u,v,e,hu,hv⟩;obtain⟨rfl,rfl⟩:=List.append_eq_nil_iff.1 e.symm;have hn:k.null=true:=hv;rw[if_pos hn];simp only[orF,h1,Bool.or_false];exact hu
 | b::w,q,hq=>by
  simp only[xX];constructor
  ·rintro⟨x,e,f,g⟩;simp only[qe,zm,xu,Bool.or_eq_true,Bool.and_eq_true] at e;rcases e with (e | e) | ⟨e,e2⟩
   ·obtain⟨u,v,rfl,hu,hv⟩:=(jy hp hk w x (hp.fol _ _ e).2.2).1 g;exact⟨b::u,v,rfl,⟨x,e,f,hu⟩,hv⟩
   ·rw[hk.folNo (.inl hq)] at e;cases e
   ·exact⟨[],b::w,rfl,e,x,e2,f,(qV hp w x hk (hk.first _ e2).1).1 g⟩
  ·rintro⟨u,v,e,hu,hv⟩
   match u,e,hu with
   | [],e,hu=>
    rw[List.nil_append] at e;subst e;obtain⟨x,e2,f,g⟩:=hv;have hl:p.last q=true:=hu;exact⟨x,by simp[qe,zm,hl,e2],f,(qV hp w x hk (hk.first _ e2).1).2 g⟩
   | d::u,e,hu=>
    rw[List.cons_append] at e;injection e with e1 e2
    subst e1 e2;obtain⟨x,e2,f,g⟩:=hu;exact⟨x,by simp[qe,zm,xu,e2],f,(jy hp hk _ x (hp.fol _ _ e2).2.2).2 ⟨u,v,rfl,g,hv⟩⟩
theorem zCW (hp:InG p a m) (hk:InG k m c) (w:List Nat):xe (qe p k) S w↔∃u v,w=u++v∧xe p S u∧xe k S v:=by
 match w with
 | []=>
  simp only[xe,qe,Bool.and_eq_true];constructor
  ·rintro⟨h1,h2⟩;exact⟨[],[],rfl,h1,h2⟩
  ·rintro⟨u,v,e,hu,hv⟩;obtain⟨rfl,rfl⟩:=List.append_eq_nil_iff.1 e.symm;exact⟨hu,hv⟩
 | b::w=>
  simp only[xe];constructor
  ·rintro⟨q,e,f,g⟩;have hcase:p.first q=true∨p.null=true∧k.first q=true:=by
    simp only[qe] at e;split at e
    ·rename_i hn;simp only[orF,Bool.or_eq_true] at e;exact e.elim .inl fun e=> .inr ⟨hn,e⟩
    ·exact .inl e
   rcases hcase with e | ⟨hn,e⟩
   ·obtain⟨u,v,rfl,hu,hv⟩:=(jy hp hk w q (hp.first _ e).2).1 g;exact⟨b::u,v,rfl,⟨q,e,f,hu⟩,hv⟩
   ·exact⟨[],b::w,rfl,hn,q,e,f,(qV hp w q hk (hk.first _ e).1).1 g⟩
  ·rintro⟨u,v,e,hu,hv⟩
   match u,e,hu with
   | [],e,hu=>
    rw[List.nil_append] at e;subst e;obtain⟨q,e2,f,g⟩:=hv;have hn:p.null=true:=hu;exact⟨q,by simp[qe,hn,orF,e2],f,(qV hp w q hk (hk.first _ e2).1).2 g⟩
   | d::u,e,hu=>
    rw[List.cons_append] at e;injection e with e1 e2
    subst e1 e2;obtain⟨q,e2,f,g⟩:=hu;exact⟨q,by simp only[qe];split<;>simp[orF,e2],f,(jy hp hk _ q (hp.first _ e2).2).2 ⟨u,v,rfl,g,hv⟩⟩
theorem Q5 (hp:InG p a m) (hk:InG k m c) (h1:a≤m) (h2:m≤c):InG (zQ p k) a c:=by
 refine⟨fun q e=> ?_,fun q e=> ?_,fun x y e=> ?_⟩
 ·simp only[zQ,orF,Bool.or_eq_true] at e;rcases e with e | e
  ·have:=hp.first q e;omega
  ·have:=hk.first q e;omega
 ·simp only[zQ,orF,Bool.or_eq_true] at e;rcases e with e | e
  ·have:=hp.last q e;omega
  ·have:=hk.last q e;omega
 ·simp only[zQ,xu,Bool.or_eq_true] at e;rcases e with e | e
  ·have:=hp.fol x y e;omega
  ·have:=hk.fol x y e;omega
theorem qR (hp:InG p a m) (hk:InG k m c):∀(w:List Nat) (q:Nat),q<m→(xX (zQ p k).fol S (zQ p k).last w q↔xX p.fol S p.last w q)
 | [],q,hq=>by simp[xX,zQ,orF,hk.lastNo (q:=q) (.inl hq)]
 | b::w,q,hq=>by
  simp only[xX];refine exists_congr fun x=> ?_;rw[show (zQ p k).fol q x=p.fol q x by simp[zQ,xu,hk.folNo (p:=q) (q:=x) (.inl hq)]];constructor
  ·rintro⟨e,f,g⟩;exact⟨e,f,(qR hp hk w x (hp.fol _ _ e).2.2).1 g⟩
  ·rintro⟨e,f,g⟩;exact⟨e,f,(qR hp hk w x (hp.fol _ _ e).2.2).2 g⟩
theorem qS (hp:InG p a m) (hk:InG k m c):∀(w:List Nat) (q:Nat),m≤q→(xX (zQ p k).fol S (zQ p k).last w q↔xX k.fol S k.last w q)
 | [],q,hq=>by simp[xX,zQ,orF,hp.lastNo (q:=q) (.inr hq)]
 | b::w,q,hq=>by
  simp only[xX];refine exists_congr fun x=> ?_;rw[show (zQ p k).fol q x=k.fol q x by simp[zQ,xu,hp.folNo (p:=q) (q:=x) (.inr hq)]];constructor
  ·rintro⟨e,f,g⟩;exact⟨e,f,(qS hp hk w x (hk.fol _ _ e).2.1).1 g⟩
  ·rintro⟨e,f,g⟩;exact⟨e,f,(qS hp hk w x (hk.fol _ _ e).2.1).2 g⟩
theorem Jn (hp:InG p a m) (hk:InG k m c) (w:List Nat):xe (zQ p k) S w↔xe p S w∨xe k S w:=by
 match w with
 | []=>simp[xe,zQ]
 | b::w=>
  simp only[xe];constructor
  ·rintro⟨q,e,f,g⟩;simp only[zQ,orF,Bool.or_eq_true] at e;rcases e with e | e
   ·exact .inl ⟨q,e,f,(qR hp hk w q (hp.first _ e).2).1 g⟩
   ·exact .inr ⟨q,e,f,(qS hp hk w q (hk.first _ e).1).1 g⟩
  ·rintro (⟨q,e,f,g⟩ | ⟨q,e,f,g⟩)
   ·exact⟨q,by simp[zQ,orF,e],f,(qR hp hk w q (hp.first _ e).2).2 g⟩
   ·exact⟨q,by simp[zQ,orF,e],f,(qS hp hk w q (hk.first _ e).1).2 g⟩
theorem Q6 {L:List Nat→Prop} {x:List Nat} (h:StarP L x):∀b w,x=b::w→∃u v,w=u++v∧L (b::u)∧StarP L v:=by
 induction h with
 | nil=>intro b w e;cases e
 | @cons u v hu hv ih=>
  intro b w e
  match u,hu,e with
  | [],_,e=>exact ih b w e
  | d::u,hu,e=>
   rw[List.cons_append] at e;injection e with e1 e2
   subst e1 e2;exact⟨u,v,rfl,hu,hv⟩
theorem Jo (star:Bool) (hk:InG k m c):InG (loopG star k) m c:=
 ⟨hk.first,hk.last,fun x y e=>by
  simp only[loopG,zm,Bool.or_eq_true,Bool.and_eq_true] at e;rcases e with e | ⟨e,f⟩
  ·exact hk.fol x y e
  ·exact⟨hk.last x e,hk.first y f⟩⟩
theorem Q7 (star:Bool):∀(w:List Nat) (q:Nat),xX (loopG star k).fol S k.last w q→∃u v,w=u++v∧xX k.fol S k.last u q∧StarP (xe k S) v
 | [],q,h=>⟨[],[],rfl,h,.nil⟩
 | b::w,q,⟨x,e,f,g⟩=>by
  obtain⟨u,v,rfl,hu,hv⟩:=Q7 star w x g;simp only[loopG,zm,Bool.or_eq_true,Bool.and_eq_true] at e;rcases e with e | ⟨e,e2⟩
  ·exact⟨b::u,v,rfl,⟨x,e,f,hu⟩,hv⟩
  ·exact⟨[],b::(u++v),rfl,e,.cons (u:=b::u) ⟨x,e2,f,hu⟩ hv⟩
theorem Jp (star:Bool) {v:List Nat} (hv:∀q,k.last q=true→xX (loopG star k).fol S k.last v q):∀(u:List Nat) (q:Nat),xX k.fol S k.last u q→xX (loopG star k).fol S k.last (u++v) q
 | [],q,h=>hv q h
 | b::u,q,⟨x,e,f,g⟩=>⟨x,by simp[loopG,zm,e],f,Jp star hv u x g⟩
theorem Vd (star:Bool) {v:List Nat} (h:StarP (xe k S) v):∀q,k.last q=true→xX (loopG star k).fol S k.last v q:=by
 induction h with
 | nil=>intro q h;exact h
 | @cons u v hu hv ih=>
  intro q h
  match u,hu with
  | [],_=>exact ih q h
  | b::u,⟨x,e,f,g⟩=>exact⟨x,by simp[loopG,zm,h,e],f,Jp star ih u x g⟩
theorem yM (star:Bool) (b:Nat) (w:List Nat):xe (loopG star k) S (b::w)↔∃u v,w=u++v∧xe k S (b::u)∧StarP (xe k S) v:=by
 constructor
 ·rintro⟨q,e,f,g⟩;obtain⟨u,v,rfl,hu,hv⟩:=Q7 star w q g;exact⟨u,v,rfl,⟨q,e,f,hu⟩,hv⟩
 ·rintro⟨u,v,rfl,⟨q,e,f,g⟩,hv⟩;exact⟨q,e,f,Jp star (Vd star hv) u q g⟩
theorem Kc (w:List Nat):xe (loopG true k) S w↔StarP (xe k S) w:=by
 match w with
 | []=>exact⟨fun _=> .nil,fun _=>by simp[xe,loopG]⟩
 | b::w=>
  rw[yM];constructor
  ·rintro⟨u,v,rfl,hu,hv⟩;exact .cons (u:=b::u) hu hv
  ·intro h;exact Q6 h b w rfl
theorem Kd (w:List Nat):xe (loopG false k) S w↔zFT (xe k S) w:=by
 match w with
 | []=>
  constructor
  ·intro h;exact⟨[],[],rfl,by simpa [xe,loopG] using h,.nil⟩
  ·rintro⟨u,v,e,hu,hv⟩;obtain⟨rfl,rfl⟩:=List.append_eq_nil_iff.1 e.symm;have hn:k.null=true:=hu;simp[xe,loopG,hn]
 | b::w=>
  rw[yM];constructor
  ·rintro⟨u,v,rfl,hu,hv⟩;exact⟨b::u,v,rfl,hu,hv⟩
  ·rintro⟨u,v,e,hu,hv⟩
   match u,e,hu with
   | [],e,_=>exact Q6 hv b w e.symm
   | d::u,e,hu=>
    rw[List.cons_append] at e;injection e with e1 e2
    subst e1 e2;exact⟨u,v,rfl,hu,hv⟩
end
def qK (S:Nat→St4) (a:Nat) (l:List St4):Prop:=∀i s,l[i]? =some s→S (a+i)=s
theorem qK.left {S:Nat→St4} {a:Nat} {l m:List St4} (h:qK S a (l++m)):qK S a l:=fun i s e=>h i s (by rw[List.getElem?_append_left (List.getElem?_eq_some_iff.1 e).1];exact e)
theorem qK.right {S:Nat→St4} {a:Nat} {l m:List St4} (h:qK S a (l++m)):qK S (a+l.length) m:=fun i s e=>by
 have:=h (l.length+i) s (by rw[List.getElem?_append_right (by omega),Nat.add_sub_cancel_left];exact e);rw[←this];congr 1;omega
structure Q8 (g:Gl) (a b:Nat) (S:Nat→St4) (L:List Nat→Prop):Prop where
 in_:InG g a b
 word:∀w,xe g S w↔L w
theorem Zl (S:Nat→St4) (w:List Nat):xe xE S w↔w= []:=by
 match w with
 | []=>simp[xe,xE]
 | b::w=>exact⟨(fun⟨_,e,_⟩=>by cases e),(fun h=>by cases h)⟩
theorem lang_fail (S:Nat→St4) (w:List Nat):xe jA S w↔False:=by
 match w with
 | []=>simp[xe,jA]
 | b::w=>exact⟨(fun⟨_,e,_⟩=>by cases e),(fun h=>h.elim)⟩
theorem ZF {L M:List Nat→Prop} (h:∀w,L w↔M w) (w:List Nat):StarP L w↔StarP M w:=by
 have:L=M:=funext fun x=>propext (h x);rw[this]
mutual
theorem zCX:∀(n:Nd),Z8 n=true→∀(a:Nat) (S:Nat→St4),qK S a (zU n)→Q8 (glN n a) a (a+(zU n).length) S (xj n)
 | .mk k s l,h,a,S,hS=>by
  obtain⟨h1,h2⟩:=qw h;obtain⟨f0,f6,f1,f4,f2,fs⟩:=qx h1;by_cases k1:k=1
  ·have e1:l= []:=List.eq_nil_of_length_eq_zero (f1 (by omega));subst e1 k1;rw[zU,if_pos rfl,zL] at hS ⊢;rw[glN,if_pos rfl];have hs:S a=s:=hS 0 s rfl;refine⟨⟨fun q e=> ?_,fun q e=> ?_,fun x y e=>by cases e⟩,fun w=> ?_⟩
   ·have:q=a:=(by simpa [kL] using e);simp;omega
   ·have:q=a:=(by simpa [kL] using e);simp;omega
   ·rw[xj,if_pos rfl]
    match w with
    | []=>exact⟨(fun e=>by cases e),(fun⟨b,e,_⟩=>by cases e)⟩
    | b::w=>
     constructor
     ·rintro⟨q,e,f,g⟩;have e:q=a:=(by simpa [kL] using e);subst e;rw[hs] at f
      match w,g with
      | [],_=>exact⟨b,rfl,f⟩
      | c::w,⟨x,e,_⟩=>cases e
     ·rintro⟨c,e,f⟩;injection e with e1 e2
      subst e1 e2;exact⟨a,by simp[kL],by rw[hs];exact f,by simp[xX,kL]⟩
  rw[zU,if_neg k1] at hS ⊢;rw[glN,if_neg k1];by_cases k2:k=2
  ·rw[if_pos k2];obtain⟨i1,i2⟩:=zFC l h2 a a (Nat.le_refl _) S hS xE (fun w=>w= []) ⟨Xc a a,Zl S⟩;refine⟨i1,fun w=>(i2 w).trans ?_⟩;rw[xj,if_neg k1,if_pos k2];constructor
   ·rintro⟨u,v,rfl,rfl,h⟩;exact h
   ·intro h;exact⟨[],w,rfl,rfl,h⟩
  rw[if_neg k2];by_cases k3:k=3
  ·rw[if_pos k3];obtain⟨i1,i2⟩:=zFD l h2 a a (Nat.le_refl _) S hS jA (fun _=>False) ⟨in_fail a a,lang_fail S⟩;refine⟨i1,fun w=>(i2 w).trans ?_⟩;rw[xj,if_neg k1,if_neg k2,if_pos k3,false_or]
  rw[if_neg k3];by_cases k4:k=4
  ·rw[if_pos k4];obtain⟨i1,i2⟩:=Ke l (by omega) h2 a S hS;refine⟨Jo _ i1,fun w=>(Kc w).trans ?_⟩;rw[xj,if_neg k1,if_neg k2,if_neg k3,if_pos k4];exact ZF i2 w
  rw[if_neg k4];by_cases k5:k=5
  ·rw[if_pos k5];obtain⟨i1,i2⟩:=Ke l (by omega) h2 a S hS;refine⟨Jo _ i1,fun w=>(Kd w).trans ?_⟩;rw[xj,if_neg k1,if_neg k2,if_neg k3,if_neg k4,if_pos k5];exact exists_congr fun u=>exists_congr fun v=>and_congr Iff.rfl (and_congr (i2 u) (ZF i2 v))
  rw[if_neg k5];by_cases k6:k=6
  ·rw[if_pos k6];obtain⟨i1,i2⟩:=Ke l (by omega) h2 a S hS;refine⟨⟨i1.first,i1.last,i1.fol⟩,fun w=> ?_⟩;rw[xj,if_neg k1,if_neg k2,if_neg k3,if_neg k4,if_neg k5,if_pos k6,←i2 w]
   match w with
   | []=>simp[xe,ZE]
   | b::w=>exact⟨.inr,fun h=>h.elim (fun e=>by cases e) id⟩
  rw[if_neg k6];have k0:k=0:=by omega
  have e1:l= []:=List.eq_nil_of_length_eq_zero (f1 (by omega));refine⟨Xc _ _,fun w=> ?_⟩;rw[xj,if_neg k1,if_neg k2,if_neg k3,if_neg k4,if_neg k5,if_neg k6];exact Zl S w
theorem zFC:∀(l:List Nd),qu l=true→∀(a0 a:Nat),a0≤a→∀(S:Nat→St4),qK S a (zL l)→∀(p:Gl) (L:List Nat→Prop),Q8 p a0 a S L→Q8 (yf l a p) a0 (a+(zL l).length) S (fun w=>∃u v,w=u++v∧L u∧Z9 l v)
 | [],_,a0,a,h0,S,_,p,L,hp=>by
  rw[yf,zL];refine⟨hp.in_,fun w=>(hp.word w).trans ?_⟩;constructor
  ·intro h;exact⟨w,[],(List.append_nil _).symm,h,by rw[Z9]⟩
  ·rintro⟨u,v,rfl,hu,hv⟩;rw[Z9] at hv;subst hv;rw[List.append_nil];exact hu
 | n::l,h,a0,a,h0,S,hS,p,L,hp=>by
  rw[qu,Bool.and_eq_true] at h;rw[zL] at hS ⊢;rw[yf];obtain⟨i1,i2⟩:=zCX n h.1 a S hS.left;have hseq:Q8 (qe p (glN n a)) a0 (a+(zU n).length) S (fun w=>∃u v,w=u++v∧L u∧xj n v):=⟨zFB hp.in_ i1 h0 (by omega),fun w=>(zCW hp.in_ i1 w).trans (exists_congr fun u=>exists_congr fun v=>and_congr Iff.rfl (and_congr (hp.word u) (i2 v)))⟩;obtain⟨j1,j2⟩:=zFC l h.2 a0 _ (by omega) S hS.right _ _ hseq;refine⟨by rw[List.length_append,←Nat.add_assoc];exact j1,fun w=>(j2 w).trans ?_⟩;constructor
  ·rintro⟨x,v,rfl,⟨u,y,rfl,hu,hy⟩,hv⟩;exact⟨u,y++v,by rw[List.append_assoc],hu,by rw[Z9];exact⟨y,v,rfl,hy,hv⟩⟩
  ·rintro⟨u,x,rfl,hu,hx⟩;rw[Z9] at hx;obtain⟨y,v,rfl,hy,hv⟩:=hx;exact⟨u++y,v,by rw[List.append_assoc],⟨u,y,rfl,hu,hy⟩,hv⟩
theorem zFD:∀(l:List Nd),qu l=true→∀(a0 a:Nat),a0≤a→∀(S:Nat→St4),qK S a (zL l)→∀(p:Gl) (L:List Nat→Prop),Q8 p a0 a S L→Q8 (yY l a p) a0 (a+(zL l).length) S (fun w=>L w∨Za l w)
 | [],_,a0,a,h0,S,_,p,L,hp=>by
  rw[yY,zL];exact⟨hp.in_,fun w=>(hp.word w).trans (by rw[Za,or_false])⟩
 | n::l,h,a0,a,h0,S,hS,p,L,hp=>by
  rw[qu,Bool.and_eq_true] at h;rw[zL] at hS ⊢;rw[yY];obtain⟨i1,i2⟩:=zCX n h.1 a S hS.left;have hseq:Q8 (zQ p (glN n a)) a0 (a+(zU n).length) S (fun w=>L w∨xj n w):=⟨Q5 hp.in_ i1 h0 (by omega),fun w=>(Jn hp.in_ i1 w).trans (or_congr (hp.word w) (i2 w))⟩;obtain⟨j1,j2⟩:=zFD l h.2 a0 _ (by omega) S hS.right _ _ hseq;exact⟨by rw[List.length_append,←Nat.add_assoc];exact j1,fun w=>(j2 w).trans (by rw[Za,or_assoc])⟩
theorem Ke:∀(l:List Nd),l.length=1→qu l=true→∀(a:Nat) (S:Nat→St4),qK S a (zL l)→Q8 (Vc l a) a (a+(zL l).length) S (QZ l)
 | [],h,_,_,_,_=>by cases h
 | [n],_,h,a,S,hS=>by
  rw[qu,Bool.and_eq_true] at h;rw[zL,zL,List.append_nil] at hS ⊢;rw[Vc];obtain⟨i1,i2⟩:=zCX n h.1 a S hS;exact⟨i1,fun w=>(i2 w).trans (by rw[QZ])⟩
 | _::_::_,h,_,_,_,_=>by cases h
end
end Go.Proofs.YtjeomlickkpebaaGreatDoor
namespace Go.Proofs.YtjeomlickkpebaaGreatDoor
def LangR (l:List Nd) (w:List Nat) (j:Nat):Prop:=∃n,l[j]? =some n∧xj n w
def vR (l:List Nd):Prop:=∀n,n∈l→Z8 n=true∧wfR n
def qD:List Nd→Nat→List Sta→List Int→List Sta×List Int
 | [],_,q,first=>(q,first)
 | n::l,j,q,first=>qD l (j+1) (buildT n (q++ [endS j]) q.length).1 (first++ [((buildT n (q++ [endS j]) q.length).2:Int)])
def zt (l:List Nd):List Sta×List Int:=qD l 0 [] []
structure zCY (q:List Sta) (first:List Int) (l:List Nd):Prop where
 ok:∀(i:Nat) (s:Sta),q[i]? =some s→Zh q.length s
 in_:InQ q first
 len:first.length=l.length
 word:∀(Q:List Sta),(∀i,i<q.length→Q[i]? =q[i]?)→∀(j:Nat) (n:Nd) (a:Int),l[j]? =some n→first[j]? =some a→∀w r,(∃k,yL Q a.toNat w r k)↔xj n w∧r=j
theorem zCZ:zCY [] [] []:=⟨(fun i s h=>by simp at h),(fun a h=>by cases h),rfl,fun Q _ j n a h=>by simp at h⟩
theorem Kf {q:List Sta} {first:List Int} {l:List Nd} (h:zCY q first l) (n:Nd) (hm:Z8 n=true) (hw:wfR n):
  zCY (buildT n (q++ [endS l.length]) q.length).1 (first++ [((buildT n (q++ [endS l.length]) q.length).2:Int)]) (l++ [n]):=by
 have hb:=xl n hm hw (q++ [endS l.length]) q.length;have hlen:(q++ [endS l.length]).length=q.length+1:=by rw[List.length_append];rfl
 generalize (buildT n (q++ [endS l.length]) q.length).1=q1 at hb;generalize (buildT n (q++ [endS l.length]) q.length).2=a1 at hb;have h1:=hb.len;rw[hlen] at h1;have hat:=hb.atlt (by omega);refine⟨fun i s hs=> ?_,fun a ha=> ?_,by rw[List.length_append,List.length_append,h.len];rfl,fun Q hQ j m a hj ha w r=> ?_⟩
 ·by_cases c1:i<q.length
  ·rw[hb.same i (by omega),zv c1] at hs;exact (h.ok i s hs).mono (by omega)
  ·by_cases c2:i=q.length
   ·rw[c2,hb.same _ (by omega),zz] at hs;cases hs;exact⟨by show 0<_;omega,by show 0<_;omega,by show 2<3;omega,ok_no⟩
   ·exact hb.ok (by omega) i s (by omega) hs
 ·rw[List.mem_append,List.mem_singleton] at ha;rcases ha with ha | ha
  ·have:=h.in_ a ha;omega
  ·omega
 ·by_cases c:j<l.length
  ·rw[List.getElem?_append_left c] at hj;rw[List.getElem?_append_left (by rw[h.len];exact c)] at ha;exact h.word Q (fun i hi=>by rw[hQ i (by omega),hb.same i (by omega),zv hi]) j m a hj ha w r
  ·have hjl:=(List.getElem?_eq_some_iff.1 hj).1;rw[List.length_append] at hjl;have e:j=l.length:=(by simp at hjl;omega);subst e;rw[List.getElem?_append_right (Nat.le_refl _),Nat.sub_self] at hj;rw[List.getElem?_append_right (by rw[h.len];exact Nat.le_refl _),h.len,Nat.sub_self] at ha;cases hj;cases ha;rw[Int.toNat_natCast];have hq:Q[q.length]? =some (endS l.length):=(by rw[hQ _ (by omega),hb.same _ (by omega),zz]);constructor
   ·rintro⟨k,g⟩;obtain⟨u,v,k',rfl,hu,g',_⟩:=hb.fwd Q (fun i _ hi=>hQ i hi) w r k g;obtain⟨rfl,e⟩:=zCR hq g';rw[List.append_nil];exact⟨hu,e⟩
   ·rintro⟨hl,rfl⟩;obtain⟨k',g'⟩:=hb.bwd Q (fun i _ hi=>hQ i hi) w [] l.length 0 hl (.fin hq rfl);rw[List.append_nil] at g';exact⟨k',g'⟩
theorem Yj:∀(l done:List Nd) (q:List Sta) (first:List Int),vR l→zCY q first done→zCY (qD l done.length q first).1 (qD l done.length q first).2 (done++l)
 | [],done,q,first,_,h=>by rw[qD,List.append_nil];exact h
 | n::l,done,q,first,hg,h=>by
  rw[qD];have h1:=Kf h n (hg n (by simp)).1 (hg n (by simp)).2;have:=Yj l (done++ [n]) _ _ (fun m hm=>hg m (by simp[hm])) h1;rw[List.append_assoc,List.length_append] at this;exact this
theorem Xd (l:List Nd) (hg:vR l):zCY (zt l).1 (zt l).2 l:=Yj l [] [] [] hg zCZ
theorem Q9:∀(l:List Nd) (j:Nat) (q:List Sta) (first:List Int),(qD l j q first).1.length≤q.length+2*wtL l+l.length
 | [],_,q,_=>by rw[qD];simp[wtL]
 | n::l,j,q,first=>by
  rw[qD,wtL,List.length_cons];have:=Q9 l (j+1) (buildT n (q++ [endS j]) q.length).1 (first++ [((buildT n (q++ [endS j]) q.length).2:Int)]);have:=xZ n (q++ [endS j]) q.length;rw[List.length_append] at this;simp only[List.length_cons,List.length_nil] at this;omega
theorem zD0 {q:List Sta} {first:List Int} {l:List Nd} (h:zCY q first l) (w:List Nat) (r:Nat):zCK q first w r↔LangR l w r:=by
 constructor
 ·rintro⟨a,ha,h0,k,g⟩;obtain⟨j,hj⟩:=List.getElem?_of_mem ha;obtain⟨n,hn⟩:∃n,l[j]? =some n:=⟨_,List.getElem?_eq_getElem (by rw[←h.len];exact (List.getElem?_eq_some_iff.1 hj).1)⟩;obtain⟨h1,rfl⟩:=(h.word q (fun _ _=>rfl) j n a hn hj w r).1 ⟨k,g⟩;exact⟨n,hn,h1⟩
 ·rintro⟨n,hn,hl⟩;obtain⟨a,ha⟩:∃a,first[r]? =some a:=⟨_,List.getElem?_eq_getElem (by rw[h.len];exact (List.getElem?_eq_some_iff.1 hn).1)⟩;obtain⟨k,g⟩:=(h.word q (fun _ _=>rfl) r n a hn ha w r).2 ⟨hl,rfl⟩;have hm:=List.mem_of_getElem? ha;exact⟨a,hm,(h.in_ a hm).1,k,g⟩
def xO (q:List Sta):List Nat→List Int→List Int
 | [],l=>l
 | b::w,l=>xO q w (zy q b l)
theorem jz (q:List Sta):∀(w:List Nat) (b:Nat) (l:List Int),xO q (w++ [b]) l=zy q b (xO q w l)
 | [],b,l=>rfl
 | c::w,b,l=>by rw[List.cons_append,xO,xO,jz q w b]
theorem Xe {q:List Sta} (hq:∀(i:Nat) (s:Sta),q[i]? =some s→Zh q.length s):∀(u:List Nat) (l:List Int),InQ q l→vt q l→InQ q (xO q u l)∧vt q (xO q u l)∧∀w r,zCK q (xO q u l) w r↔zCK q l (u++w) r
 | [],l,h1,h2=>⟨h1,h2,fun _ _=>Iff.rfl⟩
 | b::u,l,h1,h2=>by
  obtain⟨s1,s2,s3⟩:=K6 q hq b l h2;obtain⟨t1,t2,t3⟩:=Xe hq u _ s1 s2;exact⟨t1,t2,fun w r=>(t3 w r).trans (s3 (u++w) r)⟩
theorem zD1 {q:List Sta} {first:List Int} {l:List Nd} (h:zCY q first l) (w:List Nat):qg (LangR l w) (accP q (xO q w (reachP q first)) (-1)):=by
 obtain⟨r1,r2,r3⟩:=kS q h.ok first h.in_;obtain⟨s1,s2,s3⟩:=Xe h.ok w _ r1 r2;refine (Va q _ s2).conv fun j=> ?_;rw[s3 [] j,List.append_nil,r3 w j];exact zD0 h w j
structure RuN where
 m:Nat
 sets:List St4
 behind:Nat→Nat→Bool
 last:Nat→Bool
def zR (n:Nd):RuN:=⟨(zU n).length+1,noR::zU n,fun p q=>if p=0 then (glN n 1).first q else (glN n 1).fol p q,fun p=>if p=0 then (glN n 1).null else (glN n 1).last p⟩
def QN (f:Nat→Bool):Nat→Bool
 | 0=>false
 | n+1=>QN f n||f n
theorem qp (f:Nat→Bool):∀n,QN f n=true↔∃i,i<n∧f i=true
 | 0=>⟨(fun h=>by cases h),(fun⟨i,h,_⟩=>absurd h (by omega))⟩
 | n+1=>by
  rw[QN,Bool.or_eq_true,qp f n];constructor
  ·rintro (⟨i,h,e⟩ | e)
   ·exact⟨i,by omega,e⟩
   ·exact⟨n,by omega,e⟩
  ·rintro⟨i,h,e⟩;by_cases c:i=n
   ·subst c;exact .inr e
   ·exact .inl ⟨i,by omega,e⟩
def jB:Nat→Bool:=kL 0
def setAt (l:List St4) (i:Nat):St4:=l.getD i noR
def QO (r:RuN) (at_:Nat→Bool):Nat→Nat→Bool
 | 0=>noF
 | k+1=>if at_ k=true then orF (QO r at_ k) (r.behind k) else QO r at_ k
theorem ja (r:RuN) (at_:Nat→Bool) (q:Nat):∀k,QO r at_ k q=true↔∃p,p<k∧at_ p=true∧r.behind p q=true
 | 0=>⟨(fun h=>by cases h),(fun⟨i,h,_⟩=>absurd h (by omega))⟩
 | k+1=>by
  rw[QO];split
  ·rename_i h;rw[orF,Bool.or_eq_true,ja r at_ q k];constructor
   ·rintro (⟨i,h,e⟩ | e)
    ·exact⟨i,by omega,e⟩
    ·exact⟨k,by omega,h,e⟩
   ·rintro⟨i,h2,e⟩;by_cases c:i=k
    ·subst c;exact .inr e.2
    ·exact .inl ⟨i,by omega,e⟩
  ·rename_i h;rw[ja r at_ q k];constructor
   ·rintro⟨i,h,e⟩;exact⟨i,by omega,e⟩
   ·rintro⟨i,h2,e⟩;by_cases c:i=k
    ·subst c;exact absurd e.1 h
    ·exact⟨i,by omega,e⟩
def qI (r:RuN) (at_:Nat→Bool) (b:Nat):Nat→Bool:=fun q=>QO r at_ r.m q&&(decide (0<q)&&xf (setAt r.sets q) b)
def jC (r:RuN) (at_:Nat→Bool):Bool:=QN (fun p=>at_ p&&r.last p) r.m
def vS (r:RuN) (at_:Nat→Bool):Bool:=QN at_ r.m
def Kg (r:RuN) (at_:Nat→Bool) (w:List Nat):Prop:=∃p,p<r.m∧at_ p=true∧xX r.behind (setAt r.sets) r.last w p
structure zD2 (r:RuN) (L:List Nat→Prop):Prop where
 pos:0<r.m
 len:r.sets.length=r.m
 to:∀p q,r.behind p q=true→0<q∧q<r.m
 lt:∀p,r.last p=true→p<r.m
 sets:∀s,s∈r.sets→OkR s
 word:∀w,Kg r jB w↔L w
mutual
theorem sets_wf:∀(n:Nd),wfR n→∀s,s∈zU n→OkR s
 | .mk k t l,h,s,hs=>by
  rw[wfR] at h;rw[zU] at hs;split at hs
  ·rcases List.mem_cons.1 hs with rfl | hs
   ·exact h.1
   ·exact setsL_wf l h.2 s hs
  ·exact setsL_wf l h.2 s hs
theorem setsL_wf:∀(l:List Nd),wfL l→∀s,s∈zL l→OkR s
 | [],_,s,hs=>by cases hs
 | n::l,h,s,hs=>by
  rw[wfL] at h;rw[zL,List.mem_append] at hs;rcases hs with hs | hs
  ·exact sets_wf n h.1 s hs
  ·exact setsL_wf l h.2 s hs
end
theorem rule_ok (n:Nd) (hm:Z8 n=true) (hw:wfR n):zD2 (zR n) (xj n):=by
 have hset:qK (setAt (noR::zU n)) 1 (zU n):=fun i s h=>by
  unfold setAt;rw[Nat.add_comm,List.getD_cons_succ,List.getD_eq_getElem?_getD,h];rfl
 obtain⟨g1,g2⟩:=zCX n hm 1 _ hset;have hpath:∀(w:List Nat) (p:Nat),0<p→(xX (zR n).behind (setAt (noR::zU n)) (zR n).last w p↔xX (glN n 1).fol (setAt (noR::zU n)) (glN n 1).last w p):=by
  intro w
  induction w with
  | nil=>
   intro p hp;simp only[xX,zR];rw[if_neg (by omega)]
  | cons b w ih=>
   intro p hp;simp only[xX];refine exists_congr fun q=> ?_;rw[show (zR n).behind p q=(glN n 1).fol p q by simp only[zR];rw[if_neg (by omega)]];constructor
   ·rintro⟨e,f,g⟩;exact⟨e,f,(ih q (by have:=(g1.fol _ _ e).2;omega)).1 g⟩
   ·rintro⟨e,f,g⟩;exact⟨e,f,(ih q (by have:=(g1.fol _ _ e).2;omega)).2 g⟩
 refine⟨Nat.succ_pos _,rfl,fun p q e=> ?_,fun p e=> ?_,fun s hs=> ?_,fun w=> ?_⟩
 ·simp only[zR] at e ⊢;split at e
  ·have:=g1.first q e;omega
  ·have:=(g1.fol p q e).2;omega
 ·simp only[zR] at e ⊢;split at e
  ·omega
  ·have:=g1.last p e;omega
 ·rcases List.mem_cons.1 hs with rfl | hs
  ·exact ok_no
  ·exact sets_wf n hw s hs
 ·rw[←g2 w];have hrun:Kg (zR n) jB w↔xX (zR n).behind (setAt (noR::zU n)) (zR n).last w 0:=by
   constructor
   ·rintro⟨p,_,e,g⟩;have:p=0:=(by simpa [jB,kL] using e);rw[←this];exact g
   ·intro g;exact⟨0,Nat.succ_pos _,rfl,g⟩
  rw[hrun]
  match w with
  | []=>simp[xX,zR,xe]
  | b::w=>
   simp only[xX,xe];refine exists_congr fun q=> ?_;rw[show (zR n).behind 0 q=(glN n 1).first q from rfl];constructor
   ·rintro⟨e,f,g⟩;exact⟨e,f,(hpath w q (by have:=g1.first q e;omega)).1 g⟩
   ·rintro⟨e,f,g⟩;exact⟨e,f,(hpath w q (by have:=g1.first q e;omega)).2 g⟩
section
variable {r:RuN} {L:List Nat→Prop}
theorem zD3 (h:zD2 r L) (at_:Nat→Bool) (b:Nat) (w:List Nat):Kg r (qI r at_ b) w↔Kg r at_ (b::w):=by
 constructor
 ·rintro⟨q,hq,e,g⟩;simp only[qI,Bool.and_eq_true] at e;obtain⟨p,hp,e1,e2⟩:=(ja r at_ q r.m).1 e.1;exact⟨p,hp,e1,q,e2,e.2.2,g⟩
 ·rintro⟨p,hp,e1,q,e2,e3,g⟩;have:=h.to p q e2;refine⟨q,this.2,?_,g⟩;simp only[qI,Bool.and_eq_true];exact⟨(ja r at_ q r.m).2 ⟨p,hp,e1,e2⟩,by simpa using this.1,e3⟩
theorem Yk (at_:Nat→Bool):jC r at_=true↔Kg r at_ []:=by
 unfold jC;rw[qp];refine exists_congr fun p=>and_congr Iff.rfl ?_;rw[Bool.and_eq_true];exact Iff.rfl
theorem zFX (at_:Nat→Bool) (h:vS r at_=false) (w:List Nat):¬Kg r at_ w:=by
 rintro⟨p,hp,e,_⟩;have:=(qp at_ r.m).2 ⟨p,hp,e⟩;unfold vS at h;rw[h] at this;cases this
end
def stepsG (r:RuN):List Nat→(Nat→Bool)→Nat→Bool
 | [],x=>x
 | b::w,at_=>stepsG r w (qI r at_ b)
theorem ZG {r:RuN} {L:List Nat→Prop} (h:zD2 r L):∀(u:List Nat) (at_:Nat→Bool) (w:List Nat),Kg r (stepsG r u at_) w↔Kg r at_ (u++w)
 | [],_,_=>Iff.rfl
 | b::u,at_,w=>(ZG h u (qI r at_ b) w).trans (zD3 h at_ b (u++w))
theorem Qa {r:RuN} {L:List Nat→Prop} (h:zD2 r L) (w:List Nat):jC r (stepsG r w jB)=true↔L w:=by
 rw[Yk,ZG h,List.append_nil,h.word]
def yN:List RuN→List Nat→Nat→Int
 | [],_,_=> -1
 | r::l,w,j=>if jC r (stepsG r w jB)=true then (j:Int) else yN l w (j+1)
theorem Qb (w:List Nat) (all:List Nd):∀(l:List Nd) (j:Nat),vR l→all.drop j=l→(∀i,i<j→¬LangR all w i)→qg (LangR all w) (yN (l.map zR) w j)
 | [],j,_,hd,hno=>by
  refine .inl ⟨rfl,fun i ⟨n,hn,hl⟩=> ?_⟩;by_cases c:i<j
  ·exact hno i c ⟨n,hn,hl⟩
  ·have:=List.drop_eq_nil_iff.1 hd;have:=(List.getElem?_eq_some_iff.1 hn).1;omega
 | n::l,j,hg,hd,hno=>by
  have hj:all[j]? =some n:=by
   have:=congrArg (fun x=>x[0]?) hd
   simpa using this
  have hr:=rule_ok n (hg n (by simp)).1 (hg n (by simp)).2;rw[List.map_cons,yN];split
  ·rename_i h;exact .inr ⟨j,rfl,⟨n,hj,(Qa hr w).1 h⟩,fun i hi=>hno i hi⟩
  ·rename_i h;refine Qb w all l (j+1) (fun m hm=>hg m (by simp[hm])) (by rw[←List.drop_drop,hd];rfl) fun i hi hl=> ?_;by_cases c:i=j
   ·subst c;obtain⟨m,hm,hl⟩:=hl;rw[hj] at hm;cases hm;exact h ((Qa hr w).2 hl)
   ·exact hno i (by omega) hl
theorem Kh (all:List Nd) (hg:vR all) (W:List Nat):qg (LangR all W) (yN (all.map zR) W 0):=Qb W all all 0 hg rfl fun i hi=>by omega
theorem Zm (all:List Nd) (hg:vR all) (W:List Nat):accP (zt all).1 (xO (zt all).1 W (reachP (zt all).1 (zt all).2)) (-1)=yN (all.map zR) W 0:=
 (zD1 (Xd all hg) W).unique (Kh all hg W) fun _=>Iff.rfl
end Go.Proofs.YtjeomlickkpebaaGreatDoor
