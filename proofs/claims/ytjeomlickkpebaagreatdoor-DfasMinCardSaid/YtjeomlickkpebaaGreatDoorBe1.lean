/-
  regs, plain: sets of bytes, letters, nodes; how a text is read as a node. No call is walked here.
-/
import Derived.Test.YtjeomlickkpebaaGreatDoorRows
namespace Go.Proofs.YtjeomlickkpebaaGreatDoor
abbrev St4:=Nat×Nat×Nat×Nat
def wdR (s:St4) (j:Nat):Nat:=if j=0 then s.1 else if j=1 then s.2.1 else if j=2 then s.2.2.1 else s.2.2.2
def stR (s:St4) (j x:Nat):St4:=if j=0 then (x,s.2.1,s.2.2.1,s.2.2.2) else if j=1 then (s.1,x,s.2.2.1,s.2.2.2) else if j=2 then (s.1,s.2.1,x,s.2.2.2) else (s.1,s.2.1,s.2.2.1,x)
def xf (s:St4) (b:Nat):Bool:=(wdR s (b/64)).testBit (b%64)
def addR (s:St4) (b:Nat):St4:=if xf s b=true then s else stR s (b/64) (wdR s (b/64)+2^(b%64))
def noR:St4:=(0,0,0,0)
def OkR (s:St4):Prop:=s.1<18446744073709551616∧s.2.1<18446744073709551616∧s.2.2.1<18446744073709551616∧s.2.2.2<18446744073709551616
def zT (s:St4) (a:Nat):Nat→St4
 | 0=>s
 | n+1=>addR (zT s a n) (a+n)
theorem Xf:∀(k j x:Nat),x.testBit k=false→(x+2^k).testBit j=(x.testBit j||decide (j=k))
 | 0,0,x,h=>by
  rw[Nat.testBit_zero] at h ⊢;have h1:¬x%2=1:=of_decide_eq_false h;simp only[Nat.testBit_zero];rw[decide_eq_true (show (x+2^0)%2=1 by omega)];simp
 | 0,j+1,x,h=>by
  rw[Nat.testBit_zero] at h;have h1:¬x%2=1:=of_decide_eq_false h;rw[Nat.testBit_succ,Nat.testBit_succ,show (x+2^0)/2=x/2 by omega,decide_eq_false (by omega),Bool.or_false]
 | k+1,0,x,h=>by
  rw[Nat.testBit_zero,Nat.testBit_zero,show (x+2^(k+1))%2=x%2 by rw[Nat.pow_succ];omega,decide_eq_false (by omega:¬0=k+1),Bool.or_false]
 | k+1,j+1,x,h=>by
  rw[Nat.testBit_succ] at h;rw[Nat.testBit_succ,Nat.testBit_succ,show (x+2^(k+1))/2=x/2+2^k by rw[Nat.pow_succ];omega,Xf k j (x/2) h];congr 1;exact decide_eq_decide.2 (by omega)
theorem zHV (s:St4) (i j x:Nat) (hi:i<4) (hj:j<4):wdR (stR s j x) i=if i=j then x else wdR s i:=by
 have h1:i=0∨i=1∨i=2∨i=3:=by omega
 have h2:j=0∨j=1∨j=2∨j=3:=by omega
 rcases h1 with rfl | rfl | rfl | rfl<;>rcases h2 with rfl | rfl | rfl | rfl<;>rfl
theorem Ki (s:St4):OkR s↔∀j,j<4→wdR s j<18446744073709551616:=by
 constructor
 ·intro ⟨h0,h1,h2,h3⟩ j hj;have h2:j=0∨j=1∨j=2∨j=3:=by omega
  rcases h2 with rfl | rfl | rfl | rfl<;>assumption
 ·intro h;exact⟨h 0 (by decide),h 1 (by decide),h 2 (by decide),h 3 (by decide)⟩
theorem Qc (x k:Nat) (hx:x<18446744073709551616) (hk:k<64) (h:x.testBit k=false):x+2^k<18446744073709551616:=by
 have e:(18446744073709551616:Nat)=2^64:=rfl;rw[e] at hx ⊢;refine Nat.lt_pow_two_of_testBit _ fun i hi=> ?_;rw[Xf k i x h,Nat.testBit_lt_two_pow (Nat.lt_of_lt_of_le hx (Nat.pow_le_pow_right (by decide) hi)),decide_eq_false (by omega)];rfl
theorem Qd (s:St4) (b:Nat) (hb:b<256) (h:OkR s):OkR (addR s b):=by
 unfold addR;split
 ·exact h
 ·rename_i hn;rw[Ki] at h ⊢;intro j hj;rw[zHV _ _ _ _ hj (by omega)];split
  ·exact Qc _ _ (h _ (by omega)) (Nat.mod_lt _ (by decide)) (by unfold xf at hn;simpa using hn)
  ·exact h j hj
theorem Jq (s:St4) (b c:Nat) (hb:b<256) (hc:c<256):xf (addR s b) c=(xf s c||decide (c=b)):=by
 unfold addR;split
 ·rename_i h;by_cases e:c=b
  ·rw[e,h];rfl
  ·rw[decide_eq_false e,Bool.or_false]
 ·rename_i hn;unfold xf at hn ⊢;have hn':(wdR s (b/64)).testBit (b%64)=false:=by simpa using hn
  rw[zHV _ _ _ _ (by omega) (by omega)];by_cases e:c/64=b/64
  ·rw[if_pos e,Xf _ _ _ hn',e];congr 1;exact decide_eq_decide.2 (by omega)
  ·rw[if_neg e,decide_eq_false (fun h=>e (by rw[h])),Bool.or_false]
theorem ok_with (s:St4) (a:Nat):∀n,a+n≤256→OkR s→OkR (zT s a n)
 | 0,_,h=>h
 | n+1,hn,h=>Qd _ _ (by omega) (ok_with s a n (by omega) h)
theorem has_with (s:St4) (a c:Nat) (hc:c<256):∀n,a+n≤256→xf (zT s a n) c=(xf s c||decide (a≤c∧c<a+n))
 | 0,_=>by rw[decide_eq_false (by omega),Bool.or_false];rfl
 | n+1,hn=>by
  rw[zT,Jq _ _ _ (by omega) hc,has_with s a c hc n (by omega),Bool.or_assoc];congr 1;rw[←Bool.decide_or];exact decide_eq_decide.2 (by omega)
theorem Kj (s t:St4) (hs:OkR s) (ht:OkR t) (h:∀b,b<256→xf s b=xf t b):s=t:=by
 have key:∀j,j<4→wdR s j=wdR t j:=by
  intro j hj;refine Nat.eq_of_testBit_eq fun i=> ?_;by_cases hi:i<64
  ·have:=h (j*64+i) (by omega);unfold xf at this;rw[show (j*64+i)/64=j by omega,show (j*64+i)%64=i by omega] at this;exact this
  ·have e:(18446744073709551616:Nat)=2^64:=rfl;have h1:=(Ki s).1 hs j hj;have h2:=(Ki t).1 ht j hj;rw[e] at h1 h2;rw[Nat.testBit_lt_two_pow (Nat.lt_of_lt_of_le h1 (Nat.pow_le_pow_right (by decide) (by omega))),Nat.testBit_lt_two_pow (Nat.lt_of_lt_of_le h2 (Nat.pow_le_pow_right (by decide) (by omega)))]
 have k0:=key 0 (by decide);have k1:=key 1 (by decide);have k2:=key 2 (by decide);have k3:=key 3 (by decide);obtain⟨s0,s1,s2,s3⟩:=s;obtain⟨t0,t1,t2,t3⟩:=t;simp only[wdR] at k0 k1 k2 k3;simp at k0 k1 k2 k3;subst k0 k1 k2 k3;rfl
theorem ok_no:OkR noR:=⟨by decide,by decide,by decide,by decide⟩
theorem zFE (c:Nat):xf noR c=false:=by
 unfold xf;have:wdR noR (c/64)=0:=by unfold wdR noR;split<;>(try rfl);split<;>(try rfl);split<;>rfl
 rw[this,Nat.zero_testBit]
def j5 (s:St4):Nat→St4
 | 0=>noR
 | n+1=>if xf s n=true then j5 s n else addR (j5 s n) n
theorem vw (s:St4):∀n,n≤256→OkR (j5 s n)
 | 0,_=>ok_no
 | n+1,h=>by
  rw[j5];split
  ·exact vw s n (by omega)
  ·exact Qd _ _ (by omega) (vw s n (by omega))
theorem Xg (s:St4) (c:Nat) (hc:c<256):∀n,n≤256→xf (j5 s n) c=(decide (c<n)&& !xf s c)
 | 0,_=>by rw[j5,zFE];simp
 | n+1,h=>by
  rw[j5];split
  ·rename_i hs;rw[Xg s c hc n (by omega)];by_cases e:c=n
   ·subst e;rw[hs];simp
   ·rw[decide_eq_decide.2 (show c<n↔c<n+1 by omega)]
  ·rename_i hs;rw[Jq _ _ _ (by omega) hc,Xg s c hc n (by omega)];have hs':xf s n=false:=(by simpa using hs);by_cases e:c=n
   ·subst e;rw[hs'];simp
   ·rw[decide_eq_false e,Bool.or_false,decide_eq_decide.2 (show c<n↔c<n+1 by omega)]
def jD (c:Nat):Bool:= [40,41,91,93,124,42,43,63,46,92,45,94].contains c
def digR (c:Nat):Option Nat:=if 48≤c∧c≤57 then some (c-48) else if 97≤c∧c≤102 then some (c-87) else if 65≤c∧c≤70 then some (c-55) else none
def Jr:List Nat→Option (Nat×List Nat)
 | a::b::t=>match digR a,digR b with
  | some x,some y=>some (x*16+y,t)
  | _,_=>none
 | _=>none
def vO:List Nat→Option (Nat×List Nat)
 | []=>none
 | d::t=>if d=110 then some (10,t) else if d=116 then some (9,t) else if d=114 then some (13,t) else if d=120 then Jr t else if jD d=true then some (d,t) else none
def letR (br:Bool):List Nat→Option (Nat×List Nat)
 | []=>none
 | c::t=>if c=92 then vO t else if jD c=true∧(br=true∨c≠45∧c≠94) then none else some (c,t)
theorem zFY {l r:List Nat} {b:Nat} (h:Jr l=some (b,r)):r.length<l.length:=by
 match l,h with
 | a::c::t,h=>
  simp only[Jr] at h;split at h
  ·cases h;simp only[List.length_cons];omega
  ·cases h
theorem esc_len {l r:List Nat} {b:Nat} (h:vO l=some (b,r)):r.length<l.length:=by
 match l,h with
 | d::t,h=>
  simp only[vO] at h;simp only[List.length_cons];split at h
  ·cases h;omega
  split at h
  ·cases h;omega
  split at h
  ·cases h;omega
  split at h
  ·have:=zFY h;omega
  split at h
  ·cases h;omega
  ·cases h
theorem let_len {br:Bool} {l r:List Nat} {b:Nat} (h:letR br l=some (b,r)):r.length<l.length:=by
 match l,h with
 | c::t,h=>
  simp only[letR] at h;simp only[List.length_cons];split at h
  ·have:=esc_len h;omega
  split at h
  ·cases h
  ·cases h;omega
theorem Zn {c x:Nat} (h:digR c=some x):x<16:=by
 unfold digR at h;split at h
 ·cases h;omega
 split at h
 ·cases h;omega
 split at h
 ·cases h;omega
 ·cases h
theorem let_lt {br:Bool} {l r:List Nat} {b:Nat} (hl:∀x∈l,x<256) (h:letR br l=some (b,r)):b<256:=by
 match l,h with
 | c::t,h=>
  simp only[letR] at h;split at h
  ·match t,h with
   | d::u,h=>
    simp only[vO] at h;split at h
    ·cases h;decide
    split at h
    ·cases h;decide
    split at h
    ·cases h;decide
    split at h
    ·match u,h with
     | a::e::t,h=>
      simp only[Jr] at h;split at h
      ·rename_i x y hx hy;cases h;have:=Zn hx;have:=Zn hy;omega
      ·cases h
    split at h
    ·cases h;exact hl _ (by simp)
    ·cases h
  split at h
  ·cases h
  ·cases h;exact hl _ (by simp)
theorem Js {br:Bool} {l r:List Nat} {b:Nat} (h:letR br l=some (b,r)):∀x∈r,x∈l:=by
 match l,h with
 | c::t,h=>
  simp only[letR] at h;split at h
  ·match t,h with
   | d::u,h=>
    simp only[vO] at h;split at h
    ·cases h;intro x hx;simp[hx]
    split at h
    ·cases h;intro x hx;simp[hx]
    split at h
    ·cases h;intro x hx;simp[hx]
    split at h
    ·match u,h with
     | a::e::t,h=>
      simp only[Jr] at h;split at h
      ·cases h;intro x hx;simp[hx]
      ·cases h
    split at h
    ·cases h;intro x hx;simp[hx]
    ·cases h
  split at h
  ·cases h
  ·cases h;intro x hx;simp[hx]
def zJ2 (d:Nat):Nat:=if d<10 then 48+d else 87+d
def zHW (b:Nat):List Nat:=if b=10 then [92,110] else if b=9 then [92,116] else if b=13 then [92,114] else if jD b=true then [92,b] else if 33≤b∧b≤126 then [b] else [92,120,zJ2 (b/16),zJ2 (b%16)]
inductive Nd where
 | mk (k:Int) (s:St4) (l:List Nd)
def Nd.kind:Nd→Int
 | .mk k _ _=>k
def Nd.set:Nd→St4
 | .mk _ s _=>s
def Nd.kids:Nd→List Nd
 | .mk _ _ l=>l
def vx:Nd:= .mk 0 noR []
def zFZ (b:Nat):Nd:= .mk 1 (zT noR b 1) []
def zIR:Nd:= .mk 1 (zT (zT noR 0 10) 11 245) []
def spansR:Nat→Bool→St4→List Nat→Option (St4×List Nat)
 | 0,_,_,_=>none
 | f+1,first,s,l=>
  if first=false∧l.head? =some 93 then some (s,l.tail) else
  match letR true l with
  | none=>none
  | some (a,r)=>
   if r.head? =some 45 then
    match letR true r.tail with
    | none=>none
    | some (b,u)=>if b<a then none else spansR f false (zT s a (b+1-a)) u
   else spansR f false (zT s a 1) r
def zh (l:List Nat):Option (Nd×List Nat):=
 if l.head? =some 94 then (spansR (l.length+1) true noR l.tail).map fun x=>(.mk 1 (j5 x.1 256) [],x.2)
 else (spansR (l.length+1) true noR l).map fun x=>(.mk 1 x.1 [],x.2)
def signR (c:Nat):Nat:=if c=42 then 4 else if c=43 then 5 else if c=63 then 6 else 0
def zY:Nd→List Nat→Nd×List Nat
 | n,[]=>(n,[])
 | n,c::t=>if 0<signR c then zY (.mk (signR c:Nat) noR [n]) t else (n,c::t)
def zl (k:Int):List Nd→Nd
 | []=>vx
 | [x]=>x
 | x::y::l=> .mk k noR (x::y::l)
mutual
def vT:Nat→List Nat→Option (Nd×List Nat)
 | 0,_=>none
 | f+1,l=>
  if l.head? =some 40 then
   match yk f l.tail [] [] with
   | none=>none
   | some (n,r)=>if r.head? =some 41 then some (n,r.tail) else none
  else if l.head? =some 91 then zh l.tail
  else if l.head? =some 46 then some (zIR,l.tail)
  else (letR false l).map fun x=>(zFZ x.1,x.2)
def yk:Nat→List Nat→List Nd→List Nd→Option (Nd×List Nat)
 | 0,_,_,_=>none
 | f+1,l,all,row=>
  if l= []∨l.head? =some 41 then some (zl 3 (all++ [zl 2 row]),l)
  else if l.head? =some 124 then yk f l.tail (all++ [zl 2 row]) []
  else match vT f l with
  | none=>none
  | some (n,r)=>yk f (zY n r).2 all (row++ [(zY n r).1])
end
def yl (l:List Nat):Option Nd:=
 match yk (2*l.length+1) l [] [] with
 | some (n,[])=>some n
 | _=>none
theorem xF {l:List Nat} {c:Nat} (h:l.head? =some c):l=c::l.tail:=by
 match l,h with
 | d::t,h=>cases h;rfl
theorem qE:∀(l:List Nat) (n:Nd),(zY n l).2.length≤l.length
 | [],n=>Nat.le_refl _
 | c::t,n=>by
  simp only[zY];split
  ·have:=qE t (.mk (signR c:Nat) noR [n]);simp only[List.length_cons];omega
  ·exact Nat.le_refl _
theorem ym:∀(f:Nat) (first:Bool) (s:St4) (l:List Nat) (x:St4×List Nat),spansR f first s l=some x→x.2.length<l.length
 | 0,_,_,_,_,h=>by cases h
 | f+1,first,s,l,x,h=>by
  simp only[spansR] at h;split at h
  ·rename_i hc;cases h;have:=congrArg List.length (xF hc.2);simp only[List.length_cons] at this;show l.tail.length<l.length;omega
  ·split at h
   ·cases h
   ·rename_i a r hl;have h1:=let_len hl;split at h
    ·rename_i hr;have h2:=congrArg List.length (xF hr);simp only[List.length_cons] at h2;split at h
     ·cases h
     ·rename_i b u hl2;have h3:=let_len hl2;split at h
      ·cases h
      ·have:=ym f _ _ _ _ h;omega
    ·have:=ym f _ _ _ _ h;omega
theorem bracket_len {l r:List Nat} {n:Nd} (h:zh l=some (n,r)):r.length<l.length:=by
 unfold zh at h;split at h
 ·rename_i hc;have h2:=congrArg List.length (xF hc);simp only[List.length_cons] at h2;rcases hs:spansR (l.length+1) true noR l.tail with _ | x
  ·rw[hs] at h;cases h
  ·rw[hs] at h;cases h;have:=ym _ _ _ _ _ hs;omega
 ·rcases hs:spansR (l.length+1) true noR l with _ | x
  ·rw[hs] at h;cases h
  ·rw[hs] at h;cases h;exact ym _ _ _ _ _ hs
mutual
theorem kV:∀(f:Nat) (l r:List Nat) (n:Nd),vT f l=some (n,r)→r.length<l.length
 | 0,_,_,_,h=>by cases h
 | f+1,l,r,n,h=>by
  simp only[vT] at h;split at h
  ·rename_i hc;have h2:=congrArg List.length (xF hc);simp only[List.length_cons] at h2;split at h
   ·cases h
   ·rename_i m q hq;have h3:=kW f _ _ _ _ _ hq;split at h
    ·rename_i hp;have h4:=congrArg List.length (xF hp);simp only[List.length_cons] at h4;cases h;omega
    ·cases h
  split at h
  ·rename_i hc;have h2:=congrArg List.length (xF hc);simp only[List.length_cons] at h2;have:=bracket_len h;omega
  split at h
  ·rename_i hc;have h2:=congrArg List.length (xF hc);simp only[List.length_cons] at h2;cases h;omega
  ·rcases hs:letR false l with _ | x
   ·rw[hs] at h;cases h
   ·rw[hs] at h;cases h;exact let_len hs
theorem kW:∀(f:Nat) (l r:List Nat) (all row:List Nd) (n:Nd),yk f l all row=some (n,r)→r.length≤l.length
 | 0,_,_,_,_,_,h=>by cases h
 | f+1,l,r,all,row,n,h=>by
  simp only[yk] at h;split at h
  ·cases h;exact Nat.le_refl _
  split at h
  ·rename_i hc;have h2:=congrArg List.length (xF hc);simp only[List.length_cons] at h2;have:=kW f _ _ _ _ _ h;omega
  split at h
  ·cases h
  ·rename_i m q hq;have h1:=kV f _ _ _ hq;have h2:=qE q m;have h3:=kW f _ _ _ _ _ h;omega
end
theorem ZH:∀(N:Nat) (l:List Nat),l.length≤N→(∀f g,2*l.length≤f→2*l.length≤g→vT f l=vT g l)∧(∀f g all row,2*l.length+1≤f→2*l.length+1≤g→yk f l all row=yk g l all row)
 | 0,l,h=>by
  have e:l= []:=List.eq_nil_of_length_eq_zero (Nat.le_zero.1 h);subst e;have ha:∀f,vT f []=none:=fun f=>by cases f<;>simp[vT,letR]
  refine⟨fun f g _ _=>by rw[ha,ha],fun f g all row hf hg=> ?_⟩;obtain⟨f,rfl⟩:∃k,f=k+1:=⟨f-1,by omega⟩;obtain⟨g,rfl⟩:∃k,g=k+1:=⟨g-1,by omega⟩;simp[yk]
 | N+1,l,h=>by
  by_cases e:l= []
  ·subst e;exact ZH N [] (Nat.zero_le _)
  ·have hpos:0<l.length:=List.length_pos_iff.2 e;have htl:l.tail.length+1=l.length:=(by rw[List.length_tail];omega);have hA:∀f g,2*l.length≤f→2*l.length≤g→vT f l=vT g l:=fun f g hf hg=>by
    obtain⟨f,rfl⟩:∃k,f=k+1:=⟨f-1,by omega⟩;obtain⟨g,rfl⟩:∃k,g=k+1:=⟨g-1,by omega⟩;simp only[vT];rw[(ZH N l.tail (by omega)).2 f g [] [] (by omega) (by omega)]
   refine⟨hA,fun f g all row hf hg=> ?_⟩;obtain⟨f,rfl⟩:∃k,f=k+1:=⟨f-1,by omega⟩;obtain⟨g,rfl⟩:∃k,g=k+1:=⟨g-1,by omega⟩;simp only[yk];rw[(ZH N l.tail (by omega)).2 f g _ _ (by omega) (by omega),hA f g (by omega) (by omega)];split
   ·rfl
   split
   ·rfl
   split
   ·rfl
   ·rename_i m q hq;have h1:=kV g _ _ _ hq;have h2:=qE q m;exact (ZH N (zY m q).2 (by omega)).2 f g _ _ (by omega) (by omega)
def atR (l:List Nat):Option (Nd×List Nat):=vT (2*l.length) l
def rwR (l:List Nat) (all row:List Nd):Option (Nd×List Nat):=yk (2*l.length+1) l all row
theorem Kk (l:List Nat):atR l=if l.head? =some 40 then
   match rwR l.tail [] [] with
   | none=>none
   | some (n,r)=>if r.head? =some 41 then some (n,r.tail) else none
  else if l.head? =some 91 then zh l.tail
  else if l.head? =some 46 then some (zIR,l.tail)
  else (letR false l).map fun x=>(zFZ x.1,x.2):=by
 by_cases e:l= []
 ·subst e;simp[atR,vT,letR]
 ·have hpos:0<l.length:=List.length_pos_iff.2 e;unfold atR;obtain⟨f,hf⟩:∃k,2*l.length=k+1:=⟨2*l.length-1,by omega⟩;rw[hf];simp only[vT];have htl:l.tail.length+1=l.length:=by rw[List.length_tail];omega
  rw[show yk f l.tail [] []=rwR l.tail [] [] from (ZH _ l.tail (Nat.le_refl _)).2 _ _ _ _ (by omega) (Nat.le_refl _)]
theorem Jt (l:List Nat) (all row:List Nd):rwR l all row=if l= []∨l.head? =some 41 then some (zl 3 (all++ [zl 2 row]),l)
  else if l.head? =some 124 then rwR l.tail (all++ [zl 2 row]) []
  else match atR l with
  | none=>none
  | some (n,r)=>rwR (zY n r).2 all (row++ [(zY n r).1]):=by
 unfold rwR;simp only[yk];by_cases e:l= []
 ·subst e;simp
 ·have hpos:0<l.length:=List.length_pos_iff.2 e;have htl:l.tail.length+1=l.length:=by rw[List.length_tail];omega
  rw[(ZH _ l.tail (Nat.le_refl _)).2 (2*l.length) (2*l.tail.length+1) _ _ (by omega) (Nat.le_refl _)];split
  ·rfl
  split
  ·rfl
  show (match atR l with
  | none=>none
  | some (n,r)=>yk (2*l.length) (zY n r).2 all (row++ [(zY n r).1]))=_
  rcases hq:atR l with _ | ⟨m,q⟩
  ·rfl
  ·have h1:=kV _ _ _ _ hq;have h2:=qE q m;exact (ZH _ _ (Nat.le_refl _)).2 _ _ _ _ (by omega) (Nat.le_refl _)
theorem yn {l r:List Nat} {n:Nd} (h:atR l=some (n,r)):r.length<l.length:=kV _ _ _ _ h
theorem ZI {l r:List Nat} {all row:List Nd} {n:Nd} (h:rwR l all row=some (n,r)):r.length≤l.length:=kW _ _ _ _ _ _ h
theorem kX (l:List Nat):yl l=match rwR l [] [] with
 | some (n,[])=>some n
 | _=>none:=rfl
end Go.Proofs.YtjeomlickkpebaaGreatDoor
