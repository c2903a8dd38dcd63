/-
  Texts of this proof, one behind the other; each begins with its own remark.
-/
import Derived.Test.YtjeomlickkpebaaGreatDoorBe1
namespace Go.Proofs.YtjeomlickkpebaaGreatDoor
def lastF (s:St4):Nat→Nat→Nat
 | 0,b=>b
 | f+1,b=>if b<255∧hasR s (b+1)=true then lastF s f (b+1) else b
def lastR (s:St4) (b:Nat):Nat:=lastF s 256 b
def spanT (s:St4) (b:Nat):List Nat:=byteR b++if b<lastR s b then 45::byteR (lastR s b) else []
def runT (s:St4) (b:Nat):List Nat:=if hasR s b=true∧¬(0<b∧hasR s (b-1)=true) then spanT s b else []
def runsT (s:St4):Nat→Nat→List Nat
 | 0,_=> []
 | n+1,b=>runT s b++runsT s n (b+1)
def cntR (s:St4):Nat→Nat
 | 0=>0
 | n+1=>cntR s n+if hasR s n=true then 1 else 0
def setT (s:St4):List Nat:=if cntR s 256=0 then [91,94,92,120,48,48,45,92,120,102,102,93] else if cntR s 256=1 then runsT s 256 0 else 91::(runsT s 256 0++ [93])
def wrapT (k kk:Int) (t:List Nat):List Nat:=if kk=3∨kk=2∧k≠3 then 40::(t++ [41]) else t
def tailT (k:Int):List Nat:=if k=4 then [42] else if k=5 then [43] else if k=6 then [63] else []
mutual
def showT:Nd→List Nat
 | .mk k s l=>if k=0 then [40,41] else if k=1 then setT s else showL k true l++tailT k
def showL:Int→Bool→List Nd→List Nat
 | _,_,[]=> []
 | k,first,n::l=>((if k=3∧first=false then [124] else [])++wrapT k n.kind (showT n))++showL k false l
end
def formR (k:Int) (s:St4) (n:Nat):Bool:=
 decide (0≤k∧k≤6)&& !(decide (k<2)&&decide (0<n))&& !(decide (4≤k)&&decide (n≠1))&& !((decide (k=2)||decide (k=3))&&decide (n<2))&&(decide (k=1)||decide (s=noR))
mutual
def mayR:Nd→Bool
 | .mk k s l=>formR k s l.length&&mayL l
def mayL:List Nd→Bool
 | []=>true
 | n::l=>mayR n&&mayL l
end
mutual
def deepR:Nd→Nat
 | .mk _ _ l=>deepL l+1
def deepL:List Nd→Nat
 | []=>0
 | n::l=>max (deepR n) (deepL l)
end
mutual
def wfR:Nd→Prop
 | .mk _ s l=>OkR s∧wfL l
def wfL:List Nd→Prop
 | []=>True
 | n::l=>wfR n∧wfL l
end
theorem may_parts {k:Int} {s:St4} {l:List Nd} (h:mayR (.mk k s l)=true):formR k s l.length=true∧mayL l=true:=by
 rw[mayR,Bool.and_eq_true] at h;exact h
theorem form_spec {k:Int} {s:St4} {n:Nat} (h:formR k s n=true):0≤k∧k≤6∧(k<2→n=0)∧(4≤k→n=1)∧(k=2∨k=3→2≤n)∧(k≠1→s=noR):=by
 unfold formR at h;simp only[Bool.and_eq_true,Bool.not_eq_true',Bool.or_eq_true,decide_eq_true_eq,Bool.and_eq_false_iff,decide_eq_false_iff_not,Bool.or_eq_false_iff] at h;obtain⟨⟨⟨⟨h1,h2⟩,h3⟩,h4⟩,h5⟩:=h;refine⟨h1.1,h1.2,fun h=>by omega,fun h=>by omega,fun h=>by omega,fun h=> ?_⟩;rcases h5 with h5 | h5
 ·exact absurd h5 h
 ·exact h5
theorem form_of {k:Int} {s:St4} {n:Nat} (h0:0≤k) (h6:k≤6) (h1:k<2→n=0) (h2:4≤k→n=1) (h3:k=2∨k=3→2≤n) (h4:k≠1→s=noR):formR k s n=true:=by
 unfold formR;simp only[Bool.and_eq_true,Bool.not_eq_true',Bool.or_eq_true,decide_eq_true_eq,Bool.and_eq_false_iff,decide_eq_false_iff_not,Bool.or_eq_false_iff];refine⟨⟨⟨⟨⟨h0,h6⟩,by omega⟩,by omega⟩,by omega⟩,?_⟩;by_cases e:k=1
 ·exact .inl e
 ·exact .inr (h4 e)
def pieceR (l:List Nat):Option (Nd×List Nat):=(atR l).map fun x=>signsR x.1 x.2
end Go.Proofs.YtjeomlickkpebaaGreatDoor
namespace Go.Proofs.YtjeomlickkpebaaGreatDoor
theorem spans_ok:∀(f:Nat) (first:Bool) (s:St4) (l:List Nat) (x:St4×List Nat),(∀y,y∈l→y<256)→OkR s→spansR f first s l=some x→OkR x.1∧∀y,y∈x.2→y∈l
 | 0,_,_,_,_,_,_,h=>by cases h
 | f+1,first,s,l,x,hl,hs,h=>by
  simp only[spansR] at h;split at h
  ·cases h;exact⟨hs,fun y hy=>List.mem_of_mem_tail hy⟩
  split at h
  ·cases h
  ·rename_i a r ha;have h1:=let_lt hl ha;have h2:=let_mem ha;split at h
   ·split at h
    ·cases h
    ·rename_i b u hb;have h3:=let_lt (fun y hy=>hl y (h2 y (List.mem_of_mem_tail hy))) hb;have h4:=let_mem hb;split at h
     ·cases h
     ·obtain⟨q1,q2⟩:=spans_ok f _ _ u x (fun y hy=>hl y (h2 y (List.mem_of_mem_tail (h4 y hy)))) (ok_with _ _ _ (by omega) hs) h;exact⟨q1,fun y hy=>h2 y (List.mem_of_mem_tail (h4 y (q2 y hy)))⟩
   ·obtain⟨q1,q2⟩:=spans_ok f _ _ r x (fun y hy=>hl y (h2 y hy)) (ok_with _ _ _ (by omega) hs) h;exact⟨q1,fun y hy=>h2 y (q2 y hy)⟩
structure Good (n:Nd) (d:Nat):Prop where
 may:mayR n=true
 wf:wfR n
 deep:deepR n≤d
theorem Good.mono {n:Nd} {d e:Nat} (h:Good n d) (hd:d≤e):Good n e:=⟨h.may,h.wf,Nat.le_trans h.deep hd⟩
theorem deep_pos (n:Nd):1≤deepR n:=by
 cases n with
 | mk k s l=>rw[deepR];omega
theorem good_bytes (s:St4) (hs:OkR s):Good (.mk 1 s []) 1:=⟨by rw[mayR,mayL];rfl,by rw[wfR,wfL];exact⟨hs,trivial⟩,by rw[deepR,deepL];exact Nat.le_refl _⟩
theorem good_list:∀(l:List Nd) (d:Nat),(∀x,x∈l→Good x d)→mayL l=true∧wfL l∧deepL l≤d
 | [],d,_=>⟨rfl,trivial,Nat.zero_le _⟩
 | n::l,d,h=>by
  have h1:=h n (by simp);obtain⟨a,b,c⟩:=good_list l d fun x hx=>h x (by simp[hx]);rw[mayL,wfL,deepL,h1.may,a];exact⟨rfl,⟨h1.wf,b⟩,Nat.max_le.2 ⟨h1.deep,c⟩⟩
theorem good_kids (k:Int) (l:List Nd) (d:Nat) (hk:formR k noR l.length=true) (h:∀x,x∈l→Good x d):Good (.mk k noR l) (d+1):=by
 obtain⟨a,b,c⟩:=good_list l d h;refine⟨by rw[mayR,hk,a];rfl,by rw[wfR];exact⟨ok_no,b⟩,by rw[deepR];omega⟩
theorem good_join (k:Int) (hk:k=2∨k=3) (l:List Nd) (d:Nat) (h:∀x,x∈l→Good x d) (h2:2≤l.length→∀x,x∈l→Good x (d-1)) (hd:1≤d):Good (joinR k l) d:=by
 match l,h,h2 with
 | [],_,_=>exact⟨rfl,⟨ok_no,trivial⟩,hd⟩
 | [x],h,_=>exact h x (by simp)
 | x::y::l,_,h2=>
  have:=good_kids k (x::y::l) (d-1) (form_of (by omega) (by omega) (by omega) (by omega) (fun _=>by simp) (fun _=>rfl)) (h2 (by simp));rw[show d-1+1=d by omega] at this;exact this
theorem bracket_good {l r:List Nat} {n:Nd} (hl:∀y,y∈l→y<256) (h:bracketR l=some (n,r)):Good n 1∧∀y,y∈r→y∈l:=by
 unfold bracketR at h;split at h
 ·rcases hs:spansR (l.length+1) true noR l.tail with _ | x
  ·rw[hs] at h;cases h
  ·rw[hs] at h;cases h;obtain⟨a,b⟩:=spans_ok _ _ _ _ _ (fun y hy=>hl y (List.mem_of_mem_tail hy)) ok_no hs;exact⟨good_bytes _ (ok_not _ 256 (Nat.le_refl _)),fun y hy=>List.mem_of_mem_tail (b y hy)⟩
 ·rcases hs:spansR (l.length+1) true noR l with _ | x
  ·rw[hs] at h;cases h
  ·rw[hs] at h;cases h;obtain⟨a,b⟩:=spans_ok _ _ _ _ _ hl ok_no hs;exact⟨good_bytes _ a,b⟩
theorem signs_good:∀(l:List Nat) (n:Nd) (d:Nat),Good n d→∃e,Good (signsR n l).1 e∧e+(signsR n l).2.length=d+l.length∧∀y,y∈(signsR n l).2→y∈l
 | [],n,d,h=>⟨d,h,rfl,fun y hy=>hy⟩
 | c::t,n,d,h=>by
  simp only[signsR];split
  ·rename_i hc;have hk:formR ((signR c:Nat):Int) noR [n].length=true:=by
    unfold signR at hc ⊢;by_cases h1:c=42
    ·rw[if_pos h1];rfl
    by_cases h2:c=43
    ·rw[if_neg h1,if_pos h2];rfl
    by_cases h3:c=63
    ·rw[if_neg h1,if_neg h2,if_pos h3];rfl
    ·rw[if_neg h1,if_neg h2,if_neg h3] at hc;omega
   obtain⟨e,h1,h2,h3⟩:=signs_good t _ (d+1) (good_kids _ [n] d hk fun x hx=>by rw[List.mem_singleton.1 hx];exact h);exact⟨e,h1,by simp only[List.length_cons];omega,fun y hy=>List.mem_cons_of_mem _ (h3 y hy)⟩
  ·exact⟨d,h,rfl,fun y hy=>hy⟩
theorem rows_good:∀(N:Nat) (l:List Nat),l.length≤N→(∀y,y∈l→y<256) →
  (∀n r,atR l=some (n,r)→Good n (l.length-r.length)∧∀y,y∈r→y∈l) ∧
  (∀all row ca cr n r,(∀x,x∈row→Good x cr)→(2≤row.length→∀x,x∈row→Good x (cr-1))→(∀x,x∈all→Good x (max 2 ca-1))→(all≠ []→1≤ca)→rwR l all row=some (n,r)→Good n (max 2 (ca+cr+(l.length-r.length)))∧∀y,y∈r→y∈l)
 | N,l,hN,hl=>by
  have hA:∀n r,atR l=some (n,r)→Good n (l.length-r.length)∧∀y,y∈r→y∈l:=by
   intro n r h;have hlt:=at_len h;have htl:l.tail.length+1=l.length:=(by rw[List.length_tail];omega);rw[at_eq] at h;split at h
   ·rename_i hc;split at h
    ·cases h
    ·rename_i m q hq;split at h
     ·rename_i hp;cases h;have h4:=congrArg List.length (head_tail hp);simp only[List.length_cons] at h4;obtain⟨N,rfl⟩:∃k,N=k+1:=⟨N-1,by omega⟩;obtain⟨g1,g2⟩:=(rows_good N l.tail (by omega) (fun y hy=>hl y (List.mem_of_mem_tail hy))).2 [] [] 0 0 _ q (fun x hx=>by cases hx) (fun h=>by simp at h) (fun x hx=>by cases hx) (fun h=>absurd rfl h) hq;have h5:=rw_len hq;refine⟨g1.mono ?_,fun y hy=>List.mem_of_mem_tail (g2 y (List.mem_of_mem_tail hy))⟩;omega
     ·cases h
   split at h
   ·obtain⟨g1,g2⟩:=bracket_good (fun y hy=>hl y (List.mem_of_mem_tail hy)) h;exact⟨g1.mono (by omega),fun y hy=>List.mem_of_mem_tail (g2 y hy)⟩
   split at h
   ·cases h;exact⟨(good_bytes _ (ok_with _ _ _ (by omega) (ok_with _ _ _ (by omega) ok_no))).mono (by omega),fun y hy=>List.mem_of_mem_tail hy⟩
   ·rcases hs:letR false l with _ | x
    ·rw[hs] at h;cases h
    ·rw[hs] at h;cases h;have:=let_lt hl hs;exact⟨(good_bytes _ (ok_with _ _ _ (by omega) ok_no)).mono (by omega),let_mem hs⟩
  refine⟨hA,fun all row ca cr n r hrow hrow2 hall hca h=> ?_⟩;have hj:Good (joinR 2 row) (max cr 1):=good_join 2 (.inl rfl) row _ (fun x hx=>(hrow x hx).mono (by omega)) (fun h2 x hx=>(hrow2 h2 x hx).mono (by omega)) (by omega);rw[rw_eq] at h;split at h
  ·cases h;refine⟨good_join 3 (.inr rfl) _ _ (fun x hx=> ?_) (fun h2 x hx=> ?_) (by omega),fun y hy=>hy⟩
   ·rcases List.mem_append.1 hx with hx | hx
    ·exact (hall x hx).mono (by omega)
    ·rw[List.mem_singleton.1 hx];exact hj.mono (by omega)
   ·have hne:all≠ []:=by
     intro e;subst e;simp at h2
    have:=hca hne;rcases List.mem_append.1 hx with hx | hx
    ·exact (hall x hx).mono (by omega)
    ·rw[List.mem_singleton.1 hx];exact hj.mono (by omega)
  split at h
  ·rename_i hc;have h4:=congrArg List.length (head_tail hc);simp only[List.length_cons] at h4;obtain⟨N,rfl⟩:∃k,N=k+1:=⟨N-1,by omega⟩;obtain⟨g1,g2⟩:=(rows_good N l.tail (by omega) (fun y hy=>hl y (List.mem_of_mem_tail hy))).2 (all++ [joinR 2 row]) [] (ca+cr+1) 0 n r (fun x hx=>by cases hx) (fun h=>by simp at h) (fun x hx=>by
    rcases List.mem_append.1 hx with hx | hx
    ·exact (hall x hx).mono (by omega)
    ·rw[List.mem_singleton.1 hx];exact hj.mono (by omega)) (fun _=>by omega) h
   have h5:=rw_len h;exact⟨g1.mono (by omega),fun y hy=>List.mem_of_mem_tail (g2 y hy)⟩
  split at h
  ·cases h
  ·rename_i m q hq;obtain⟨g1,g2⟩:=hA m q hq;have hlt:=at_len hq;obtain⟨e,s1,s2,s3⟩:=signs_good q m _ g1;have hsl:=signs_len q m;obtain⟨N,rfl⟩:∃k,N=k+1:=⟨N-1,by omega⟩;have hep:=deep_pos (signsR m q).1;have hed:=s1.deep;obtain⟨k1,k2⟩:=(rows_good N (signsR m q).2 (by omega) (fun y hy=>hl y (g2 y (s3 y hy)))).2 all (row++ [(signsR m q).1]) ca (cr+e) n r (fun x hx=>by
    rcases List.mem_append.1 hx with hx | hx
    ·exact (hrow x hx).mono (by omega)
    ·rw[List.mem_singleton.1 hx];exact s1.mono (by omega)) (fun h2 x hx=>by
    rcases List.mem_append.1 hx with hx | hx
    ·exact (hrow x hx).mono (by omega)
    ·rw[List.mem_singleton.1 hx];have hne:row≠ []:=by
      intro e;subst e;simp at h2
     obtain⟨z,zs,hz⟩:=List.exists_cons_of_ne_nil hne;have h7:=(hrow z (by rw[hz];simp)).deep;have h8:=deep_pos z;exact s1.mono (by omega)) hall hca h
   have h5:=rw_len h;exact⟨k1.mono (by omega),fun y hy=>g2 y (s3 y (k2 y hy))⟩
theorem parse_good (l:List Nat) (n:Nd) (hl:∀y,y∈l→y<256) (h:parseR l=some n):mayR n=true∧wfR n∧deepR n≤max 2 l.length:=by
 rw[parse_eq] at h;split at h
 ·rename_i m hm;cases h;have:=((rows_good _ l (Nat.le_refl _) hl).2 [] [] 0 0 _ [] (fun x hx=>by cases hx) (fun h=>by simp at h) (fun x hx=>by cases hx) (fun h=>absurd rfl h) hm).1;exact⟨this.may,this.wf,Nat.le_trans this.deep (by simp)⟩
 ·cases h
end Go.Proofs.YtjeomlickkpebaaGreatDoor
namespace Go.Proofs.YtjeomlickkpebaaGreatDoor
mutual
def wtR:Nd→Nat
 | .mk _ _ l=>wtL l+1
def wtL:List Nd→Nat
 | []=>0
 | n::l=>wtR n+wtL l
end
theorem wt_kids (n:Nd):wtR n=wtL n.kids+1:=by
 cases n with
 | mk k s l=>rw[wtR];rfl
theorem wt_pos (n:Nd):1≤wtR n:=by rw[wt_kids];omega
theorem wtL_len:∀(l:List Nd),l.length≤wtL l
 | []=>Nat.le_refl _
 | n::l=>by
  have:=wtL_len l;have:=wt_pos n;rw[wtL,List.length_cons];omega
theorem wtL_app:∀(l m:List Nd),wtL (l++m)=wtL l+wtL m
 | [],m=>by simp[wtL]
 | n::l,m=>by rw[List.cons_append,wtL,wtL,wtL_app l m];omega
theorem wtL_one (n:Nd):wtL [n]=wtR n:=by simp[wtL]
theorem wtL_mem:∀(l:List Nd) (n:Nd),n∈l→wtR n≤wtL l
 | m::l,n,h=>by
  rw[wtL];rcases List.mem_cons.1 h with rfl | h
  ·omega
  ·have:=wtL_mem l n h;omega
theorem wt_join (k:Int) (l:List Nd):wtR (joinR k l)≤wtL l+1:=by
 match l with
 | []=>simp[joinR,emptyR,wtR,wtL]
 | [x]=>simp[joinR,wtL]
 | x::y::l=>simp[joinR,wtR]
theorem wt_signs:∀(l:List Nat) (n:Nd),wtR (signsR n l).1+(signsR n l).2.length=wtR n+l.length
 | [],n=>rfl
 | c::t,n=>by
  simp only[signsR];split
  ·have:=wt_signs t (.mk (signR c:Nat) noR [n]);rw[this];simp only[wtR,wtL,List.length_cons];omega
  ·rfl
theorem wt_bracket {l r:List Nat} {n:Nd} (h:bracketR l=some (n,r)):wtR n=1:=by
 unfold bracketR at h;split at h
 ·rcases hs:spansR (l.length+1) true noR l.tail with _ | x
  ·rw[hs] at h;cases h
  ·rw[hs] at h;cases h;simp[wtR,wtL]
 ·rcases hs:spansR (l.length+1) true noR l with _ | x
  ·rw[hs] at h;cases h
  ·rw[hs] at h;cases h;simp[wtR,wtL]
theorem wt_rows:∀(N:Nat) (l:List Nat),l.length≤N →
  (∀n r,atR l=some (n,r)→wtR n+2*r.length≤2*l.length) ∧
  (∀all row n r,rwR l all row=some (n,r)→wtR n+2*r.length≤wtL all+wtL row+2*l.length+3)
 | N,l,hN=>by
  have hA:∀n r,atR l=some (n,r)→wtR n+2*r.length≤2*l.length:=by
   intro n r h;have hlt:=at_len h;have htl:l.tail.length+1=l.length:=(by rw[List.length_tail];omega);rw[at_eq] at h;split at h
   ·split at h
    ·cases h
    ·rename_i m q hq;split at h
     ·rename_i hp;cases h;have h4:=congrArg List.length (head_tail hp);simp only[List.length_cons] at h4;obtain⟨N,rfl⟩:∃k,N=k+1:=⟨N-1,by omega⟩;have:=(wt_rows N l.tail (by omega)).2 [] [] _ q hq;simp only[wtL] at this;omega
     ·cases h
   split at h
   ·have:=wt_bracket h;omega
   split at h
   ·cases h;simp only[dotR,wtR,wtL];omega
   ·rcases hs:letR false l with _ | x
    ·rw[hs] at h;cases h
    ·rw[hs] at h;cases h;simp only[byteN,wtR,wtL];omega
  refine⟨hA,fun all row n r h=> ?_⟩;have hj:=wt_join 2 row;rw[rw_eq] at h;split at h
  ·cases h;have:=wt_join 3 (all++ [joinR 2 row]);rw[wtL_app,wtL_one] at this;omega
  split at h
  ·rename_i hc;have h4:=congrArg List.length (head_tail hc);simp only[List.length_cons] at h4;obtain⟨N,rfl⟩:∃k,N=k+1:=⟨N-1,by omega⟩;have:=(wt_rows N l.tail (by omega)).2 _ _ _ r h;rw[wtL_app,wtL_one] at this;simp only[wtL] at this;omega
  split at h
  ·cases h
  ·rename_i m q hq;have h1:=hA m q hq;have hlt:=at_len hq;have h2:=wt_signs q m;have hsl:=signs_len q m;obtain⟨N,rfl⟩:∃k,N=k+1:=⟨N-1,by omega⟩;have:=(wt_rows N (signsR m q).2 (by omega)).2 _ _ _ r h;rw[wtL_app,wtL_one] at this;omega
theorem wt_parse (l:List Nat) (n:Nd) (h:parseR l=some n):wtR n≤2*l.length+3:=by
 rw[parse_eq] at h;split at h
 ·rename_i m hm;cases h;have:=(wt_rows _ l (Nat.le_refl _)).2 [] [] _ [] hm;simp only[wtL,List.length_nil] at this;omega
 ·cases h
end Go.Proofs.YtjeomlickkpebaaGreatDoor
namespace Go.Proofs.YtjeomlickkpebaaGreatDoor
inductive StarP (L:List Nat→Prop):List Nat→Prop
 | nil:StarP L []
 | cons {u v:List Nat} (hu:L u) (hv:StarP L v):StarP L (u++v)
def PlusP (L:List Nat→Prop) (w:List Nat):Prop:=∃u v,w=u++v∧L u∧StarP L v
mutual
def LangN:Nd→List Nat→Prop
 | .mk k s l,w=>if k=1 then ∃b,w= [b]∧hasR s b=true else if k=2 then LangC l w else if k=3 then LangA l w else if k=4 then StarP (LangO l) w else if k=5 then PlusP (LangO l) w else if k=6 then w= []∨LangO l w else w= []
def LangC:List Nd→List Nat→Prop
 | [],w=>w= []
 | n::l,w=>∃u v,w=u++v∧LangN n u∧LangC l v
def LangA:List Nd→List Nat→Prop
 | [],_=>False
 | n::l,w=>LangN n w∨LangA l w
def LangO:List Nd→List Nat→Prop
 | [],w=>w= []
 | n::_,w=>LangN n w
end
structure Sta where
 kind:Nat
 set:St4
 next:Nat
 also:Nat
 rule:Nat
def takeS (s:St4) (next:Nat):Sta:=⟨0,s,next,0,0⟩
def forkS (next also:Nat):Sta:=⟨1,noR,next,also,0⟩
def endS (rule:Nat):Sta:=⟨2,noR,0,0,rule⟩
def alsoS:List Sta→Nat→Nat→List Sta
 | [],_,_=> []
 | s::q,0,v=>⟨s.kind,s.set,s.next,v,s.rule⟩::q
 | s::q,i+1,v=>s::alsoS q i v
mutual
def buildT:Nd→List Sta→Nat→List Sta×Nat
 | .mk k s l,q,next=>
  if k=1 then (q++ [takeS s next],q.length)
  else if k=2 then catT l q next
  else if k=3 then altT l q next
  else if k=4 then (alsoS (oneT l (q++ [forkS next next]) q.length).1 q.length (oneT l (q++ [forkS next next]) q.length).2,q.length)
  else if k=5 then (alsoS (oneT l (q++ [forkS next next]) q.length).1 q.length (oneT l (q++ [forkS next next]) q.length).2,(oneT l (q++ [forkS next next]) q.length).2)
  else if k=6 then ((oneT l q next).1++ [forkS (oneT l q next).2 next],(oneT l q next).1.length)
  else (q,next)
def catT:List Nd→List Sta→Nat→List Sta×Nat
 | [],q,next=>(q,next)
 | n::l,q,next=>buildT n (catT l q next).1 (catT l q next).2
def altT:List Nd→List Sta→Nat→List Sta×Nat
 | [],q,next=>(q,next)
 | n::l,q,next=>altsT l (buildT n q next).1 (buildT n q next).2 next
def altsT:List Nd→List Sta→Nat→Nat→List Sta×Nat
 | [],q,a,_=>(q,a)
 | n::l,q,a,next=>altsT l ((buildT n q next).1++ [forkS a (buildT n q next).2]) (buildT n q next).1.length next
def oneT:List Nd→List Sta→Nat→List Sta×Nat
 | [],q,next=>(q,next)
 | n::_,q,next=>buildT n q next
end
theorem also_len:∀(q:List Sta) (i v:Nat),(alsoS q i v).length=q.length
 | [],_,_=>rfl
 | s::q,0,v=>rfl
 | s::q,i+1,v=>by rw[alsoS,List.length_cons,also_len q i v,List.length_cons]
theorem also_ne:∀(q:List Sta) (i v j:Nat),j≠i→(alsoS q i v)[j]? =q[j]?
 | [],_,_,_,_=>rfl
 | s::q,0,v,0,h=>absurd rfl h
 | s::q,0,v,j+1,_=>rfl
 | s::q,i+1,v,0,_=>rfl
 | s::q,i+1,v,j+1,h=>by
  show (alsoS q i v)[j]? =q[j]?;exact also_ne q i v j (by omega)
theorem also_at:∀(q:List Sta) (i v:Nat) (s:Sta),q[i]? =some s→(alsoS q i v)[i]? =some ⟨s.kind,s.set,s.next,v,s.rule⟩
 | [],_,_,_,h=>by simp at h
 | s::q,0,v,_,h=>by cases h;rfl
 | s::q,i+1,v,t,h=>by
  show (alsoS q i v)[i]? =_;exact also_at q i v t h
inductive Goes (Q:List Sta):Nat→List Nat→Nat→Nat→Prop
 | fin {i:Nat} {s:Sta} (h:Q[i]? =some s) (hk:s.kind=2):Goes Q i [] s.rule 0
 | take {i:Nat} {s:Sta} {b r k:Nat} {w:List Nat} (h:Q[i]? =some s) (hk:s.kind=0) (hb:hasR s.set b=true) (g:Goes Q s.next w r k):Goes Q i (b::w) r (k+1)
 | next {i:Nat} {s:Sta} {r k:Nat} {w:List Nat} (h:Q[i]? =some s) (hk:s.kind=1) (g:Goes Q s.next w r k):Goes Q i w r (k+1)
 | also {i:Nat} {s:Sta} {r k:Nat} {w:List Nat} (h:Q[i]? =some s) (hk:s.kind=1) (g:Goes Q s.also w r k):Goes Q i w r (k+1)
theorem goes_fork {Q:List Sta} {i a b:Nat} (h:Q[i]? =some (forkS a b)) {w:List Nat} {r k:Nat} (g:Goes Q i w r k):∃k',k'<k∧(Goes Q a w r k'∨Goes Q b w r k'):=by
 cases g with
 | fin h2 hk=>rw[h] at h2;cases h2;exact absurd hk (by simp[forkS])
 | take h2 hk=>rw[h] at h2;cases h2;exact absurd hk (by simp[forkS])
 | next h2 hk g=>rw[h] at h2;cases h2;exact⟨_,Nat.lt_succ_self _,.inl g⟩
 | also h2 hk g=>rw[h] at h2;cases h2;exact⟨_,Nat.lt_succ_self _,.inr g⟩
theorem goes_take {Q:List Sta} {i a:Nat} {s:St4} (h:Q[i]? =some (takeS s a)) {w:List Nat} {r k:Nat} (g:Goes Q i w r k):∃b v k',w=b::v∧hasR s b=true∧k'<k∧Goes Q a v r k':=by
 cases g with
 | fin h2 hk=>rw[h] at h2;cases h2;exact absurd hk (by simp[takeS])
 | take h2 hk hb g=>rw[h] at h2;cases h2;exact⟨_,_,_,rfl,hb,Nat.lt_succ_self _,g⟩
 | next h2 hk g=>rw[h] at h2;cases h2;exact absurd hk (by simp[takeS])
 | also h2 hk g=>rw[h] at h2;cases h2;exact absurd hk (by simp[takeS])
theorem goes_end {Q:List Sta} {i j:Nat} (h:Q[i]? =some (endS j)) {w:List Nat} {r k:Nat} (g:Goes Q i w r k):w= []∧r=j:=by
 cases g with
 | fin h2 hk=>rw[h] at h2;cases h2;exact⟨rfl,rfl⟩
 | take h2 hk=>rw[h] at h2;cases h2;exact absurd hk (by simp[endS])
 | next h2 hk g=>rw[h] at h2;cases h2;exact absurd hk (by simp[endS])
 | also h2 hk g=>rw[h] at h2;cases h2;exact absurd hk (by simp[endS])
def StOk (m:Nat) (s:Sta):Prop:=s.next<m∧s.also<m∧s.kind<3∧OkR s.set
theorem StOk.mono {m n:Nat} {s:Sta} (h:StOk m s) (hm:m≤n):StOk n s:=⟨Nat.lt_of_lt_of_le h.1 hm,Nat.lt_of_lt_of_le h.2.1 hm,h.2.2⟩
structure Built (L:List Nat→Prop) (q:List Sta) (next:Nat) (q':List Sta) (a:Nat):Prop where
 len:q.length≤q'.length
 same:∀i,i<q.length→q'[i]? =q[i]?
 at_:a=next∨q.length≤a∧a<q'.length
 ok:next<q.length→∀i s,q.length≤i→q'[i]? =some s→StOk q'.length s
 fwd:∀Q,(∀i,q.length≤i→i<q'.length→Q[i]? =q'[i]?)→∀w r k,Goes Q a w r k→∃u v k',w=u++v∧L u∧Goes Q next v r k'∧k'≤k
 bwd:∀Q,(∀i,q.length≤i→i<q'.length→Q[i]? =q'[i]?)→∀u v r k,L u→Goes Q next v r k→∃k',Goes Q a (u++v) r k'
theorem Built.atlt {L:List Nat→Prop} {q q':List Sta} {next a:Nat} (h:Built L q next q' a) (hn:next<q.length):a<q'.length:=by
 rcases h.at_ with e | e
 ·rw[e];exact Nat.lt_of_lt_of_le hn h.len
 ·exact e.2
theorem snoc_at {q:List Sta} {s:Sta}:(q++ [s])[q.length]? =some s:=by
 rw[List.getElem?_append_right (Nat.le_refl _),Nat.sub_self];rfl
theorem snoc_lt {q:List Sta} {s:Sta} {i:Nat} (h:i<q.length):(q++ [s])[i]? =q[i]? :=List.getElem?_append_left h
theorem built_none (q:List Sta) (next:Nat):Built (fun w=>w= []) q next q next where
 len:=Nat.le_refl _
 same:=fun _ _=>rfl
 at_:= .inl rfl
 ok:=fun _ i s h hs=>absurd (List.getElem?_eq_some_iff.1 hs).1 (by omega)
 fwd:=fun Q _ w r k g=>⟨[],w,k,rfl,rfl,g,Nat.le_refl _⟩
 bwd:=fun Q _ u v r k hu g=>by rw[hu];exact⟨k,g⟩
theorem built_take (s:St4) (hs:OkR s) (q:List Sta) (next:Nat):Built (fun w=>∃b,w= [b]∧hasR s b=true) q next (q++ [takeS s next]) q.length where
 len:=by rw[List.length_append];omega
 same:=fun i h=>snoc_lt h
 at_:= .inr ⟨Nat.le_refl _,by rw[List.length_append];show _<_+1;omega⟩
 ok:=fun hn i t h ht=>by
  have h1:=(List.getElem?_eq_some_iff.1 ht).1;rw[List.length_append] at h1;rw[show i=q.length by simp at h1;omega,snoc_at] at ht;cases ht;exact⟨by rw[List.length_append];show next<_;omega,by rw[List.length_append];show 0<_+1;omega,by show 0<3;omega,hs⟩
 fwd:=fun Q hQ w r k g=>by
  have:=hQ q.length (Nat.le_refl _) (by rw[List.length_append];show _<_+1;omega);rw[snoc_at] at this;obtain⟨b,v,k',e,hb,hk,g'⟩:=goes_take this g;exact⟨[b],v,k',e,⟨b,rfl,hb⟩,g',by omega⟩
 bwd:=fun Q hQ u v r k hu g=>by
  have:=hQ q.length (Nat.le_refl _) (by rw[List.length_append];show _<_+1;omega);rw[snoc_at] at this;obtain⟨b,rfl,hb⟩:=hu;exact⟨_,Goes.take this rfl hb g⟩
theorem Built.cat {L M:List Nat→Prop} {q q1 q2:List Sta} {next a b:Nat} (h:Built L q next q1 a) (g:Built M q1 a q2 b):Built (fun w=>∃u v,w=u++v∧M u∧L v) q next q2 b where
 len:=Nat.le_trans h.len g.len
 same:=fun i hi=>(g.same i (Nat.lt_of_lt_of_le hi h.len)).trans (h.same i hi)
 at_:=by
  have:=h.len;have:=g.len;rcases g.at_ with e | e
  ·rcases h.at_ with f | f
   ·exact .inl (e.trans f)
   ·right;rw[e];omega
  ·right;omega
 ok:=fun hn i s hi hs=>by
  have:=g.len;by_cases hi1:q1.length≤i
  ·exact g.ok (h.atlt hn) i s hi1 hs
  ·rw[g.same i (by omega)] at hs;exact (h.ok hn i s hi hs).mono (by omega)
 fwd:=fun Q hQ w r k hg=>by
  have h1:=h.len;have h2:=g.len;obtain⟨u,v,k1,rfl,hu,g1,hk1⟩:=g.fwd Q (fun i hi hl=>hQ i (by omega) hl) w r k hg;obtain⟨u2,v2,k2,rfl,hu2,g2,hk2⟩:=h.fwd Q (fun i hi hl=>(hQ i hi (by omega)).trans (g.same i hl)) v r k1 g1;exact⟨u++u2,v2,k2,by rw[List.append_assoc],⟨u,u2,rfl,hu,hu2⟩,g2,by omega⟩
 bwd:=fun Q hQ u v r k hu hg=>by
  have h1:=h.len;have h2:=g.len;obtain⟨u1,u2,rfl,hu1,hu2⟩:=hu;obtain⟨k1,g1⟩:=h.bwd Q (fun i hi hl=>(hQ i hi (by omega)).trans (g.same i hl)) u2 v r k hu2 hg;rw[List.append_assoc];exact g.bwd Q (fun i hi hl=>hQ i (by omega) hl) u1 (u2++v) r k1 hu1 g1
theorem Built.alt {L M:List Nat→Prop} {q q1 q2:List Sta} {next a b:Nat} (h:Built L q next q1 a) (g:Built M q1 next q2 b):Built (fun w=>L w∨M w) q next (q2++ [forkS a b]) q2.length where
 len:=by have:=h.len;have:=g.len;rw[List.length_append];omega
 same:=fun i hi=>by
  have:=h.len;have:=g.len;rw[snoc_lt (by omega),g.same i (by omega),h.same i hi]
 at_:=by have:=h.len;have:=g.len;rw[List.length_append];right;exact⟨by omega,by show _<_+1;omega⟩
 ok:=fun hn i s hi hs=>by
  have h1:=h.len;have h2:=g.len;have ha:=h.atlt hn;have hb:=g.atlt (Nat.lt_of_lt_of_le hn h1);have hlen:(q2++ [forkS a b]).length=q2.length+1:=by rw[List.length_append];rfl
  have hl:=(List.getElem?_eq_some_iff.1 hs).1;rw[hlen] at hl ⊢;by_cases e:i=q2.length
  ·rw[e,snoc_at] at hs;cases hs;exact⟨by show a<_;omega,by show b<_;omega,by show 1<3;omega,ok_no⟩
  ·rw[snoc_lt (by omega)] at hs;by_cases hi1:q1.length≤i
   ·exact (g.ok (by omega) i s hi1 hs).mono (by omega)
   ·rw[g.same i (by omega)] at hs;exact (h.ok hn i s hi hs).mono (by omega)
 fwd:=fun Q hQ w r k hg=>by
  have h1:=h.len;have h2:=g.len;have hlen:(q2++ [forkS a b]).length=q2.length+1:=by rw[List.length_append];rfl
  have hq:=hQ q2.length (by omega) (by omega);rw[snoc_at] at hq;obtain⟨k',hk',g' | g'⟩:=goes_fork hq hg
  ·obtain⟨u,v,k1,e,hu,g1,hk1⟩:=h.fwd Q (fun i hi hl=>by rw[hQ i hi (by omega),snoc_lt (by omega),g.same i hl]) w r k' g';exact⟨u,v,k1,e,.inl hu,g1,by omega⟩
  ·obtain⟨u,v,k1,e,hu,g1,hk1⟩:=g.fwd Q (fun i hi hl=>by rw[hQ i (by omega) (by omega),snoc_lt (by omega)]) w r k' g';exact⟨u,v,k1,e,.inr hu,g1,by omega⟩
 bwd:=fun Q hQ u v r k hu hg=>by
  have h1:=h.len;have h2:=g.len;have hlen:(q2++ [forkS a b]).length=q2.length+1:=by rw[List.length_append];rfl
  have hq:=hQ q2.length (by omega) (by omega);rw[snoc_at] at hq;rcases hu with hu | hu
  ·obtain⟨k1,g1⟩:=h.bwd Q (fun i hi hl=>by rw[hQ i hi (by omega),snoc_lt (by omega),g.same i hl]) u v r k hu hg;exact⟨_,Goes.next hq rfl g1⟩
  ·obtain⟨k1,g1⟩:=g.bwd Q (fun i hi hl=>by rw[hQ i (by omega) (by omega),snoc_lt (by omega)]) u v r k hu hg;exact⟨_,Goes.also hq rfl g1⟩
theorem Built.maybe {L:List Nat→Prop} {q q1:List Sta} {next a:Nat} (h:Built L q next q1 a):Built (fun w=>w= []∨L w) q next (q1++ [forkS a next]) q1.length:=by
 have:=h.alt (built_none q1 next);exact⟨this.len,this.same,this.at_,this.ok,fun Q hQ w r k hg=>by
  obtain⟨u,v,k',e,hu,g,hk⟩:=this.fwd Q hQ w r k hg;exact⟨u,v,k',e,hu.symm,g,hk⟩,fun Q hQ u v r k hu hg=>this.bwd Q hQ u v r k hu.symm hg⟩
section
variable {L:List Nat→Prop} {q q1:List Sta} {next a:Nat}
theorem loop_same (h:Built L (q++ [forkS next next]) q.length q1 a):q.length<q1.length∧(alsoS q1 q.length a)[q.length]? =some (forkS next a)∧∀i,i<q.length→(alsoS q1 q.length a)[i]? =q[i]? :=by
 have hlen:(q++ [forkS next next]).length=q.length+1:=by rw[List.length_append];rfl
 have h1:=h.len;rw[hlen] at h1;have h2:=h.same q.length (by omega);rw[snoc_at] at h2;exact⟨by omega,also_at _ _ _ _ h2,fun i hi=>by rw[also_ne _ _ _ _ (by omega),h.same i (by omega),snoc_lt hi]⟩
theorem loop_ok (h:Built L (q++ [forkS next next]) q.length q1 a) (hn:next<q.length) (i:Nat) (s:Sta) (hi:q.length≤i) (hs:(alsoS q1 q.length a)[i]? =some s):StOk q1.length s:=by
 have hlen:(q++ [forkS next next]).length=q.length+1:=by rw[List.length_append];rfl
 obtain⟨h1,h2,_⟩:=loop_same h;by_cases e:i=q.length
 ·rw[e,h2] at hs;cases hs;exact⟨by show next<_;omega,h.atlt (by omega),by show 1<3;omega,ok_no⟩
 ·rw[also_ne _ _ _ _ e] at hs;exact h.ok (by omega) i s (by omega) hs
theorem loop_fwd (h:Built L (q++ [forkS next next]) q.length q1 a) (Q:List Sta) (hQ:∀i,q.length≤i→i<q1.length→Q[i]? =(alsoS q1 q.length a)[i]?):
  ∀(K k:Nat),k≤K→∀w r,Goes Q q.length w r k→∃u v k',w=u++v∧StarP L u∧Goes Q next v r k'∧k'≤k:=by
 have hlen:(q++ [forkS next next]).length=q.length+1:=by rw[List.length_append];rfl
 obtain⟨h1,h2,_⟩:=loop_same h;have hq:=hQ q.length (Nat.le_refl _) h1;rw[h2] at hq;intro K
 induction K with
 | zero=>
  intro k hk w r hg;obtain⟨k',hk',_⟩:=goes_fork hq hg;omega
 | succ K ih=>
  intro k hk w r hg;obtain⟨k',hk',g' | g'⟩:=goes_fork hq hg
  ·exact⟨[],w,k',rfl,.nil,g',by omega⟩
  ·obtain⟨u,v,k1,rfl,hu,g1,hk1⟩:=h.fwd Q (fun i hi hl=>by rw[hQ i (by omega) (by omega),also_ne _ _ _ _ (by omega)]) w r k' g';obtain⟨u2,v2,k2,rfl,hu2,g2,hk2⟩:=ih k1 (by omega) v r g1;exact⟨u++u2,v2,k2,by rw[List.append_assoc],.cons hu hu2,g2,by omega⟩
theorem loop_bwd (h:Built L (q++ [forkS next next]) q.length q1 a) (Q:List Sta) (hQ:∀i,q.length≤i→i<q1.length→Q[i]? =(alsoS q1 q.length a)[i]?) (v:List Nat) (r k:Nat) (hg:Goes Q next v r k) (u:List Nat) (hu:StarP L u):∃k',Goes Q q.length (u++v) r k':=by
 have hlen:(q++ [forkS next next]).length=q.length+1:=by rw[List.length_append];rfl
 obtain⟨h1,h2,_⟩:=loop_same h;have hq:=hQ q.length (Nat.le_refl _) h1;rw[h2] at hq
 induction hu with
 | nil=>exact⟨_,Goes.next hq rfl hg⟩
 | cons hu _ ih=>
  obtain⟨k1,g1⟩:=ih;obtain⟨k2,g2⟩:=h.bwd Q (fun i hi hl=>by rw[hQ i (by omega) (by omega),also_ne _ _ _ _ (by omega)]) _ _ _ _ hu g1;rw[List.append_assoc];exact⟨_,Goes.also hq rfl g2⟩
theorem Built.star (h:Built L (q++ [forkS next next]) q.length q1 a):Built (StarP L) q next (alsoS q1 q.length a) q.length where
 len:=by rw[also_len];exact Nat.le_of_lt (loop_same h).1
 same:=(loop_same h).2.2
 at_:= .inr ⟨Nat.le_refl _,by rw[also_len];exact (loop_same h).1⟩
 ok:=fun hn i s hi hs=>by rw[also_len];exact loop_ok h hn i s hi hs
 fwd:=fun Q hQ w r k hg=>by rw[also_len] at hQ;exact loop_fwd h Q hQ k k (Nat.le_refl _) w r hg
 bwd:=fun Q hQ u v r k hu hg=>by rw[also_len] at hQ;exact loop_bwd h Q hQ v r k hg u hu
theorem Built.plus (h:Built L (q++ [forkS next next]) q.length q1 a):Built (PlusP L) q next (alsoS q1 q.length a) a where
 len:=by rw[also_len];exact Nat.le_of_lt (loop_same h).1
 same:=(loop_same h).2.2
 at_:=by
  have hlen:(q++ [forkS next next]).length=q.length+1:=by rw[List.length_append];rfl
  have h1:=(loop_same h).1;right;rw[also_len];rcases h.at_ with e | e
  ·rw[e];omega
  ·omega
 ok:=fun hn i s hi hs=>by rw[also_len];exact loop_ok h hn i s hi hs
 fwd:=fun Q hQ w r k hg=>by
  have hlen:(q++ [forkS next next]).length=q.length+1:=by rw[List.length_append];rfl
  rw[also_len] at hQ;obtain⟨u,v,k1,rfl,hu,g1,hk1⟩:=h.fwd Q (fun i hi hl=>by rw[hQ i (by omega) (by omega),also_ne _ _ _ _ (by omega)]) w r k hg;obtain⟨u2,v2,k2,rfl,hu2,g2,hk2⟩:=loop_fwd h Q hQ k1 k1 (Nat.le_refl _) v r g1;exact⟨u++u2,v2,k2,by rw[List.append_assoc],⟨u,u2,rfl,hu,hu2⟩,g2,by omega⟩
 bwd:=fun Q hQ u v r k hu hg=>by
  have hlen:(q++ [forkS next next]).length=q.length+1:=by rw[List.length_append];rfl
  rw[also_len] at hQ;obtain⟨u1,u2,rfl,hu1,hu2⟩:=hu;obtain⟨k1,g1⟩:=loop_bwd h Q hQ v r k hg u2 hu2;rw[List.append_assoc];exact h.bwd Q (fun i hi hl=>by rw[hQ i (by omega) (by omega),also_ne _ _ _ _ (by omega)]) u1 (u2++v) r k1 hu1 g1
end
theorem Built.conv {L M:List Nat→Prop} {q q1:List Sta} {next a:Nat} (h:Built L q next q1 a) (hl:∀w,L w↔M w):Built M q next q1 a:=
 ⟨h.len,h.same,h.at_,h.ok,fun Q hQ w r k hg=>by
  obtain⟨u,v,k',e,hu,g,hk⟩:=h.fwd Q hQ w r k hg;exact⟨u,v,k',e,(hl u).1 hu,g,hk⟩,fun Q hQ u v r k hu hg=>h.bwd Q hQ u v r k ((hl u).2 hu) hg⟩
mutual
theorem build_ok:∀(n:Nd),mayR n=true→wfR n→∀(q:List Sta) (next:Nat),Built (LangN n) q next (buildT n q next).1 (buildT n q next).2
 | .mk k s l,h,hw,q,next=>by
  obtain⟨h1,h2⟩:=may_parts h;obtain⟨f0,f6,f1,f4,f2,fs⟩:=form_spec h1;rw[wfR] at hw;rw[buildT];by_cases k1:k=1
  ·rw[if_pos k1];exact (built_take s hw.1 q next).conv fun w=>by rw[LangN,if_pos k1]
  rw[if_neg k1];by_cases k2:k=2
  ·rw[if_pos k2];exact (catT_ok l h2 hw.2 q next).conv fun w=>by rw[LangN,if_neg k1,if_pos k2]
  rw[if_neg k2];by_cases k3:k=3
  ·rw[if_pos k3];exact (altT_ok l (by have:=f2 (.inr k3);omega) h2 hw.2 q next).conv fun w=>by rw[LangN,if_neg k1,if_neg k2,if_pos k3]
  rw[if_neg k3];by_cases k4:k=4
  ·rw[if_pos k4];exact (oneT_ok l h2 hw.2 _ _).star.conv fun w=>by rw[LangN,if_neg k1,if_neg k2,if_neg k3,if_pos k4]
  rw[if_neg k4];by_cases k5:k=5
  ·rw[if_pos k5];exact (oneT_ok l h2 hw.2 _ _).plus.conv fun w=>by rw[LangN,if_neg k1,if_neg k2,if_neg k3,if_neg k4,if_pos k5]
  rw[if_neg k5];by_cases k6:k=6
  ·rw[if_pos k6];exact (oneT_ok l h2 hw.2 _ _).maybe.conv fun w=>by rw[LangN,if_neg k1,if_neg k2,if_neg k3,if_neg k4,if_neg k5,if_pos k6]
  rw[if_neg k6];exact (built_none q next).conv fun w=>by rw[LangN,if_neg k1,if_neg k2,if_neg k3,if_neg k4,if_neg k5,if_neg k6]
theorem catT_ok:∀(l:List Nd),mayL l=true→wfL l→∀(q:List Sta) (next:Nat),Built (LangC l) q next (catT l q next).1 (catT l q next).2
 | [],_,_,q,next=>(built_none q next).conv fun w=>by rw[LangC]
 | n::l,h,hw,q,next=>by
  rw[mayL,Bool.and_eq_true] at h;rw[wfL] at hw;rw[catT];exact ((catT_ok l h.2 hw.2 q next).cat (build_ok n h.1 hw.1 _ _)).conv fun w=>by rw[LangC]
theorem altT_ok:∀(l:List Nd),0<l.length→mayL l=true→wfL l→∀(q:List Sta) (next:Nat),Built (LangA l) q next (altT l q next).1 (altT l q next).2
 | [],h0,_,_,q,next=>absurd h0 (Nat.lt_irrefl _)
 | n::l,_,h,hw,q,next=>by
  rw[mayL,Bool.and_eq_true] at h;rw[wfL] at hw;rw[altT];exact (altsT_ok l h.2 hw.2 (LangN n) q _ _ next (build_ok n h.1 hw.1 q next)).conv fun w=>by rw[LangA]
theorem altsT_ok:∀(l:List Nd),mayL l=true→wfL l→∀(L:List Nat→Prop) (q q1:List Sta) (a next:Nat),Built L q next q1 a→Built (fun w=>L w∨LangA l w) q next (altsT l q1 a next).1 (altsT l q1 a next).2
 | [],_,_,L,q,q1,a,next,hb=>hb.conv fun w=>by rw[LangA,or_false]
 | n::l,h,hw,L,q,q1,a,next,hb=>by
  rw[mayL,Bool.and_eq_true] at h;rw[wfL] at hw;rw[altsT];exact (altsT_ok l h.2 hw.2 _ q _ _ next (hb.alt (build_ok n h.1 hw.1 q1 next))).conv fun w=>by rw[LangA,or_assoc]
theorem oneT_ok:∀(l:List Nd),mayL l=true→wfL l→∀(q:List Sta) (next:Nat),Built (LangO l) q next (oneT l q next).1 (oneT l q next).2
 | [],_,_,q,next=>(built_none q next).conv fun w=>by rw[LangO]
 | n::l,h,hw,q,next=>by
  rw[mayL,Bool.and_eq_true] at h;rw[wfL] at hw;rw[oneT];exact (build_ok n h.1 hw.1 q next).conv fun w=>by rw[LangO]
end
mutual
theorem build_len:∀(n:Nd) (q:List Sta) (next:Nat),(buildT n q next).1.length+1≤q.length+2*wtR n
 | .mk k s l,q,next=>by
  rw[buildT,wtR];split
  ·rw[List.length_append];show _+1+1≤_;omega
  split
  ·have:=catT_len l q next;omega
  split
  ·have:=altT_len l q next;omega
  split
  ·have:=oneT_len l (q++ [forkS next next]) q.length;rw[List.length_append] at this;rw[also_len];simp only[List.length_cons,List.length_nil] at this;omega
  split
  ·have:=oneT_len l (q++ [forkS next next]) q.length;rw[List.length_append] at this;rw[also_len];simp only[List.length_cons,List.length_nil] at this;omega
  split
  ·have:=oneT_len l q next;rw[List.length_append];simp only[List.length_cons,List.length_nil];omega
  ·show q.length+1≤_;omega
theorem catT_len:∀(l:List Nd) (q:List Sta) (next:Nat),(catT l q next).1.length≤q.length+2*wtL l
 | [],q,next=>Nat.le_add_right _ _
 | n::l,q,next=>by
  rw[catT,wtL];have:=build_len n (catT l q next).1 (catT l q next).2;have:=catT_len l q next;omega
theorem altT_len:∀(l:List Nd) (q:List Sta) (next:Nat),(altT l q next).1.length≤q.length+2*wtL l
 | [],q,next=>Nat.le_add_right _ _
 | n::l,q,next=>by
  rw[altT,wtL];have:=build_len n q next;have:=altsT_len l (buildT n q next).1 (buildT n q next).2 next;omega
theorem altsT_len:∀(l:List Nd) (q:List Sta) (a next:Nat),(altsT l q a next).1.length≤q.length+2*wtL l
 | [],q,a,next=>Nat.le_add_right _ _
 | n::l,q,a,next=>by
  rw[altsT,wtL];have:=build_len n q next;have:=altsT_len l ((buildT n q next).1++ [forkS a (buildT n q next).2]) (buildT n q next).1.length next;rw[List.length_append] at this;simp only[List.length_cons,List.length_nil] at this;omega
theorem oneT_len:∀(l:List Nd) (q:List Sta) (next:Nat),(oneT l q next).1.length≤q.length+2*wtL l
 | [],q,next=>Nat.le_add_right _ _
 | n::l,q,next=>by
  rw[oneT,wtL];have:=build_len n q next;omega
end
mutual
theorem build_ge:∀(n:Nd) (q:List Sta) (next:Nat),q.length≤(buildT n q next).1.length
 | .mk k s l,q,next=>by
  rw[buildT];split
  ·rw[List.length_append];omega
  split
  ·exact catT_ge l q next
  split
  ·exact altT_ge l q next
  split
  ·have:=oneT_ge l (q++ [forkS next next]) q.length;rw[List.length_append] at this;rw[also_len];omega
  split
  ·have:=oneT_ge l (q++ [forkS next next]) q.length;rw[List.length_append] at this;rw[also_len];omega
  split
  ·have:=oneT_ge l q next;rw[List.length_append];omega
  ·exact Nat.le_refl _
theorem catT_ge:∀(l:List Nd) (q:List Sta) (next:Nat),q.length≤(catT l q next).1.length
 | [],_,_=>Nat.le_refl _
 | n::l,q,next=>Nat.le_trans (catT_ge l q next) (build_ge n _ _)
theorem altT_ge:∀(l:List Nd) (q:List Sta) (next:Nat),q.length≤(altT l q next).1.length
 | [],_,_=>Nat.le_refl _
 | n::l,q,next=>Nat.le_trans (build_ge n q next) (altsT_ge l _ _ _)
theorem altsT_ge:∀(l:List Nd) (q:List Sta) (a next:Nat),q.length≤(altsT l q a next).1.length
 | [],_,_,_=>Nat.le_refl _
 | n::l,q,a,next=>by
  rw[altsT];have h1:=build_ge n q next;have h2:=altsT_ge l ((buildT n q next).1++ [forkS a (buildT n q next).2]) (buildT n q next).1.length next;rw[List.length_append] at h2;omega
theorem oneT_ge:∀(l:List Nd) (q:List Sta) (next:Nat),q.length≤(oneT l q next).1.length
 | [],_,_=>Nat.le_refl _
 | n::_,q,next=>build_ge n q next
end
end Go.Proofs.YtjeomlickkpebaaGreatDoor
namespace Go.Proofs.YtjeomlickkpebaaGreatDoor
def markF:Nat→List Sta→List Bool→Nat→List Bool
 | 0,_,seen,_=>seen
 | f+1,q,seen,a=>
  if seen.getD a true=true then seen else
  match q[a]? with
  | none=>seen
  | some s=>if s.kind=1 then markF f q (markF f q (seen.set a true) s.next) s.also else seen.set a true
def openB:List Bool→Nat
 | []=>0
 | b::l=>(if b=true then 0 else 1)+openB l
theorem open_le:∀(l:List Bool),openB l≤l.length
 | []=>Nat.le_refl _
 | b::l=>by
  have:=open_le l;rw[openB,List.length_cons];split<;>omega
theorem open_set:∀(l:List Bool) (a:Nat),l.getD a true=false→openB (l.set a true)+1=openB l
 | [],a,h=>by simp at h
 | b::l,0,h=>by
  have:b=false:=by simpa using h
  subst this;rw[List.set_cons_zero,openB,openB];simp;omega
 | b::l,a+1,h=>by
  have:=open_set l a (by simpa using h);rw[List.set_cons_succ,openB,openB];omega
theorem open_zero:∀(l:List Bool) (a:Nat),openB l=0→l.getD a true=true
 | [],a,_=>by simp
 | b::l,0,h=>by
  rw[openB] at h;cases b with
  | true=>rfl
  | false=>simp at h
 | b::l,a+1,h=>by
  rw[openB] at h;have:=open_zero l a (by omega)
  simpa using this
inductive Eps (q:List Sta):Nat→Nat→Prop
 | refl (a:Nat):Eps q a a
 | next {a b:Nat} {s:Sta} (h:q[a]? =some s) (hk:s.kind=1) (g:Eps q s.next b):Eps q a b
 | also {a b:Nat} {s:Sta} (h:q[a]? =some s) (hk:s.kind=1) (g:Eps q s.also b):Eps q a b
def ClosedB (q:List Sta) (seen:List Bool) (i:Nat):Prop:=∀s,q[i]? =some s→s.kind=1→seen.getD s.next false=true∧seen.getD s.also false=true
structure Marked (q:List Sta) (seen out:List Bool) (a:Nat):Prop where
 len:out.length=seen.length
 mono:∀i,seen.getD i false=true→out.getD i false=true
 at_:out.getD a false=true
 cnt:openB out≤openB seen
 sound:∀i,out.getD i false=true→seen.getD i false=true∨Eps q a i
 closed:∀i,out.getD i false=true→seen.getD i false=true∨ClosedB q out i
theorem getD_flip {l:List Bool} {a:Nat} (h:a<l.length) (d e:Bool):l.getD a d=l.getD a e:=by
 simp[List.getD,List.getElem?_eq_getElem h]
theorem getD_set {l:List Bool} {a i:Nat} (h:a<l.length):(l.set a true).getD i false=if i=a then true else l.getD i false:=by
 simp only[List.getD_eq_getElem?_getD,List.getElem?_set];by_cases e:a=i
 ·subst e;simp[h]
 ·rw[if_neg e,if_neg (fun x=>e x.symm)]
theorem mark_ok (q:List Sta) (hq:∀(i:Nat) (s:Sta),q[i]? =some s→StOk q.length s):∀(f:Nat) (seen:List Bool) (a:Nat),seen.length=q.length→a<q.length→openB seen≤f→Marked q seen (markF f q seen a) a
 | 0,seen,a,hl,ha,hf=>by
  have h1:seen.getD a false=true:=by
   rw[getD_flip (by omega) false true];exact open_zero _ _ (by omega)
  exact⟨rfl,fun _ h=>h,h1,Nat.le_refl _,fun _ h=> .inl h,fun _ h=> .inl h⟩
 | f+1,seen,a,hl,ha,hf=>by
  rw[markF];by_cases h0:seen.getD a true=true
  ·rw[if_pos h0];exact⟨rfl,fun _ h=>h,by rw[getD_flip (by omega) false true];exact h0,Nat.le_refl _,fun _ h=> .inl h,fun _ h=> .inl h⟩
  rw[if_neg h0];have h0':seen.getD a true=false:=by simpa using h0
  have hc:=open_set seen a h0';rw[List.getElem?_eq_getElem ha];obtain⟨s,hs⟩:∃s,q[a]=s:=⟨_,rfl⟩;have hsa:q[a]? =some s:=by rw[List.getElem?_eq_getElem ha,hs]
  simp only[hs];by_cases hk:s.kind=1
  ·rw[if_pos hk];obtain⟨o1,o2,_⟩:=hq a s hsa;obtain⟨l1,m1,a1,c1,s1,d1⟩:=mark_ok q hq f (seen.set a true) s.next (by rw[List.length_set];exact hl) o1 (by omega);obtain⟨l2,m2,a2,c2,s2,d2⟩:=mark_ok q hq f (markF f q (seen.set a true) s.next) s.also (by rw[l1,List.length_set];exact hl) o2 (by omega);refine⟨by rw[l2,l1,List.length_set],fun i h=> ?_,?_,by omega,fun i h=> ?_,fun i h=> ?_⟩
   ·refine m2 i (m1 i ?_);rw[getD_set (by omega)];split
    ·rfl
    ·exact h
   ·refine m2 a (m1 a ?_);rw[getD_set (by omega),if_pos rfl]
   ·rcases s2 i h with h | h
    ·rcases s1 i h with h | h
     ·rw[getD_set (by omega)] at h;split at h
      ·rename_i e;rw[e];exact .inr (.refl _)
      ·exact .inl h
     ·exact .inr (.next hsa hk h)
    ·exact .inr (.also hsa hk h)
   ·rcases d2 i h with h | h
    ·rcases d1 i h with h | h
     ·rw[getD_set (by omega)] at h;split at h
      ·rename_i e;right;intro t ht _;rw[e,hsa] at ht;cases ht;exact⟨m2 _ a1,a2⟩
      ·exact .inl h
     ·right;intro t ht hkt;obtain⟨x,y⟩:=h t ht hkt;exact⟨m2 _ x,m2 _ y⟩
    ·exact .inr h
  ·rw[if_neg hk];refine⟨by rw[List.length_set],fun i h=> ?_,?_,by omega,fun i h=> ?_,fun i h=> ?_⟩
   ·rw[getD_set (by omega)];split
    ·rfl
    ·exact h
   ·rw[getD_set (by omega),if_pos rfl]
   ·rw[getD_set (by omega)] at h;split at h
    ·rename_i e;rw[e];exact .inr (.refl _)
    ·exact .inl h
   ·rw[getD_set (by omega)] at h;split at h
    ·rename_i e;right;intro t ht hkt;rw[e,hsa] at ht;cases ht;exact absurd hkt hk
    ·exact .inl h
def marksP (q:List Sta):List Int→List Bool→List Bool
 | [],seen=>seen
 | a::l,seen=>marksP q l (markF q.length q seen a.toNat)
theorem marks_snoc (q:List Sta):∀(l:List Int) (a:Int) (seen:List Bool),marksP q (l++ [a]) seen=markF q.length q (marksP q l seen) a.toNat
 | [],a,seen=>rfl
 | b::l,a,seen=>by rw[List.cons_append,marksP,marksP,marks_snoc q l a]
def InQ (q:List Sta) (l:List Int):Prop:=∀a,a∈l→0≤a∧a<q.length
theorem marks_ok (q:List Sta) (hq:∀(i:Nat) (s:Sta),q[i]? =some s→StOk q.length s):∀(l:List Int) (seen:List Bool),InQ q l→seen.length=q.length →
  (marksP q l seen).length=q.length∧(∀i,seen.getD i false=true→(marksP q l seen).getD i false=true)∧(∀a,a∈l→(marksP q l seen).getD a.toNat false=true) ∧
  (∀i,(marksP q l seen).getD i false=true→seen.getD i false=true∨∃a,a∈l∧Eps q a.toNat i)∧(∀i,(marksP q l seen).getD i false=true→seen.getD i false=true∨ClosedB q (marksP q l seen) i)
 | [],seen,_,hl=>⟨hl,fun _ h=>h,(fun a h=>by cases h),fun _ h=> .inl h,fun _ h=> .inl h⟩
 | a::l,seen,hi,hl=>by
  have ha:=hi a (by simp);obtain⟨l1,m1,a1,c1,s1,d1⟩:=mark_ok q hq q.length seen a.toNat hl (by omega) (by have:=open_le seen;omega);obtain⟨l2,m2,a2,s2,d2⟩:=marks_ok q hq l (markF q.length q seen a.toNat) (fun x hx=>hi x (by simp[hx])) (by rw[l1];exact hl);rw[marksP];refine⟨l2,fun i h=>m2 i (m1 i h),fun x hx=> ?_,fun i h=> ?_,fun i h=> ?_⟩
  ·rcases List.mem_cons.1 hx with rfl | hx
   ·exact m2 _ a1
   ·exact a2 x hx
  ·rcases s2 i h with h | ⟨x,hx,h⟩
   ·rcases s1 i h with h | h
    ·exact .inl h
    ·exact .inr ⟨a,by simp,h⟩
   ·exact .inr ⟨x,by simp[hx],h⟩
  ·rcases d2 i h with h | h
   ·rcases d1 i h with h | h
    ·exact .inl h
    ·right;intro t ht hk;obtain⟨x,y⟩:=h t ht hk;exact⟨m2 _ x,m2 _ y⟩
   ·exact .inr h
def keepP (q:List Sta) (seen:List Bool):Nat→List Int
 | 0=> []
 | i+1=>if seen.getD i false=true∧(q[i]?.map (·.kind))≠some 1 then keepP q seen i++ [(i:Int)] else keepP q seen i
def noneB:Nat→List Bool
 | 0=> []
 | n+1=>false::noneB n
theorem noneB_len:∀n,(noneB n).length=n
 | 0=>rfl
 | n+1=>by rw[noneB,List.length_cons,noneB_len n]
theorem noneB_get:∀n i,(noneB n).getD i false=false
 | 0,i=>by simp[noneB]
 | n+1,0=>rfl
 | n+1,i+1=>by
  have:=noneB_get n i
  simpa [noneB] using this
def reachP (q:List Sta) (l:List Int):List Int:=keepP q (marksP q l (noneB q.length)) q.length
theorem keep_mem (q:List Sta) (seen:List Bool):∀(n:Nat) (x:Int),x∈keepP q seen n↔∃i:Nat,x=i∧i<n∧seen.getD i false=true∧(q[i]?.map (·.kind))≠some 1
 | 0,x=>⟨(fun h=>by cases h),fun⟨_,_,h,_⟩=>absurd h (by omega)⟩
 | n+1,x=>by
  rw[keepP];split
  ·rename_i h;rw[List.mem_append,keep_mem q seen n x,List.mem_singleton];constructor
   ·rintro (⟨i,a,b,c⟩ | e)
    ·exact⟨i,a,by omega,c⟩
    ·exact⟨n,e,by omega,h⟩
   ·rintro⟨i,a,b,c⟩;by_cases e:i=n
    ·right;rw[a,e]
    ·left;exact⟨i,a,by omega,c⟩
  ·rename_i h;rw[keep_mem q seen n x];constructor
   ·rintro⟨i,a,b,c⟩;exact⟨i,a,by omega,c⟩
   ·rintro⟨i,a,b,c⟩;by_cases e:i=n
    ·subst e;exact absurd c h
    ·exact⟨i,a,by omega,c⟩
def AccP (q:List Sta) (l:List Int) (w:List Nat) (r:Nat):Prop:=∃a,a∈l∧0≤a∧∃k,Goes q a.toNat w r k
def NoFork (q:List Sta) (l:List Int):Prop:=∀a s,a∈l→q[a.toNat]? =some s→s.kind≠1
theorem eps_goes {q:List Sta} {a b:Nat} (h:Eps q a b):∀ {w r k},Goes q b w r k→∃k',Goes q a w r k':=by
 induction h with
 | refl a=>intro w r k g;exact⟨k,g⟩
 | next h hk _ ih=>intro w r k g;obtain⟨k',g'⟩:=ih g;exact⟨_,.next h hk g'⟩
 | also h hk _ ih=>intro w r k g;obtain⟨k',g'⟩:=ih g;exact⟨_,.also h hk g'⟩
theorem reach_ok (q:List Sta) (hq:∀(i:Nat) (s:Sta),q[i]? =some s→StOk q.length s) (l:List Int) (hl:InQ q l):InQ q (reachP q l)∧NoFork q (reachP q l)∧∀w r,AccP q (reachP q l) w r↔AccP q l w r:=by
 obtain⟨l1,_,a1,s1,d1⟩:=marks_ok q hq l (noneB q.length) hl (noneB_len _);unfold reachP;generalize marksP q l (noneB q.length)=seen at l1 a1 s1 d1;have s1':∀i,seen.getD i false=true→∃a,a∈l∧Eps q a.toNat i:=fun i h=>by
  rcases s1 i h with h | h
  ·rw[noneB_get] at h;cases h
  ·exact h
 have d1':∀i,seen.getD i false=true→ClosedB q seen i:=fun i h=>by
  rcases d1 i h with h | h
  ·rw[noneB_get] at h;cases h
  ·exact h
 refine⟨fun a ha=> ?_,fun a s ha hs hk=> ?_,fun w r=>Iff.intro ?_ ?_⟩
 ·obtain⟨i,rfl,hi,_⟩:=(keep_mem q seen _ a).1 ha;omega
 ·obtain⟨i,rfl,hi,_,hn⟩:=(keep_mem q seen _ a).1 ha;rw[Int.toNat_natCast] at hs;exact hn (by rw[hs,Option.map_some,hk])
 ·rintro⟨a,ha,h0,k,g⟩;obtain⟨i,rfl,hi,hs,hn⟩:=(keep_mem q seen _ a).1 ha;rw[Int.toNat_natCast] at g;obtain⟨b,hb,he⟩:=s1' i hs;obtain⟨k',g'⟩:=eps_goes he g;exact⟨b,hb,(hl b hb).1,k',g'⟩
 ·rintro⟨a,ha,h0,k,g⟩;have key:∀(k i:Nat) (w:List Nat) (r:Nat),seen.getD i false=true→i<q.length→Goes q i w r k→∃j:Nat,j<q.length∧seen.getD j false=true∧(q[j]?.map (·.kind))≠some 1∧∃k',Goes q j w r k':=by
   intro k
   induction k with
   | zero=>
    intro i w r hs hi g;cases g with
    | fin h2 hk=>exact⟨i,hi,hs,by rw[h2,Option.map_some,hk];simp,_,.fin h2 hk⟩
   | succ k ih=>
    intro i w r hs hi g;cases g with
    | take h2 hk hb g=>exact⟨i,hi,hs,by rw[h2,Option.map_some,hk];simp,_,.take h2 hk hb g⟩
    | next h2 hk g=>exact ih _ _ _ (d1' i hs _ h2 hk).1 (hq _ _ h2).1 g
    | also h2 hk g=>exact ih _ _ _ (d1' i hs _ h2 hk).2 (hq _ _ h2).2.1 g
  have hr:=hl a ha;obtain⟨j,hj,hsj,hnj,k',g'⟩:=key k a.toNat w r (a1 a ha) (by omega) g;exact⟨(j:Int),(keep_mem q seen _ _).2 ⟨j,rfl,hj,hsj,hnj⟩,by omega,k',by rw[Int.toNat_natCast];exact g'⟩
def lookS (q:List Sta) (a:Int):Option Sta:=if 0≤a then q[a.toNat]? else none
def nextsP (q:List Sta) (b:Nat):List Int→List Int
 | []=> []
 | a::l=>match lookS q a with
  | none=>nextsP q b l
  | some s=>if s.kind=0∧hasR s.set b=true then (s.next:Int)::nextsP q b l else nextsP q b l
theorem nexts_app (q:List Sta) (b:Nat):∀(l m:List Int),nextsP q b (l++m)=nextsP q b l++nextsP q b m
 | [],m=>rfl
 | a::l,m=>by
  rw[List.cons_append,nextsP,nextsP,nexts_app q b l m];split
  ·rfl
  ·split<;>rfl
theorem nexts_mem (q:List Sta) (b:Nat):∀(l:List Int) (x:Int),x∈nextsP q b l↔∃a s,a∈l∧lookS q a=some s∧s.kind=0∧hasR s.set b=true∧x=s.next
 | [],x=>⟨(fun h=>by cases h),fun⟨_,_,h,_⟩=>by cases h⟩
 | a::l,x=>by
  rw[nextsP];have ih:=nexts_mem q b l x;split
  ·rename_i h;rw[ih];constructor
   ·rintro⟨c,s,hc,h2⟩;exact⟨c,s,by simp[hc],h2⟩
   ·rintro⟨c,s,hc,h2,h3⟩;rcases List.mem_cons.1 hc with rfl | hc
    ·rw[h] at h2;cases h2
    ·exact⟨c,s,hc,h2,h3⟩
  ·rename_i t h;split
   ·rename_i hk;rw[List.mem_cons,ih];constructor
    ·rintro (e | ⟨c,s,hc,h2⟩)
     ·exact⟨a,t,by simp,h,hk.1,hk.2,e⟩
     ·exact⟨c,s,by simp[hc],h2⟩
    ·rintro⟨c,s,hc,h2,h3⟩;rcases List.mem_cons.1 hc with rfl | hc
     ·rw[h] at h2;cases h2;exact .inl h3.2.2
     ·exact .inr ⟨c,s,hc,h2,h3⟩
   ·rename_i hk;rw[ih];constructor
    ·rintro⟨c,s,hc,h2⟩;exact⟨c,s,by simp[hc],h2⟩
    ·rintro⟨c,s,hc,h2,h3⟩;rcases List.mem_cons.1 hc with rfl | hc
     ·rw[h] at h2;cases h2;exact absurd ⟨h3.1,h3.2.1⟩ hk
     ·exact⟨c,s,hc,h2,h3⟩
def stepP (q:List Sta) (b:Nat) (l:List Int):List Int:=if nextsP q b l= [] then [] else reachP q (nextsP q b l)
theorem nexts_in (q:List Sta) (hq:∀(i:Nat) (s:Sta),q[i]? =some s→StOk q.length s) (b:Nat) (l:List Int):InQ q (nextsP q b l):=by
 intro x hx;obtain⟨a,s,_,h,_,_,rfl⟩:=(nexts_mem q b l x).1 hx;unfold lookS at h;split at h
 ·have:=(hq _ _ h).1;omega
 ·cases h
theorem nexts_acc (q:List Sta) (b:Nat) (l:List Int) (hn:NoFork q l) (w:List Nat) (r:Nat):AccP q (nextsP q b l) w r↔AccP q l (b::w) r:=by
 constructor
 ·rintro⟨x,hx,h0,k,g⟩;obtain⟨a,s,ha,h,hk,hb,rfl⟩:=(nexts_mem q b l x).1 hx;unfold lookS at h;split at h
  ·rename_i ha0;rw[Int.toNat_natCast] at g;exact⟨a,ha,ha0,_,.take h hk hb g⟩
  ·cases h
 ·rintro⟨a,ha,h0,k,g⟩;cases g with
  | take h hk hb g=>exact⟨_,(nexts_mem q b l _).2 ⟨a,_,ha,by unfold lookS;rw[if_pos h0];exact h,hk,hb,rfl⟩,by omega,_,by rw[Int.toNat_natCast];exact g⟩
  | next h hk g=>exact absurd hk (hn a _ ha h)
  | also h hk g=>exact absurd hk (hn a _ ha h)
theorem step_ok (q:List Sta) (hq:∀(i:Nat) (s:Sta),q[i]? =some s→StOk q.length s) (b:Nat) (l:List Int) (hn:NoFork q l):InQ q (stepP q b l)∧NoFork q (stepP q b l)∧∀w r,AccP q (stepP q b l) w r↔AccP q l (b::w) r:=by
 unfold stepP;have h1:=nexts_in q hq b l;have h2:=fun w r=>nexts_acc q b l hn w r;split
 ·rename_i e;rw[e] at h2;exact⟨(fun a h=>by cases h),(fun a s h=>by cases h),h2⟩
 ·obtain⟨a,c,d⟩:=reach_ok q hq _ h1;exact⟨a,c,fun w r=>(d w r).trans (h2 w r)⟩
def accP (q:List Sta):List Int→Int→Int
 | [],r=>r
 | a::l,r=>match lookS q a with
  | none=>accP q l r
  | some s=>if s.kind=2∧(r= -1∨(s.rule:Int)<r) then accP q l s.rule else accP q l r
theorem acc_app (q:List Sta):∀(l m:List Int) (r:Int),accP q (l++m) r=accP q m (accP q l r)
 | [],m,r=>rfl
 | a::l,m,r=>by
  rw[List.cons_append,accP,accP];split
  ·exact acc_app q l m r
  ·split
   ·exact acc_app q l m _
   ·exact acc_app q l m r
def LeastI (A:Nat→Prop) (r:Int):Prop:=(r= -1∧∀j,¬A j)∨∃j:Nat,r=j∧A j∧∀i,i<j→¬A i
theorem LeastI.unique {A B:Nat→Prop} {r s:Int} (h:LeastI A r) (g:LeastI B s) (e:∀j,A j↔B j):r=s:=by
 rcases h with ⟨rfl,h⟩ | ⟨j,rfl,h1,h2⟩
 ·rcases g with ⟨rfl,_⟩ | ⟨i,rfl,g1,_⟩
  ·rfl
  ·exact absurd ((e i).2 g1) (h i)
 ·rcases g with ⟨rfl,g⟩ | ⟨i,rfl,g1,g2⟩
  ·exact absurd ((e j).1 h1) (g j)
  ·have h3:¬i<j:=fun x=>h2 i x ((e i).2 g1);have h4:¬j<i:=fun x=>g2 j x ((e j).1 h1);omega
theorem LeastI.conv {A B:Nat→Prop} {r:Int} (h:LeastI A r) (e:∀j,A j↔B j):LeastI B r:=by
 rcases h with ⟨rfl,h⟩ | ⟨j,rfl,h1,h2⟩
 ·exact .inl ⟨rfl,fun j hj=>h j ((e j).2 hj)⟩
 ·exact .inr ⟨j,rfl,(e j).1 h1,fun i hi hb=>h2 i hi ((e i).2 hb)⟩
def EndsP (q:List Sta) (l:List Int) (j:Nat):Prop:=∃a s,a∈l∧lookS q a=some s∧s.kind=2∧s.rule=j
theorem acc_least (q:List Sta):∀(l:List Int) (A:Nat→Prop) (r:Int),LeastI A r→LeastI (fun j=>A j∨EndsP q l j) (accP q l r)
 | [],A,r,h=>h.conv fun j=>Iff.intro .inl fun h=>h.resolve_right fun⟨_,_,h,_⟩=>by cases h
 | a::l,A,r,h=>by
  rw[accP];split
  ·rename_i hn;refine (acc_least q l A r h).conv fun j=>or_congr Iff.rfl ⟨fun⟨c,s,hc,h2⟩=>⟨c,s,by simp[hc],h2⟩,fun⟨c,s,hc,h2,h3⟩=> ?_⟩;rcases List.mem_cons.1 hc with rfl | hc
   ·rw[hn] at h2;cases h2
   ·exact⟨c,s,hc,h2,h3⟩
  ·rename_i t ht;split
   ·rename_i hk;have hnew:LeastI (fun j=>A j∨j=t.rule) (t.rule:Int):=by
     refine .inr ⟨t.rule,rfl,.inr rfl,fun i hi hA=> ?_⟩;rcases hA with hA | hA
     ·rcases h with ⟨rfl,h⟩ | ⟨j,rfl,h1,h2⟩
      ·exact h i hA
      ·rcases hk.2 with e | e
       ·omega
       ·exact h2 i (by omega) hA
     ·omega
    refine (acc_least q l _ _ hnew).conv fun j=>⟨?_,?_⟩
    ·rintro ((hA | e) | ⟨c,s,hc,h2⟩)
     ·exact .inl hA
     ·exact .inr ⟨a,t,by simp,ht,hk.1,e.symm⟩
     ·exact .inr ⟨c,s,by simp[hc],h2⟩
    ·rintro (hA | ⟨c,s,hc,h2,h3,h4⟩)
     ·exact .inl (.inl hA)
     ·rcases List.mem_cons.1 hc with rfl | hc
      ·rw[ht] at h2;cases h2;exact .inl (.inr h4.symm)
      ·exact .inr ⟨c,s,hc,h2,h3,h4⟩
   ·rename_i hk;have hold:LeastI (fun j=>A j∨t.kind=2∧t.rule=j) r:=by
     rcases h with ⟨rfl,h⟩ | ⟨j,rfl,h1,h2⟩
     ·exact .inl ⟨rfl,fun j hj=>hj.elim (h j) fun⟨e,_⟩=>hk ⟨e,.inl rfl⟩⟩
     ·exact .inr ⟨j,rfl,.inl h1,fun i hi hj=>hj.elim (h2 i hi) fun⟨e,e2⟩=>hk ⟨e,.inr (by omega)⟩⟩
    refine (acc_least q l _ _ hold).conv fun j=>⟨?_,?_⟩
    ·rintro ((hA | ⟨e,e2⟩) | ⟨c,s,hc,h2⟩)
     ·exact .inl hA
     ·exact .inr ⟨a,t,by simp,ht,e,e2⟩
     ·exact .inr ⟨c,s,by simp[hc],h2⟩
    ·rintro (hA | ⟨c,s,hc,h2,h3,h4⟩)
     ·exact .inl (.inl hA)
     ·rcases List.mem_cons.1 hc with rfl | hc
      ·rw[ht] at h2;cases h2;exact .inl (.inr ⟨h3,h4⟩)
      ·exact .inr ⟨c,s,hc,h2,h3,h4⟩
theorem accepts_ok (q:List Sta) (l:List Int) (hn:NoFork q l):LeastI (fun j=>AccP q l [] j) (accP q l (-1)):=by
 refine (acc_least q l (fun _=>False) (-1) (.inl ⟨rfl,fun _ h=>h⟩)).conv fun j=>⟨?_,?_⟩
 ·rintro (h | ⟨a,s,ha,h,hk,rfl⟩)
  ·exact h.elim
  ·unfold lookS at h;split at h
   ·rename_i h0;exact⟨a,ha,h0,_,.fin h hk⟩
   ·cases h
 ·rintro⟨a,ha,h0,k,g⟩;right;cases g with
  | fin h hk=>exact⟨a,_,ha,by unfold lookS;rw[if_pos h0];exact h,hk,rfl⟩
  | next h hk g=>exact absurd hk (hn a _ ha h)
  | also h hk g=>exact absurd hk (hn a _ ha h)
def MatchI (A:List Nat→Nat→Prop) (w:List Nat) (long rule:Int):Prop:=
 (rule= -1∧long=0∧∀i,i≤w.length→∀j,¬A (w.take i) j) ∨
 ∃m:Nat,long=m∧m≤w.length∧rule≠ -1∧LeastI (A (w.take m)) rule∧∀i,m<i→i≤w.length→∀j,¬A (w.take i) j
theorem LeastI.cases {A:Nat→Prop} {r:Int} (h:LeastI A r):r= -1∧(∀j,¬A j)∨r≠ -1∧0≤r∧∃j,A j:=by
 rcases h with h | ⟨j,rfl,h1,_⟩
 ·exact .inl h
 ·exact .inr ⟨by omega,by omega,j,h1⟩
theorem MatchI.unique {A B:List Nat→Nat→Prop} {w:List Nat} {l r l2 r2:Int} (h:MatchI A w l r) (g:MatchI B w l2 r2) (e:∀u j,A u j↔B u j):l=l2∧r=r2:=by
 rcases h with ⟨rfl,rfl,h⟩ | ⟨m,rfl,hm,hr,h1,h2⟩
 ·rcases g with ⟨rfl,rfl,g⟩ | ⟨n,rfl,hn,hr,g1,g2⟩
  ·exact⟨rfl,rfl⟩
  ·rcases g1.cases with ⟨x,_⟩ | ⟨_,_,j,hj⟩
   ·exact absurd x hr
   ·exact absurd ((e _ j).2 hj) (h n hn j)
 ·rcases h1.cases with ⟨x,_⟩ | ⟨_,_,j,hj⟩
  ·exact absurd x hr
  rcases g with ⟨rfl,rfl,g⟩ | ⟨n,rfl,hn,hr2,g1,g2⟩
  ·exact absurd ((e _ j).1 hj) (g m hm j)
  ·rcases g1.cases with ⟨x,_⟩ | ⟨_,_,j2,hj2⟩
   ·exact absurd x hr2
   have e1:¬m<n:=fun x=>h2 n x hn j2 ((e _ j2).2 hj2);have e2:¬n<m:=fun x=>g2 m x hm j ((e _ j).1 hj);have:m=n:=(by omega);subst this;exact⟨rfl,h1.unique g1 (e _)⟩
end Go.Proofs.YtjeomlickkpebaaGreatDoor
namespace Go.Proofs.YtjeomlickkpebaaGreatDoor
theorem getD_at {α:Type} {l:List α} {i:Nat} {x d:α} (h:l[i]? =some x):l.getD i d=x:=by rw[List.getD,h];rfl
theorem getD_no {α:Type} {l:List α} {i:Nat} {d:α} (h:l.length≤i):l.getD i d=d:=by rw[List.getD,List.getElem?_eq_none h];rfl
structure Dfa where
 next:List (List Int)
 rule:List Int
namespace Dfa
def n (d:Dfa):Nat:=d.next.length
def to (d:Dfa) (q:Int) (b:Nat):Int:=if 0≤q then (d.next.getD q.toNat []).getD b (-1) else -1
def acc (d:Dfa) (q:Int):Int:=if 0≤q then d.rule.getD q.toNat (-1) else -1
def run (d:Dfa):Int→List Nat→Int
 | q,[]=>q
 | q,b::w=>d.run (d.to q b) w
def says (d:Dfa) (q:Int) (w:List Nat):Int:=d.acc (d.run q w)
end Dfa
theorem to_neg (d:Dfa) {q:Int} (h:q<0) (b:Nat):d.to q b= -1:=if_neg (by omega)
theorem acc_neg (d:Dfa) {q:Int} (h:q<0):d.acc q= -1:=if_neg (by omega)
theorem run_neg (d:Dfa):∀(w:List Nat) (q:Int),q<0→d.run q w<0
 | [],_,h=>h
 | _::w,_,h=>run_neg d w _ (by rw[to_neg d h];decide)
theorem says_neg (d:Dfa) {q:Int} (h:q<0) (w:List Nat):d.says q w= -1:=acc_neg d (run_neg d w q h)
theorem says_cons (d:Dfa) (q:Int) (b:Nat) (w:List Nat):d.says q (b::w)=d.says (d.to q b) w:=rfl
theorem says_nil (d:Dfa) (q:Int):d.says q []=d.acc q:=rfl
theorem run_app (d:Dfa):∀(u:List Nat) (q:Int) (v:List Nat),d.run q (u++v)=d.run (d.run q u) v
 | [],_,_=>rfl
 | _::u,_,v=>run_app d u _ v
theorem says_app (d:Dfa) (q:Int) (u v:List Nat):d.says q (u++v)=d.says (d.run q u) v:=by unfold Dfa.says;rw[run_app]
structure OkD (d:Dfa):Prop where
 pos:0<d.n
 rules:d.rule.length=d.n
 row:∀r,r∈d.next→r.length=256
 into:∀r,r∈d.next→∀x,x∈r→ -1≤x∧x<(d.n:Int)
 low:∀x,x∈d.rule→ -1≤x
section
variable {d:Dfa}
theorem OkD.rowAt (h:OkD d) {k:Nat} (hk:k<d.n):∃r,d.next[k]? =some r∧r.length=256∧∀b,d.to k b=r.getD b (-1):=by
 have hk2:k<d.next.length:=hk;refine⟨d.next[k],List.getElem?_eq_getElem hk2,h.row _ (List.getElem_mem hk2),fun b=> ?_⟩;unfold Dfa.to;rw[if_pos (by omega),Int.toNat_natCast,getD_at (List.getElem?_eq_getElem hk2)]
theorem OkD.to_in (h:OkD d) (q:Int) (b:Nat): -1≤d.to q b∧d.to q b<(d.n:Int):=by
 have hp:=h.pos;unfold Dfa.to;split
 ·rename_i h0;by_cases hq:q.toNat<d.next.length
  ·rw[getD_at (List.getElem?_eq_getElem hq)];by_cases hb:b<(d.next[q.toNat]).length
   ·rw[getD_at (List.getElem?_eq_getElem hb)];exact h.into _ (List.getElem_mem hq) _ (List.getElem_mem hb)
   ·rw[getD_no (by omega)];exact⟨Int.le_refl _,by omega⟩
  ·rw[getD_no (l:=d.next) (by omega)];exact⟨Int.le_refl _,by show (-1:Int)<_;omega⟩
 ·exact⟨Int.le_refl _,by omega⟩
theorem OkD.to_big (h:OkD d) (q:Int) (b:Nat) (hb:256≤b):d.to q b= -1:=by
 unfold Dfa.to;split
 ·by_cases hq:q.toNat<d.next.length
  ·rw[getD_at (List.getElem?_eq_getElem hq),getD_no (by rw[h.row _ (List.getElem_mem hq)];exact hb)]
  ·rw[getD_no (l:=d.next) (by omega)];rfl
 ·rfl
theorem OkD.run_in (h:OkD d):∀(w:List Nat) (q:Int),-1≤q→q<(d.n:Int)→ -1≤d.run q w∧d.run q w<(d.n:Int)
 | [],_,h1,h2=>⟨h1,h2⟩
 | b::w,q,_,_=>h.run_in w _ (h.to_in q b).1 (h.to_in q b).2
def ByL (w:List Nat):Prop:=∀b,b∈w→b<256
theorem ByL.cons {b:Nat} {w:List Nat} (h:ByL (b::w)):b<256∧ByL w:=⟨h b (by simp),fun c hc=>h c (by simp[hc])⟩
theorem OkD.says_big (h:OkD d):∀(w:List Nat) (q:Int),¬ByL w→d.says q w= -1
 | [],_,hw=>absurd (fun b hb=>by cases hb) hw
 | b::w,q,hw=>by
  rw[says_cons];by_cases hb:b<256
  ·refine h.says_big w _ fun h2=>hw fun c hc=> ?_;rcases List.mem_cons.1 hc with rfl | hc
   ·exact hb
   ·exact h2 c hc
  ·rw[h.to_big q b (by omega)];exact says_neg d (by decide) w
end
def scanI:List Int→Nat→Option Nat
 | [],s=>some s
 | e::l,s=>if e<(s:Int) then scanI l s else if e=(s:Int) then scanI l (s+1) else none
theorem scan_app:∀(l m:List Int) (s:Nat),scanI (l++m) s=(scanI l s).bind (scanI m)
 | [],m,s=>rfl
 | e::l,m,s=>by
  rw[List.cons_append,scanI,scanI];split
  ·exact scan_app l m s
  ·split
   ·exact scan_app l m (s+1)
   ·rfl
theorem scan_mono:∀(l:List Int) (s t:Nat),scanI l s=some t→s≤t
 | [],s,t,h=>by cases h;exact Nat.le_refl _
 | e::l,s,t,h=>by
  rw[scanI] at h;split at h
  ·exact scan_mono l s t h
  ·split at h
   ·have:=scan_mono l (s+1) t h;omega
   ·cases h
theorem scan_has:∀(l:List Int) (s t:Nat),scanI l s=some t→∀j:Nat,s≤j→j<t→∃b:Nat,l[b]? =some (j:Int)
 | [],s,t,h,j,h1,h2=>by cases h;omega
 | e::l,s,t,h,j,h1,h2=>by
  rw[scanI] at h;split at h
  ·obtain⟨b,hb⟩:=scan_has l s t h j h1 h2;exact⟨b+1,hb⟩
  ·split at h
   ·rename_i he;by_cases hj:j=s
    ·exact⟨0,by rw[hj,←he];rfl⟩
    ·obtain⟨b,hb⟩:=scan_has l (s+1) t h j (by omega) h2;exact⟨b+1,hb⟩
   ·cases h
structure IsMin (F:List Nat→Int) (m:Dfa):Prop where
 ok:OkD m
 says:∀w,m.says 0 w=F w
 live:∀(k b:Nat),k<m.n→0≤m.to k b→∃w,m.says (m.to k b) w≠ -1
 apart:∀i k:Nat,i<k→k<m.n→∃w,m.says i w≠m.says k w
 num:∀k,k≤m.n→∃s,scanI ((m.next.take k).flatten) 1=some s∧(k<m.n→k<s)∧s≤m.n
theorem flat_snoc {k:Nat} {l:List (List Int)} {r:List Int} (h:l[k]? =some r):(l.take (k+1)).flatten=(l.take k).flatten++r:=by
 rw[List.take_add_one,h,List.flatten_append];simp
section
variable {m m':Dfa} {F:List Nat→Int}
end
end Go.Proofs.YtjeomlickkpebaaGreatDoor
namespace Go.Proofs.YtjeomlickkpebaaGreatDoor
theorem pig:∀(n m:Nat) (f:Nat→Nat),(∀i,i<n→f i<m)→(∀i k,i<k→k<n→f i≠f k)→n≤m
 | 0,m,_,_,_=>Nat.zero_le m
 | n+1,0,f,h,_=>absurd (h n (Nat.lt_succ_self n)) (by omega)
 | n+1,m+1,f,h,hi=>by
  have:=pig n m (fun i=>if f i=m then f n else f i) (fun i hl=>by
   show (if f i=m then f n else f i)<m;have h1:=h i (by omega);have h2:=h n (by omega);have h3:=hi i n hl (by omega);split<;>omega) (fun i k hik hk=>by
   show (if f i=m then f n else f i)≠(if f k=m then f n else f k);have h1:=hi i k hik (by omega);have h2:=hi i n (by omega) (by omega);have h3:=hi k n hk (by omega);split<;>split<;>omega)
  omega
section
variable {m d:Dfa} {F:List Nat→Int}
theorem IsMin.led (h:IsMin F m):∀k s,k≤m.n→scanI ((m.next.take k).flatten) 1=some s→∀j:Nat,j<s→∃w,ByL w∧m.run 0 w=j∧(j=0∨∃i b:Nat,i<m.n∧m.to i b=j)
 | 0,s,_,hs,j,hj=>by
  rw[List.take_zero] at hs;cases hs;exact⟨[],(fun b hb=>by cases hb),by show (0:Int)=_;omega,.inl (by omega)⟩
 | k+1,s,hk,hs,j,hj=>by
  obtain⟨r,hr,hr1,hr2⟩:=h.ok.rowAt (k:=k) (by omega);obtain⟨t,ht,ht1,_⟩:=h.num k (by omega);rw[flat_snoc hr,scan_app,ht] at hs;change scanI r t=some s at hs;by_cases c:j<t
  ·exact h.led k t (by omega) ht j c
  ·obtain⟨b,hb⟩:=scan_has r t s hs j (by omega) hj;have hb2:=(List.getElem?_eq_some_iff.1 hb).1;obtain⟨w,hw,hw2,_⟩:=h.led k t (by omega) ht k (ht1 (by omega));have hto:m.to k b=j:=(by rw[hr2 b,getD_at hb]);refine⟨w++ [b],fun c hc=> ?_,by rw[run_app,hw2];exact hto,.inr ⟨k,b,by omega,hto⟩⟩;rcases List.mem_append.1 hc with hc | hc
   ·exact hw c hc
   ·rw[List.mem_singleton.1 hc];omega
theorem IsMin.word (h:IsMin F m) (j:Nat) (hj:j<m.n):∃w,ByL w∧m.run 0 w=j∧(j=0∨∃v,m.says j v≠ -1):=by
 obtain⟨t,ht,ht1,_⟩:=h.num j (by omega);obtain⟨s,hs,_,hs3⟩:=h.num m.n (Nat.le_refl _);have hjs:j<s:=by
  have h1:=ht1 hj;have h2:t≤s:=by
   have:m.next.take m.n=m.next.take j++(m.next.take m.n).drop j:=by
    have:=(List.take_append_drop j (m.next.take m.n)).symm
    rwa [List.take_take,Nat.min_eq_left (Nat.le_of_lt hj)] at this
   rw[this,List.flatten_append,scan_app,ht] at hs;exact scan_mono _ _ _ hs
  omega
 obtain⟨w,hw,hw2,h3⟩:=h.led m.n s (Nat.le_refl _) hs j hjs;refine⟨w,hw,hw2,h3.imp_right ?_⟩;rintro⟨i,b,hi,hto⟩;have:=h.live i b hi (by omega);rw[hto] at this;exact this
theorem min_few (h:IsMin F m) (hd:OkD d) (hs:∀w,d.says 0 w=F w):m.n≤d.n:=by
 have hw:∀k:Nat,∃w,k<m.n→m.run 0 w=k∧(k=0→w= [])∧(k=0∨∃v,m.says k v≠ -1):=fun k=>by
  by_cases hk:k<m.n
  ·by_cases h0:k=0
   ·exact⟨[],fun _=>⟨by show (0:Int)=_;omega,fun _=>rfl,.inl h0⟩⟩
   ·obtain⟨w,_,h1,h2⟩:=h.word k hk;exact⟨w,fun _=>⟨h1,fun e=>absurd e h0,h2⟩⟩
  ·exact⟨[],fun x=>absurd x hk⟩
 let W:=fun k=>Classical.choose (hw k);have hW:∀k,k<m.n→m.run 0 (W k)=k∧(k=0→W k= [])∧(k=0∨∃v,m.says k v≠ -1):=fun k=>Classical.choose_spec (hw k);have same:∀k:Nat,k<m.n→∀v,d.says (d.run 0 (W k)) v=m.says k v:=fun k hk v=>by
  have h1:=(hs (W k++v)).trans (h.says (W k++v)).symm;rw[says_app,says_app,(hW k hk).1] at h1;exact h1
 have hp:=hd.pos;have rin:∀k:Nat,k<m.n→0≤d.run 0 (W k)∧d.run 0 (W k)<(d.n:Int):=fun k hk=>by
  refine⟨?_,(hd.run_in _ 0 (by omega) (by omega)).2⟩;rcases (hW k hk).2.2 with h0 | ⟨v,hv⟩
  ·rw[(hW k hk).2.1 h0];exact Int.le_refl _
  ·by_cases c:0≤d.run 0 (W k)
   ·exact c
   ·exact absurd (by rw[←same k hk v];exact says_neg d (by omega) v) hv
 refine pig m.n d.n (fun k=>(d.run 0 (W k)).toNat) (fun i hi=> ?_) fun i k hik hk=> ?_
 ·have:=rin i hi;show (d.run 0 (W i)).toNat<d.n;omega
 ·show (d.run 0 (W i)).toNat≠(d.run 0 (W k)).toNat;intro e;have h1:=rin i (by omega);have h2:=rin k hk;have e2:d.run 0 (W i)=d.run 0 (W k):=by omega
  obtain⟨v,hv⟩:=h.apart i k hik hk;exact hv (by rw[←same i (by omega) v,←same k hk v,e2])
theorem IsMin.conv {G:List Nat→Int} (h:IsMin F m) (e:∀w,F w=G w):IsMin G m:=⟨h.ok,fun w=>(h.says w).trans (e w),h.live,h.apart,h.num⟩
def matD (d:Dfa):List Nat→Int→Int→Int→Int→Int×Int×Int
 | [],_,i,long,rule=>(long,rule,i)
 | b::w,q,i,long,rule=>
  if d.to q b<0 then (long,rule,i)
  else if d.acc (d.to q b)<0 then matD d w (d.to q b) (i+1) long rule
  else matD d w (d.to q b) (i+1) (i+1) (d.acc (d.to q b))
def matchD (d:Dfa) (w:List Nat):Int×Int×Int:=matD d w 0 0 0 (d.acc 0)
structure FarI (P:List Nat→Prop) (W:List Nat) (i:Nat):Prop where
 le:i≤W.length
 to:0<i→P (W.take i)
 no:∀j,i<j→j≤W.length→¬P (W.take j)
theorem FarI.mono {P Q:List Nat→Prop} {W:List Nat} {i j:Nat} (h:FarI P W i) (g:FarI Q W j) (e:∀u,u≠ []→P u→Q u):i≤j:=by
 by_cases c:i≤j
 ·exact c
 ·have h1:=h.to (by omega);refine absurd (e _ ?_ h1) (g.no i (by omega) h.le);intro e2;have:=congrArg List.length e2;rw[List.length_take,List.length_nil] at this;have h2:=h.le;omega
theorem FarI.conv {P Q:List Nat→Prop} {W:List Nat} {i:Nat} (h:FarI P W i) (e:∀k,0<k→k≤W.length→(P (W.take k)↔Q (W.take k))):FarI Q W i:=
 ⟨h.le,fun h0=>(e i h0 h.le).1 (h.to h0),fun j h1 h2 hq=>h.no j h1 h2 ((e j (by omega) h2).2 hq)⟩
theorem OkD.acc_low (h:OkD d) (q:Int): -1≤d.acc q:=by
 unfold Dfa.acc;split
 ·by_cases hq:q.toNat<d.rule.length
  ·rw[getD_at (List.getElem?_eq_getElem hq)];exact h.low _ (List.getElem_mem hq)
  ·rw[getD_no (by omega)];exact Int.le_refl _
 ·exact Int.le_refl _
theorem take_run (d:Dfa) {W:List Nat} {i b:Nat} (hb:W[i]? =some b):d.run 0 (W.take (i+1))=d.to (d.run 0 (W.take i)) b:=by
 rw[List.take_add_one,hb,run_app];rfl
theorem run_dead (d:Dfa) {W:List Nat} {i j:Nat} (hij:i≤j) (h:d.run 0 (W.take i)<0):d.run 0 (W.take j)<0:=by
 have:W.take j=W.take i++(W.take j).drop i:=by
  have:=(List.take_append_drop i (W.take j)).symm
  rwa [List.take_take,Nat.min_eq_left hij] at this
 rw[this,run_app];exact run_neg d _ _ h
theorem matD_ok (hd:OkD d) (A:List Nat→Nat→Prop) (W:List Nat) (hA:∀i,i≤W.length→LeastI (A (W.take i)) (d.says 0 (W.take i))):∀(w:List Nat) (i:Nat) (long rule:Int),W.drop i=w→i≤W.length→0≤d.run 0 (W.take i) →
  MatchI A (W.take i) long rule →
  MatchI A W (matD d w (d.run 0 (W.take i)) i long rule).1 (matD d w (d.run 0 (W.take i)) i long rule).2.1∧∃k:Nat,(matD d w (d.run 0 (W.take i)) i long rule).2.2=k∧FarI (fun u=>0≤d.run 0 u) W k
 | [],i,long,rule,hw,hi,h0,hm=>by
  rw[matD];have hlen:W.length≤i:=List.drop_eq_nil_iff.1 hw;rw[List.take_of_length_le hlen] at hm;exact⟨hm,i,rfl,hi,fun _=>h0,fun j h1 h2=>by omega⟩
 | b::w,i,long,rule,hw,hi,h0,hm=>by
  have hlt:i<W.length:=by
   have:=congrArg List.length hw;rw[List.length_drop,List.length_cons] at this;omega
  have hb:W[i]? =some b:=by
   have:=congrArg (fun x=>x[0]?) hw
   simpa using this
  have hdr:W.drop (i+1)=w:=by rw[←List.drop_drop,hw];rfl
  have hrn:=take_run d hb;have hlen:(W.take (i+1)).length=i+1:=by rw[List.length_take];omega
  have ext:(∀i',i<i'→i'≤W.length→∀j,¬A (W.take i') j)→MatchI A W long rule:=fun hno=>by
   rcases hm with ⟨e1,e2,h⟩ | ⟨m,rfl,hm1,hr,h1,h2⟩
   ·refine .inl ⟨e1,e2,fun i' hi' j hj=> ?_⟩;by_cases hc:i<i'
    ·exact hno i' hc hi' j hj
    ·refine h i' (by rw[List.length_take];omega) j ?_;rw[List.take_take,Nat.min_eq_left (by omega)];exact hj
   ·rw[List.length_take] at hm1;rw[List.take_take,Nat.min_eq_left (by omega)] at h1;refine .inr ⟨m,rfl,by omega,hr,h1,fun i' hi1 hi' j hj=> ?_⟩;by_cases hc:i<i'
    ·exact hno i' hc hi' j hj
    ·refine h2 i' hi1 (by rw[List.length_take];omega) j ?_;rw[List.take_take,Nat.min_eq_left (by omega)];exact hj
  rw[matD];split
  ·rename_i hneg;rw[←hrn] at hneg;refine⟨ext fun i' h1 h2 j hj=> ?_,i,rfl,hi,fun _=>h0,fun j h1 h2 h3=> ?_⟩
   ·have:=hA i' h2;unfold Dfa.says at this;rw[acc_neg d (run_dead d h1 hneg)] at this;rcases this with ⟨_,h⟩ | ⟨j,e,_⟩
    ·exact h _ hj
    ·omega
   ·have:=run_dead d h1 hneg;change 0≤d.run 0 (W.take j) at h3;omega
  ·rename_i hpos;rw[←hrn] at hpos ⊢;have hl2:=hA (i+1) hlt;unfold Dfa.says at hl2;have hlow:=hd.acc_low (d.run 0 (W.take (i+1)));split
   ·rename_i hneg;have he:d.acc (d.run 0 (W.take (i+1)))= -1:=(by omega);have hno:∀j,¬A (W.take (i+1)) j:=by
     rcases hl2.cases with ⟨_,h⟩ | ⟨h,_⟩
     ·exact h
     ·exact absurd he h
    have:=matD_ok hd A W hA w (i+1) long rule hdr hlt (by omega) (by
     rcases hm with ⟨e1,e2,h⟩ | ⟨m,rfl,hm1,hr,h1,h2⟩
     ·refine .inl ⟨e1,e2,fun i' hi' j hj=> ?_⟩;rw[hlen] at hi';rw[List.take_take,Nat.min_eq_left hi'] at hj;by_cases hc:i'=i+1
      ·rw[hc] at hj;exact hno j hj
      ·refine h i' (by rw[List.length_take];omega) j ?_;rw[List.take_take,Nat.min_eq_left (by omega)];exact hj
     ·rw[List.length_take] at hm1;rw[List.take_take,Nat.min_eq_left (by omega)] at h1;refine .inr ⟨m,rfl,by omega,hr,by rw[List.take_take,Nat.min_eq_left (by omega)];exact h1,fun i' hi1 hi' j hj=> ?_⟩;rw[hlen] at hi';rw[List.take_take,Nat.min_eq_left hi'] at hj;by_cases hc:i'=i+1
      ·rw[hc] at hj;exact hno j hj
      ·refine h2 i' hi1 (by rw[List.length_take];omega) j ?_;rw[List.take_take,Nat.min_eq_left (by omega)];exact hj)
    exact this
   ·rename_i hge;have:=matD_ok hd A W hA w (i+1) ((i:Int)+1) (d.acc (d.run 0 (W.take (i+1)))) hdr hlt (by omega) (.inr ⟨i+1,by omega,by omega,by omega,by
     rw[List.take_take,Nat.min_self];exact hl2,fun i' h1 h2=>by omega⟩)
    exact this
theorem matchD_ok (hd:OkD d) (A:List Nat→Nat→Prop) (W:List Nat) (hA:∀i,i≤W.length→LeastI (A (W.take i)) (d.says 0 (W.take i))):
  MatchI A W (matchD d W).1 (matchD d W).2.1∧∃k:Nat,(matchD d W).2.2=k∧FarI (fun u=>0≤d.run 0 u) W k:=by
 have h0:=hA 0 (Nat.zero_le _);refine matD_ok hd A W hA W 0 0 (d.acc 0) rfl (Nat.zero_le _) (Int.le_refl _) ?_;rw[List.take_zero] at h0 ⊢;change LeastI (A []) (d.acc 0) at h0;rcases h0.cases with ⟨e,h⟩ | ⟨e,_,_⟩
 ·exact .inl ⟨e,rfl,fun i hi j hj=>by rw[List.take_nil] at hj;exact h j hj⟩
 ·exact .inr ⟨0,rfl,Nat.zero_le _,e,by rw[List.take_nil];exact h0,fun i h1 h2=>by simp at h2;omega⟩
theorem MatchI.long_le {A:List Nat→Nat→Prop} {W:List Nat} {long rule:Int} (h:MatchI A W long rule):0≤long∧long≤W.length:=by
 rcases h with ⟨_,rfl,_⟩ | ⟨m,rfl,h,_⟩
 ·exact⟨Int.le_refl _,by omega⟩
 ·omega
theorem long_far (A:List Nat→Nat→Prop) {W:List Nat} {long rule:Int} {k:Nat} (h:MatchI A W long rule) (g:FarI (fun u=>0≤d.run 0 u) W k) (hA:∀i,i≤W.length→LeastI (A (W.take i)) (d.says 0 (W.take i))):long≤k:=by
 rcases h with ⟨_,rfl,_⟩ | ⟨m,rfl,h1,h2,h3,_⟩
 ·omega
 ·by_cases c:m≤k
  ·omega
  ·have h4:=g.no m (by omega) h1;have h5:=hA m h1;have h6:d.says 0 (W.take m)= -1:=acc_neg d (by
    change ¬0≤d.run 0 (W.take m) at h4;omega)
   rw[h6] at h5;rcases h3.cases with ⟨e,_⟩ | ⟨_,_,j,hj⟩
   ·exact absurd e h2
   ·rcases h5 with ⟨_,h⟩ | ⟨j2,e,_⟩
    ·exact absurd hj (h j)
    ·omega
theorem IsMin.run_live (h:IsMin F m) (u:List Nat) (hu:u≠ []):0≤m.run 0 u↔∃v,F (u++v)≠ -1:=by
 have hp:=h.ok.pos;constructor
 ·intro h0;have hl:u=u.dropLast++ [u.getLast hu]:=(List.dropLast_concat_getLast hu).symm;rw[hl,run_app] at h0;change 0≤m.to (m.run 0 u.dropLast) (u.getLast hu) at h0;have h1:=h.ok.run_in u.dropLast 0 (by omega) (by omega);by_cases c:0≤m.run 0 u.dropLast
  ·obtain⟨k,hk⟩:∃k:Nat,m.run 0 u.dropLast=k:=⟨_,(Int.toNat_of_nonneg c).symm⟩;rw[hk] at h0 h1;obtain⟨v,hv⟩:=h.live k _ (by omega) h0;refine⟨v,?_⟩;rw[←h.says,says_app];rw[hl,run_app,hk];exact hv
  ·rw[to_neg m (by omega)] at h0;omega
 ·rintro⟨v,hv⟩;by_cases c:0≤m.run 0 u
  ·exact c
  ·rw[←h.says,says_app,says_neg m (by omega)] at hv;exact absurd rfl hv
theorem run_of_live (hs:∀w,d.says 0 w=F w) (u:List Nat) (h:∃v,F (u++v)≠ -1):0≤d.run 0 u:=by
 obtain⟨v,hv⟩:=h;by_cases c:0≤d.run 0 u
 ·exact c
 ·rw[←hs,says_app,says_neg d (by omega)] at hv;exact absurd rfl hv
end
end Go.Proofs.YtjeomlickkpebaaGreatDoor
namespace Go.Proofs.YtjeomlickkpebaaGreatDoor
structure Gl where
 null:Bool
 first:Nat→Bool
 last:Nat→Bool
 fol:Nat→Nat→Bool
def noF:Nat→Bool:=fun _=>false
def noF2:Nat→Nat→Bool:=fun _ _=>false
def oneF (a:Nat):Nat→Bool:=fun i=>i==a
def orF (f g:Nat→Bool):Nat→Bool:=fun i=>f i||g i
def crossF (F:Nat→Nat→Bool) (l f:Nat→Bool):Nat→Nat→Bool:=fun i j=>F i j||(l i&&f j)
def orF2 (F G:Nat→Nat→Bool):Nat→Nat→Bool:=fun i j=>F i j||G i j
def seqG (p k:Gl):Gl:=⟨p.null&&k.null,if p.null=true then orF p.first k.first else p.first,if k.null=true then orF p.last k.last else k.last,crossF (orF2 p.fol k.fol) p.last k.first⟩
def eitherG (p k:Gl):Gl:=⟨p.null||k.null,orF p.first k.first,orF p.last k.last,orF2 p.fol k.fol⟩
def loopG (star:Bool) (k:Gl):Gl:=⟨k.null||star,k.first,k.last,crossF k.fol k.last k.first⟩
def maybeG (k:Gl):Gl:=⟨true,k.first,k.last,k.fol⟩
def emptyG:Gl:=⟨true,noF,noF,noF2⟩
def failG:Gl:=⟨false,noF,noF,noF2⟩
mutual
def setsN:Nd→List St4
 | .mk k s l=>if k=1 then s::setsL l else setsL l
def setsL:List Nd→List St4
 | []=> []
 | n::l=>setsN n++setsL l
end
mutual
def glN:Nd→Nat→Gl
 | .mk k _ l,a=>if k=1 then ⟨false,oneF a,oneF a,noF2⟩ else if k=2 then catG l a emptyG else if k=3 then altG l a failG else if k=4 then loopG true (oneG l a) else if k=5 then loopG false (oneG l a) else if k=6 then maybeG (oneG l a) else emptyG
def catG:List Nd→Nat→Gl→Gl
 | [],_,p=>p
 | n::l,a,p=>catG l (a+(setsN n).length) (seqG p (glN n a))
def altG:List Nd→Nat→Gl→Gl
 | [],_,p=>p
 | n::l,a,p=>altG l (a+(setsN n).length) (eitherG p (glN n a))
def oneG:List Nd→Nat→Gl
 | [],_=>emptyG
 | n::_,a=>glN n a
end
def PathG (F:Nat→Nat→Bool) (S:Nat→St4) (L:Nat→Bool):List Nat→Nat→Prop
 | [],p=>L p=true
 | b::w,p=>∃q,F p q=true∧hasR (S q) b=true∧PathG F S L w q
def WordG (g:Gl) (S:Nat→St4):List Nat→Prop
 | []=>g.null=true
 | b::w=>∃q,g.first q=true∧hasR (S q) b=true∧PathG g.fol S g.last w q
structure InG (g:Gl) (a b:Nat):Prop where
 first:∀q,g.first q=true→a≤q∧q<b
 last:∀q,g.last q=true→a≤q∧q<b
 fol:∀p q,g.fol p q=true→(a≤p∧p<b)∧a≤q∧q<b
theorem InG.mono {g:Gl} {a b c d:Nat} (h:InG g a b) (h1:c≤a) (h2:b≤d):InG g c d:=
 ⟨fun q e=>by have:=h.first q e;omega,fun q e=>by have:=h.last q e;omega,fun p q e=>by have:=h.fol p q e;omega⟩
theorem InG.firstNo {g:Gl} {a b:Nat} (h:InG g a b) {q:Nat} (hq:q<a∨b≤q):g.first q=false:=by
 rcases e:g.first q with _ | _
 ·rfl
 ·have:=h.first q e;omega
theorem InG.lastNo {g:Gl} {a b:Nat} (h:InG g a b) {q:Nat} (hq:q<a∨b≤q):g.last q=false:=by
 rcases e:g.last q with _ | _
 ·rfl
 ·have:=h.last q e;omega
theorem InG.folNo {g:Gl} {a b:Nat} (h:InG g a b) {p q:Nat} (hq:p<a∨b≤p):g.fol p q=false:=by
 rcases e:g.fol p q with _ | _
 ·rfl
 ·have:=h.fol p q e;omega
theorem in_empty (a b:Nat):InG emptyG a b:=⟨(fun q h=>by cases h),(fun q h=>by cases h),(fun p q h=>by cases h)⟩
theorem in_fail (a b:Nat):InG failG a b:=⟨(fun q h=>by cases h),(fun q h=>by cases h),(fun p q h=>by cases h)⟩
section
variable {p k:Gl} {a m c:Nat} {S:Nat→St4}
theorem in_seq (hp:InG p a m) (hk:InG k m c) (h1:a≤m) (h2:m≤c):InG (seqG p k) a c:=by
 refine⟨fun q e=> ?_,fun q e=> ?_,fun x y e=> ?_⟩
 ·simp only[seqG] at e;split at e
  ·simp only[orF,Bool.or_eq_true] at e;rcases e with e | e
   ·have:=hp.first q e;omega
   ·have:=hk.first q e;omega
  ·have:=hp.first q e;omega
 ·simp only[seqG] at e;split at e
  ·simp only[orF,Bool.or_eq_true] at e;rcases e with e | e
   ·have:=hp.last q e;omega
   ·have:=hk.last q e;omega
  ·have:=hk.last q e;omega
 ·simp only[seqG,crossF,orF2,Bool.or_eq_true,Bool.and_eq_true] at e;rcases e with (e | e) | ⟨e,f⟩
  ·have:=hp.fol x y e;omega
  ·have:=hk.fol x y e;omega
  ·have:=hp.last x e;have:=hk.first y f;omega
theorem path_seq_k (hp:InG p a m):∀(w:List Nat) (q:Nat),InG k m c→m≤q→(PathG (seqG p k).fol S (seqG p k).last w q↔PathG k.fol S k.last w q)
 | [],q,hk,hq=>by
  have h1:=hp.lastNo (q:=q) (.inr hq);simp only[PathG,seqG];split
  ·simp[orF,h1]
  ·exact Iff.rfl
 | b::w,q,hk,hq=>by
  simp only[PathG];refine exists_congr fun x=> ?_;have h1:=hp.lastNo (q:=q) (.inr hq);have h2:=hp.folNo (p:=q) (q:=x) (.inr hq);rw[show (seqG p k).fol q x=k.fol q x by simp[seqG,crossF,orF2,h1,h2]];constructor
  ·rintro⟨e,f,g⟩;exact⟨e,f,(path_seq_k hp w x hk (hk.fol _ _ e).2.1).1 g⟩
  ·rintro⟨e,f,g⟩;exact⟨e,f,(path_seq_k hp w x hk (hk.fol _ _ e).2.1).2 g⟩
theorem path_seq_p (hp:InG p a m) (hk:InG k m c):∀(w:List Nat) (q:Nat),q<m→(PathG (seqG p k).fol S (seqG p k).last w q↔∃u v,w=u++v∧PathG p.fol S p.last u q∧WordG k S v)
 | [],q,hq=>by
  have h1:=hk.lastNo (q:=q) (.inl hq);simp only[PathG,seqG];constructor
  ·intro h;split at h
   ·rename_i hn;simp only[orF,h1,Bool.or_false] at h;exact⟨[],[],rfl,h,hn⟩
   ·rw[h1] at h;cases h
  ·rintro⟨u,v,e,hu,hv⟩;obtain⟨rfl,rfl⟩:=List.append_eq_nil_iff.1 e.symm;have hn:k.null=true:=hv;rw[if_pos hn];simp only[orF,h1,Bool.or_false];exact hu
 | b::w,q,hq=>by
  simp only[PathG];constructor
  ·rintro⟨x,e,f,g⟩;simp only[seqG,crossF,orF2,Bool.or_eq_true,Bool.and_eq_true] at e;rcases e with (e | e) | ⟨e,e2⟩
   ·obtain⟨u,v,rfl,hu,hv⟩:=(path_seq_p hp hk w x (hp.fol _ _ e).2.2).1 g;exact⟨b::u,v,rfl,⟨x,e,f,hu⟩,hv⟩
   ·rw[hk.folNo (.inl hq)] at e;cases e
   ·exact⟨[],b::w,rfl,e,x,e2,f,(path_seq_k hp w x hk (hk.first _ e2).1).1 g⟩
  ·rintro⟨u,v,e,hu,hv⟩
   match u,e,hu with
   | [],e,hu=>
    rw[List.nil_append] at e;subst e;obtain⟨x,e2,f,g⟩:=hv;have hl:p.last q=true:=hu;exact⟨x,by simp[seqG,crossF,hl,e2],f,(path_seq_k hp w x hk (hk.first _ e2).1).2 g⟩
   | d::u,e,hu=>
    rw[List.cons_append] at e;injection e with e1 e2
    subst e1 e2;obtain⟨x,e2,f,g⟩:=hu;exact⟨x,by simp[seqG,crossF,orF2,e2],f,(path_seq_p hp hk _ x (hp.fol _ _ e2).2.2).2 ⟨u,v,rfl,g,hv⟩⟩
theorem word_seq (hp:InG p a m) (hk:InG k m c) (w:List Nat):WordG (seqG p k) S w↔∃u v,w=u++v∧WordG p S u∧WordG k S v:=by
 match w with
 | []=>
  simp only[WordG,seqG,Bool.and_eq_true];constructor
  ·rintro⟨h1,h2⟩;exact⟨[],[],rfl,h1,h2⟩
  ·rintro⟨u,v,e,hu,hv⟩;obtain⟨rfl,rfl⟩:=List.append_eq_nil_iff.1 e.symm;exact⟨hu,hv⟩
 | b::w=>
  simp only[WordG];constructor
  ·rintro⟨q,e,f,g⟩;have hcase:p.first q=true∨p.null=true∧k.first q=true:=by
    simp only[seqG] at e;split at e
    ·rename_i hn;simp only[orF,Bool.or_eq_true] at e;exact e.elim .inl fun e=> .inr ⟨hn,e⟩
    ·exact .inl e
   rcases hcase with e | ⟨hn,e⟩
   ·obtain⟨u,v,rfl,hu,hv⟩:=(path_seq_p hp hk w q (hp.first _ e).2).1 g;exact⟨b::u,v,rfl,⟨q,e,f,hu⟩,hv⟩
   ·exact⟨[],b::w,rfl,hn,q,e,f,(path_seq_k hp w q hk (hk.first _ e).1).1 g⟩
  ·rintro⟨u,v,e,hu,hv⟩
   match u,e,hu with
   | [],e,hu=>
    rw[List.nil_append] at e;subst e;obtain⟨q,e2,f,g⟩:=hv;have hn:p.null=true:=hu;exact⟨q,by simp[seqG,hn,orF,e2],f,(path_seq_k hp w q hk (hk.first _ e2).1).2 g⟩
   | d::u,e,hu=>
    rw[List.cons_append] at e;injection e with e1 e2
    subst e1 e2;obtain⟨q,e2,f,g⟩:=hu;exact⟨q,by simp only[seqG];split<;>simp[orF,e2],f,(path_seq_p hp hk _ q (hp.first _ e2).2).2 ⟨u,v,rfl,g,hv⟩⟩
theorem in_either (hp:InG p a m) (hk:InG k m c) (h1:a≤m) (h2:m≤c):InG (eitherG p k) a c:=by
 refine⟨fun q e=> ?_,fun q e=> ?_,fun x y e=> ?_⟩
 ·simp only[eitherG,orF,Bool.or_eq_true] at e;rcases e with e | e
  ·have:=hp.first q e;omega
  ·have:=hk.first q e;omega
 ·simp only[eitherG,orF,Bool.or_eq_true] at e;rcases e with e | e
  ·have:=hp.last q e;omega
  ·have:=hk.last q e;omega
 ·simp only[eitherG,orF2,Bool.or_eq_true] at e;rcases e with e | e
  ·have:=hp.fol x y e;omega
  ·have:=hk.fol x y e;omega
theorem path_either_p (hp:InG p a m) (hk:InG k m c):∀(w:List Nat) (q:Nat),q<m→(PathG (eitherG p k).fol S (eitherG p k).last w q↔PathG p.fol S p.last w q)
 | [],q,hq=>by simp[PathG,eitherG,orF,hk.lastNo (q:=q) (.inl hq)]
 | b::w,q,hq=>by
  simp only[PathG];refine exists_congr fun x=> ?_;rw[show (eitherG p k).fol q x=p.fol q x by simp[eitherG,orF2,hk.folNo (p:=q) (q:=x) (.inl hq)]];constructor
  ·rintro⟨e,f,g⟩;exact⟨e,f,(path_either_p hp hk w x (hp.fol _ _ e).2.2).1 g⟩
  ·rintro⟨e,f,g⟩;exact⟨e,f,(path_either_p hp hk w x (hp.fol _ _ e).2.2).2 g⟩
theorem path_either_k (hp:InG p a m) (hk:InG k m c):∀(w:List Nat) (q:Nat),m≤q→(PathG (eitherG p k).fol S (eitherG p k).last w q↔PathG k.fol S k.last w q)
 | [],q,hq=>by simp[PathG,eitherG,orF,hp.lastNo (q:=q) (.inr hq)]
 | b::w,q,hq=>by
  simp only[PathG];refine exists_congr fun x=> ?_;rw[show (eitherG p k).fol q x=k.fol q x by simp[eitherG,orF2,hp.folNo (p:=q) (q:=x) (.inr hq)]];constructor
  ·rintro⟨e,f,g⟩;exact⟨e,f,(path_either_k hp hk w x (hk.fol _ _ e).2.1).1 g⟩
  ·rintro⟨e,f,g⟩;exact⟨e,f,(path_either_k hp hk w x (hk.fol _ _ e).2.1).2 g⟩
theorem word_either (hp:InG p a m) (hk:InG k m c) (w:List Nat):WordG (eitherG p k) S w↔WordG p S w∨WordG k S w:=by
 match w with
 | []=>simp[WordG,eitherG]
 | b::w=>
  simp only[WordG];constructor
  ·rintro⟨q,e,f,g⟩;simp only[eitherG,orF,Bool.or_eq_true] at e;rcases e with e | e
   ·exact .inl ⟨q,e,f,(path_either_p hp hk w q (hp.first _ e).2).1 g⟩
   ·exact .inr ⟨q,e,f,(path_either_k hp hk w q (hk.first _ e).1).1 g⟩
  ·rintro (⟨q,e,f,g⟩ | ⟨q,e,f,g⟩)
   ·exact⟨q,by simp[eitherG,orF,e],f,(path_either_p hp hk w q (hp.first _ e).2).2 g⟩
   ·exact⟨q,by simp[eitherG,orF,e],f,(path_either_k hp hk w q (hk.first _ e).1).2 g⟩
theorem star_cons {L:List Nat→Prop} {x:List Nat} (h:StarP L x):∀b w,x=b::w→∃u v,w=u++v∧L (b::u)∧StarP L v:=by
 induction h with
 | nil=>intro b w e;cases e
 | @cons u v hu hv ih=>
  intro b w e
  match u,hu,e with
  | [],_,e=>exact ih b w e
  | d::u,hu,e=>
   rw[List.cons_append] at e;injection e with e1 e2
   subst e1 e2;exact⟨u,v,rfl,hu,hv⟩
theorem in_loop (star:Bool) (hk:InG k m c):InG (loopG star k) m c:=
 ⟨hk.first,hk.last,fun x y e=>by
  simp only[loopG,crossF,Bool.or_eq_true,Bool.and_eq_true] at e;rcases e with e | ⟨e,f⟩
  ·exact hk.fol x y e
  ·exact⟨hk.last x e,hk.first y f⟩⟩
theorem path_loop (star:Bool):∀(w:List Nat) (q:Nat),PathG (loopG star k).fol S k.last w q→∃u v,w=u++v∧PathG k.fol S k.last u q∧StarP (WordG k S) v
 | [],q,h=>⟨[],[],rfl,h,.nil⟩
 | b::w,q,⟨x,e,f,g⟩=>by
  obtain⟨u,v,rfl,hu,hv⟩:=path_loop star w x g;simp only[loopG,crossF,Bool.or_eq_true,Bool.and_eq_true] at e;rcases e with e | ⟨e,e2⟩
  ·exact⟨b::u,v,rfl,⟨x,e,f,hu⟩,hv⟩
  ·exact⟨[],b::(u++v),rfl,e,.cons (u:=b::u) ⟨x,e2,f,hu⟩ hv⟩
theorem path_on (star:Bool) {v:List Nat} (hv:∀q,k.last q=true→PathG (loopG star k).fol S k.last v q):∀(u:List Nat) (q:Nat),PathG k.fol S k.last u q→PathG (loopG star k).fol S k.last (u++v) q
 | [],q,h=>hv q h
 | b::u,q,⟨x,e,f,g⟩=>⟨x,by simp[loopG,crossF,e],f,path_on star hv u x g⟩
theorem path_round (star:Bool) {v:List Nat} (h:StarP (WordG k S) v):∀q,k.last q=true→PathG (loopG star k).fol S k.last v q:=by
 induction h with
 | nil=>intro q h;exact h
 | @cons u v hu hv ih=>
  intro q h
  match u,hu with
  | [],_=>exact ih q h
  | b::u,⟨x,e,f,g⟩=>exact⟨x,by simp[loopG,crossF,h,e],f,path_on star ih u x g⟩
theorem word_loop_cons (star:Bool) (b:Nat) (w:List Nat):WordG (loopG star k) S (b::w)↔∃u v,w=u++v∧WordG k S (b::u)∧StarP (WordG k S) v:=by
 constructor
 ·rintro⟨q,e,f,g⟩;obtain⟨u,v,rfl,hu,hv⟩:=path_loop star w q g;exact⟨u,v,rfl,⟨q,e,f,hu⟩,hv⟩
 ·rintro⟨u,v,rfl,⟨q,e,f,g⟩,hv⟩;exact⟨q,e,f,path_on star (path_round star hv) u q g⟩
theorem word_star (w:List Nat):WordG (loopG true k) S w↔StarP (WordG k S) w:=by
 match w with
 | []=>exact⟨fun _=> .nil,fun _=>by simp[WordG,loopG]⟩
 | b::w=>
  rw[word_loop_cons];constructor
  ·rintro⟨u,v,rfl,hu,hv⟩;exact .cons (u:=b::u) hu hv
  ·intro h;exact star_cons h b w rfl
theorem word_plus (w:List Nat):WordG (loopG false k) S w↔PlusP (WordG k S) w:=by
 match w with
 | []=>
  constructor
  ·intro h;exact⟨[],[],rfl,by simpa [WordG,loopG] using h,.nil⟩
  ·rintro⟨u,v,e,hu,hv⟩;obtain⟨rfl,rfl⟩:=List.append_eq_nil_iff.1 e.symm;have hn:k.null=true:=hu;simp[WordG,loopG,hn]
 | b::w=>
  rw[word_loop_cons];constructor
  ·rintro⟨u,v,rfl,hu,hv⟩;exact⟨b::u,v,rfl,hu,hv⟩
  ·rintro⟨u,v,e,hu,hv⟩
   match u,e,hu with
   | [],e,_=>exact star_cons hv b w e.symm
   | d::u,e,hu=>
    rw[List.cons_append] at e;injection e with e1 e2
    subst e1 e2;exact⟨u,v,rfl,hu,hv⟩
end
def SetsAt (S:Nat→St4) (a:Nat) (l:List St4):Prop:=∀i s,l[i]? =some s→S (a+i)=s
theorem SetsAt.left {S:Nat→St4} {a:Nat} {l m:List St4} (h:SetsAt S a (l++m)):SetsAt S a l:=fun i s e=>h i s (by rw[List.getElem?_append_left (List.getElem?_eq_some_iff.1 e).1];exact e)
theorem SetsAt.right {S:Nat→St4} {a:Nat} {l m:List St4} (h:SetsAt S a (l++m)):SetsAt S (a+l.length) m:=fun i s e=>by
 have:=h (l.length+i) s (by rw[List.getElem?_append_right (by omega),Nat.add_sub_cancel_left];exact e);rw[←this];congr 1;omega
structure GoodG (g:Gl) (a b:Nat) (S:Nat→St4) (L:List Nat→Prop):Prop where
 in_:InG g a b
 word:∀w,WordG g S w↔L w
theorem lang_empty (S:Nat→St4) (w:List Nat):WordG emptyG S w↔w= []:=by
 match w with
 | []=>simp[WordG,emptyG]
 | b::w=>exact⟨(fun⟨_,e,_⟩=>by cases e),(fun h=>by cases h)⟩
theorem lang_fail (S:Nat→St4) (w:List Nat):WordG failG S w↔False:=by
 match w with
 | []=>simp[WordG,failG]
 | b::w=>exact⟨(fun⟨_,e,_⟩=>by cases e),(fun h=>h.elim)⟩
theorem starP_congr {L M:List Nat→Prop} (h:∀w,L w↔M w) (w:List Nat):StarP L w↔StarP M w:=by
 have:L=M:=funext fun x=>propext (h x);rw[this]
mutual
theorem gl_ok:∀(n:Nd),mayR n=true→∀(a:Nat) (S:Nat→St4),SetsAt S a (setsN n)→GoodG (glN n a) a (a+(setsN n).length) S (LangN n)
 | .mk k s l,h,a,S,hS=>by
  obtain⟨h1,h2⟩:=may_parts h;obtain⟨f0,f6,f1,f4,f2,fs⟩:=form_spec h1;by_cases k1:k=1
  ·have e1:l= []:=List.eq_nil_of_length_eq_zero (f1 (by omega));subst e1 k1;rw[setsN,if_pos rfl,setsL] at hS ⊢;rw[glN,if_pos rfl];have hs:S a=s:=hS 0 s rfl;refine⟨⟨fun q e=> ?_,fun q e=> ?_,fun x y e=>by cases e⟩,fun w=> ?_⟩
   ·have:q=a:=(by simpa [oneF] using e);simp;omega
   ·have:q=a:=(by simpa [oneF] using e);simp;omega
   ·rw[LangN,if_pos rfl]
    match w with
    | []=>exact⟨(fun e=>by cases e),(fun⟨b,e,_⟩=>by cases e)⟩
    | b::w=>
     constructor
     ·rintro⟨q,e,f,g⟩;have e:q=a:=(by simpa [oneF] using e);subst e;rw[hs] at f
      match w,g with
      | [],_=>exact⟨b,rfl,f⟩
      | c::w,⟨x,e,_⟩=>cases e
     ·rintro⟨c,e,f⟩;injection e with e1 e2
      subst e1 e2;exact⟨a,by simp[oneF],by rw[hs];exact f,by simp[PathG,oneF]⟩
  rw[setsN,if_neg k1] at hS ⊢;rw[glN,if_neg k1];by_cases k2:k=2
  ·rw[if_pos k2];obtain⟨i1,i2⟩:=cat_ok l h2 a a (Nat.le_refl _) S hS emptyG (fun w=>w= []) ⟨in_empty a a,lang_empty S⟩;refine⟨i1,fun w=>(i2 w).trans ?_⟩;rw[LangN,if_neg k1,if_pos k2];constructor
   ·rintro⟨u,v,rfl,rfl,h⟩;exact h
   ·intro h;exact⟨[],w,rfl,rfl,h⟩
  rw[if_neg k2];by_cases k3:k=3
  ·rw[if_pos k3];obtain⟨i1,i2⟩:=alt_ok l h2 a a (Nat.le_refl _) S hS failG (fun _=>False) ⟨in_fail a a,lang_fail S⟩;refine⟨i1,fun w=>(i2 w).trans ?_⟩;rw[LangN,if_neg k1,if_neg k2,if_pos k3,false_or]
  rw[if_neg k3];by_cases k4:k=4
  ·rw[if_pos k4];obtain⟨i1,i2⟩:=one_ok l (by omega) h2 a S hS;refine⟨in_loop _ i1,fun w=>(word_star w).trans ?_⟩;rw[LangN,if_neg k1,if_neg k2,if_neg k3,if_pos k4];exact starP_congr i2 w
  rw[if_neg k4];by_cases k5:k=5
  ·rw[if_pos k5];obtain⟨i1,i2⟩:=one_ok l (by omega) h2 a S hS;refine⟨in_loop _ i1,fun w=>(word_plus w).trans ?_⟩;rw[LangN,if_neg k1,if_neg k2,if_neg k3,if_neg k4,if_pos k5];exact exists_congr fun u=>exists_congr fun v=>and_congr Iff.rfl (and_congr (i2 u) (starP_congr i2 v))
  rw[if_neg k5];by_cases k6:k=6
  ·rw[if_pos k6];obtain⟨i1,i2⟩:=one_ok l (by omega) h2 a S hS;refine⟨⟨i1.first,i1.last,i1.fol⟩,fun w=> ?_⟩;rw[LangN,if_neg k1,if_neg k2,if_neg k3,if_neg k4,if_neg k5,if_pos k6,←i2 w]
   match w with
   | []=>simp[WordG,maybeG]
   | b::w=>exact⟨.inr,fun h=>h.elim (fun e=>by cases e) id⟩
  rw[if_neg k6];have k0:k=0:=by omega
  have e1:l= []:=List.eq_nil_of_length_eq_zero (f1 (by omega));refine⟨in_empty _ _,fun w=> ?_⟩;rw[LangN,if_neg k1,if_neg k2,if_neg k3,if_neg k4,if_neg k5,if_neg k6];exact lang_empty S w
theorem cat_ok:∀(l:List Nd),mayL l=true→∀(a0 a:Nat),a0≤a→∀(S:Nat→St4),SetsAt S a (setsL l)→∀(p:Gl) (L:List Nat→Prop),GoodG p a0 a S L→GoodG (catG l a p) a0 (a+(setsL l).length) S (fun w=>∃u v,w=u++v∧L u∧LangC l v)
 | [],_,a0,a,h0,S,_,p,L,hp=>by
  rw[catG,setsL];refine⟨hp.in_,fun w=>(hp.word w).trans ?_⟩;constructor
  ·intro h;exact⟨w,[],(List.append_nil _).symm,h,by rw[LangC]⟩
  ·rintro⟨u,v,rfl,hu,hv⟩;rw[LangC] at hv;subst hv;rw[List.append_nil];exact hu
 | n::l,h,a0,a,h0,S,hS,p,L,hp=>by
  rw[mayL,Bool.and_eq_true] at h;rw[setsL] at hS ⊢;rw[catG];obtain⟨i1,i2⟩:=gl_ok n h.1 a S hS.left;have hseq:GoodG (seqG p (glN n a)) a0 (a+(setsN n).length) S (fun w=>∃u v,w=u++v∧L u∧LangN n v):=⟨in_seq hp.in_ i1 h0 (by omega),fun w=>(word_seq hp.in_ i1 w).trans (exists_congr fun u=>exists_congr fun v=>and_congr Iff.rfl (and_congr (hp.word u) (i2 v)))⟩;obtain⟨j1,j2⟩:=cat_ok l h.2 a0 _ (by omega) S hS.right _ _ hseq;refine⟨by rw[List.length_append,←Nat.add_assoc];exact j1,fun w=>(j2 w).trans ?_⟩;constructor
  ·rintro⟨x,v,rfl,⟨u,y,rfl,hu,hy⟩,hv⟩;exact⟨u,y++v,by rw[List.append_assoc],hu,by rw[LangC];exact⟨y,v,rfl,hy,hv⟩⟩
  ·rintro⟨u,x,rfl,hu,hx⟩;rw[LangC] at hx;obtain⟨y,v,rfl,hy,hv⟩:=hx;exact⟨u++y,v,by rw[List.append_assoc],⟨u,y,rfl,hu,hy⟩,hv⟩
theorem alt_ok:∀(l:List Nd),mayL l=true→∀(a0 a:Nat),a0≤a→∀(S:Nat→St4),SetsAt S a (setsL l)→∀(p:Gl) (L:List Nat→Prop),GoodG p a0 a S L→GoodG (altG l a p) a0 (a+(setsL l).length) S (fun w=>L w∨LangA l w)
 | [],_,a0,a,h0,S,_,p,L,hp=>by
  rw[altG,setsL];exact⟨hp.in_,fun w=>(hp.word w).trans (by rw[LangA,or_false])⟩
 | n::l,h,a0,a,h0,S,hS,p,L,hp=>by
  rw[mayL,Bool.and_eq_true] at h;rw[setsL] at hS ⊢;rw[altG];obtain⟨i1,i2⟩:=gl_ok n h.1 a S hS.left;have hseq:GoodG (eitherG p (glN n a)) a0 (a+(setsN n).length) S (fun w=>L w∨LangN n w):=⟨in_either hp.in_ i1 h0 (by omega),fun w=>(word_either hp.in_ i1 w).trans (or_congr (hp.word w) (i2 w))⟩;obtain⟨j1,j2⟩:=alt_ok l h.2 a0 _ (by omega) S hS.right _ _ hseq;exact⟨by rw[List.length_append,←Nat.add_assoc];exact j1,fun w=>(j2 w).trans (by rw[LangA,or_assoc])⟩
theorem one_ok:∀(l:List Nd),l.length=1→mayL l=true→∀(a:Nat) (S:Nat→St4),SetsAt S a (setsL l)→GoodG (oneG l a) a (a+(setsL l).length) S (LangO l)
 | [],h,_,_,_,_=>by cases h
 | [n],_,h,a,S,hS=>by
  rw[mayL,Bool.and_eq_true] at h;rw[setsL,setsL,List.append_nil] at hS ⊢;rw[oneG];obtain⟨i1,i2⟩:=gl_ok n h.1 a S hS;exact⟨i1,fun w=>(i2 w).trans (by rw[LangO])⟩
 | _::_::_,h,_,_,_,_=>by cases h
end
end Go.Proofs.YtjeomlickkpebaaGreatDoor
