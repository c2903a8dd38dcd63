/-
  Texts of this proof, one behind the other; each begins with its own remark.
-/
import Derived.Test.YtjeomlickkpebaaGreatDoorBe8
import Derived.Test.YtjeomlickkpebaaGreatDoorBe3
namespace Go.Proofs.YtjeomlickkpebaaGreatDoor
inductive EpsK (Q:List Sta):Nat→Nat→Nat→Prop
 | here {i:Nat} {s:Sta} (h:Q[i]? =some s) (hk:s.kind≠1):EpsK Q i i 0
 | next {i j k:Nat} {s:Sta} (h:Q[i]? =some s) (hk:s.kind=1) (g:EpsK Q s.next j k):EpsK Q i j (k+1)
 | also {i j k:Nat} {s:Sta} (h:Q[i]? =some s) (hk:s.kind=1) (g:EpsK Q s.also j k):EpsK Q i j (k+1)
def EpsE (Q:List Sta) (i j:Nat):Prop:=∃k,EpsK Q i j k
def Agree (Q q':List Sta) (m:Nat):Prop:=∀i,m≤i→i<q'.length→Q[i]? =q'[i]?
structure BS (g:Gl) (a b:Nat) (σ:Nat→Nat) (S:Nat→St4) (q q':List Sta) (next at_:Nat):Prop where
 len:q.length≤q'.length
 same:∀i,i<q.length→q'[i]? =q[i]?
 in_:InG g a b
 take:∀p,a≤p→p<b→q.length≤σ p∧σ p<q'.length∧∃nx,q'[σ p]? =some (takeS (S p) nx)
 fwd:∀Q,Agree Q q' q.length→∀j k,EpsK Q at_ j k→(∃p,g.first p=true∧j=σ p)∨g.null=true∧∃k',k'≤k∧EpsK Q next j k'
 first:∀Q,Agree Q q' q.length→∀p,g.first p=true→EpsE Q at_ (σ p)
 null:∀Q,Agree Q q' q.length→g.null=true→∀j,EpsE Q next j→EpsE Q at_ j
 on:∀Q,Agree Q q' q.length→∀p nx,a≤p→p<b→Q[σ p]? =some (takeS (S p) nx)→∀j,EpsE Q nx j→(∃p',g.fol p p'=true∧j=σ p')∨g.last p=true∧EpsE Q next j
 fol:∀Q,Agree Q q' q.length→∀p nx p',Q[σ p]? =some (takeS (S p) nx)→g.fol p p'=true→EpsE Q nx (σ p')
 last:∀Q,Agree Q q' q.length→∀p nx,Q[σ p]? =some (takeS (S p) nx)→g.last p=true→∀j,EpsE Q next j→EpsE Q nx j
section
variable {p k:Gl} {a0 a c:Nat} {σ τ:Nat→Nat} {S:Nat→St4} {q q1 q2:List Sta} {next at1 at2:Nat}
end
end Go.Proofs.YtjeomlickkpebaaGreatDoor
namespace Go.Proofs.YtjeomlickkpebaaGreatDoor
section
variable {Q:List Sta}
end
theorem anyP_step:∀(rs:List RuN) (x:List (Nat→Bool)) (b:Nat),anyP rs x=false→anyP rs (placeStep rs x b)=false
 | [],x,_,_=>by cases x<;>rfl
 | _::_,[],_,_=>rfl
 | r::rs,a::x,b,h=>by
  rw[anyP,Bool.or_eq_false_iff] at h;rw[placeStep,anyP,Bool.or_eq_false_iff];refine⟨?_,anyP_step rs x b h.2⟩;rcases hq:isAny r (stepG r a b) with _ | _
  ·rfl
  ·obtain⟨q,hq1,hq2⟩:=(any_iff _ _).1 hq;simp only[stepG,Bool.and_eq_true] at hq2;obtain⟨p,hp,hap,_⟩:=(ors_iff r a q r.m).1 hq2.1;have:=(any_iff a r.m).2 ⟨p,hp,hap⟩;have h3:=h.1;unfold isAny at h3;rw[h3] at this;cases this
def placesP (rs:List RuN):List Nat→List (Nat→Bool)→List (Nat→Bool)
 | [],x=>x
 | b::w,x=>placesP rs w (placeStep rs x b)
end Go.Proofs.YtjeomlickkpebaaGreatDoor
namespace Go.Proofs.YtjeomlickkpebaaGreatDoor
def FullS (l:List St4):Prop:=∀s,s∈l→∃b,b<256∧hasR s b=true
theorem FullS.left {l m:List St4} (h:FullS (l++m)):FullS l:=fun s hs=>h s (by simp[hs])
theorem FullS.right {l m:List St4} (h:FullS (l++m)):FullS m:=fun s hs=>h s (by simp[hs])
theorem by_nil:ByL []:=fun b hb=>by cases hb
theorem by_app {u v:List Nat} (hu:ByL u) (hv:ByL v):ByL (u++v):=fun b hb=>(List.mem_append.1 hb).elim (hu b) (hv b)
theorem by_one {b:Nat} (h:b<256):ByL [b]:=fun c hc=>by rw[List.mem_singleton.1 hc];exact h
mutual
theorem live_word:∀(n:Nd),mayR n=true→FullS (setsN n)→∃w,ByL w∧LangN n w
 | .mk k s l,h,hf=>by
  obtain⟨h1,h2⟩:=may_parts h;obtain⟨f0,f6,f1,f4,f2,fs⟩:=form_spec h1;by_cases k1:k=1
  ·rw[setsN,if_pos k1] at hf;obtain⟨b,hb,hs⟩:=hf s (by simp);exact⟨[b],by_one hb,by rw[LangN,if_pos k1];exact⟨b,rfl,hs⟩⟩
  rw[setsN,if_neg k1] at hf;by_cases k2:k=2
  ·obtain⟨w,hw,hl⟩:=live_cat l h2 hf;exact⟨w,hw,by rw[LangN,if_neg k1,if_pos k2];exact hl⟩
  by_cases k3:k=3
  ·obtain⟨w,hw,hl⟩:=live_alt l (by have:=f2 (.inr k3);omega) h2 hf;exact⟨w,hw,by rw[LangN,if_neg k1,if_neg k2,if_pos k3];exact hl⟩
  by_cases k4:k=4
  ·exact⟨[],by_nil,by rw[LangN,if_neg k1,if_neg k2,if_neg k3,if_pos k4];exact .nil⟩
  by_cases k5:k=5
  ·obtain⟨w,hw,hl⟩:=live_one l (by have:=f4 (by omega);omega) h2 hf;exact⟨w,hw,by rw[LangN,if_neg k1,if_neg k2,if_neg k3,if_neg k4,if_pos k5];exact⟨w,[],(List.append_nil w).symm,hl,.nil⟩⟩
  by_cases k6:k=6
  ·exact⟨[],by_nil,by rw[LangN,if_neg k1,if_neg k2,if_neg k3,if_neg k4,if_neg k5,if_pos k6];exact .inl rfl⟩
  ·exact⟨[],by_nil,by rw[LangN,if_neg k1,if_neg k2,if_neg k3,if_neg k4,if_neg k5,if_neg k6]⟩
theorem live_cat:∀(l:List Nd),mayL l=true→FullS (setsL l)→∃w,ByL w∧LangC l w
 | [],_,_=>⟨[],by_nil,by rw[LangC]⟩
 | n::l,h,hf=>by
  rw[mayL,Bool.and_eq_true] at h;rw[setsL] at hf;obtain⟨u,hu,hu2⟩:=live_word n h.1 hf.left;obtain⟨v,hv,hv2⟩:=live_cat l h.2 hf.right;exact⟨u++v,by_app hu hv,by rw[LangC];exact⟨u,v,rfl,hu2,hv2⟩⟩
theorem live_alt:∀(l:List Nd),0<l.length→mayL l=true→FullS (setsL l)→∃w,ByL w∧LangA l w
 | [],h0,_,_=>absurd h0 (Nat.lt_irrefl _)
 | n::l,_,h,hf=>by
  rw[mayL,Bool.and_eq_true] at h;rw[setsL] at hf;obtain⟨u,hu,hu2⟩:=live_word n h.1 hf.left;exact⟨u,hu,by rw[LangA];exact .inl hu2⟩
theorem live_one:∀(l:List Nd),0<l.length→mayL l=true→FullS (setsL l)→∃w,ByL w∧LangO l w
 | [],h0,_,_=>absurd h0 (Nat.lt_irrefl _)
 | n::l,_,h,hf=>by
  rw[mayL,Bool.and_eq_true] at h;rw[setsL] at hf;obtain⟨u,hu,hu2⟩:=live_word n h.1 hf.left;exact⟨u,hu,by rw[LangO];exact hu2⟩
end
def CoG (g:Gl) (a b:Nat) (S:Nat→St4):Prop:=∀q,a≤q→q<b→∃w,ByL w∧PathG g.fol S g.last w q
theorem co_none (g:Gl) (a:Nat) (S:Nat→St4):CoG g a a S:=fun q h1 h2=>by omega
mutual
theorem live_path:∀(n:Nd),mayR n=true→∀(a:Nat) (S:Nat→St4),SetsAt S a (setsN n)→FullS (setsN n)→CoG (glN n a) a (a+(setsN n).length) S
 | .mk k s l,h,a,S,hS,hf=>by
  obtain⟨h1,h2⟩:=may_parts h;obtain⟨f0,f6,f1,f4,f2,fs⟩:=form_spec h1;by_cases k1:k=1
  ·have e1:l= []:=List.eq_nil_of_length_eq_zero (f1 (by omega));subst e1 k1;rw[setsN,if_pos rfl,setsL,glN,if_pos rfl];intro q hq1 hq2;have:q=a:=(by simp at hq2;omega);subst this;exact⟨[],by_nil,by simp[PathG,oneF]⟩
  rw[setsN,if_neg k1] at hS hf ⊢;rw[glN,if_neg k1];by_cases k2:k=2
  ·rw[if_pos k2];exact path_cat l h2 a a (Nat.le_refl _) S hS hf emptyG (in_empty a a) (co_none _ _ _)
  rw[if_neg k2];by_cases k3:k=3
  ·rw[if_pos k3];exact path_alt l h2 a a (Nat.le_refl _) S hS hf failG (in_fail a a) (co_none _ _ _)
  rw[if_neg k3];have loop:∀star,l.length=1→CoG (loopG star (oneG l a)) a (a+(setsL l).length) S:=fun star h3 q hq1 hq2=>by
   obtain⟨w,hw,hp⟩:=path_one l h3 h2 a S hS hf q hq1 hq2;have:=path_on (k:=oneG l a) (S:=S) star (v:= []) (fun q h=>h) w q hp;rw[List.append_nil] at this;exact⟨w,hw,this⟩
  by_cases k4:k=4
  ·rw[if_pos k4];exact loop true (by have:=f4 (by omega);omega)
  rw[if_neg k4];by_cases k5:k=5
  ·rw[if_pos k5];exact loop false (by have:=f4 (by omega);omega)
  rw[if_neg k5];by_cases k6:k=6
  ·rw[if_pos k6];exact path_one l (by have:=f4 (by omega);omega) h2 a S hS hf
  rw[if_neg k6];have e1:l= []:=List.eq_nil_of_length_eq_zero (f1 (by omega));subst e1;rw[setsL];exact co_none _ _ _
theorem path_cat:∀(l:List Nd),mayL l=true→∀(a0 a:Nat),a0≤a→∀(S:Nat→St4),SetsAt S a (setsL l)→FullS (setsL l)→∀(p:Gl),InG p a0 a→CoG p a0 a S→CoG (catG l a p) a0 (a+(setsL l).length) S
 | [],_,a0,a,h0,S,_,_,p,_,hp=>by
  rw[catG,setsL];exact hp
 | n::l,h,a0,a,h0,S,hS,hf,p,hi,hp=>by
  rw[mayL,Bool.and_eq_true] at h;rw[setsL] at hS hf ⊢;rw[catG];obtain⟨i1,i2⟩:=gl_ok n h.1 a S hS.left;have hn:=live_path n h.1 a S hS.left hf.left;have hco:CoG (seqG p (glN n a)) a0 (a+(setsN n).length) S:=fun q hq1 hq2=>by
   by_cases c:q<a
   ·obtain⟨u,hu,hu2⟩:=hp q hq1 c;obtain⟨v,hv,hv2⟩:=live_word n h.1 hf.left;exact⟨u++v,by_app hu hv,(path_seq_p hi i1 (u++v) q c).2 ⟨u,v,rfl,hu2,(i2 v).2 hv2⟩⟩
   ·obtain⟨w,hw,hw2⟩:=hn q (by omega) hq2;exact⟨w,hw,(path_seq_k hi w q i1 (by omega)).2 hw2⟩
  have:=path_cat l h.2 a0 (a+(setsN n).length) (by omega) S hS.right hf.right _ (in_seq hi i1 h0 (by omega)) hco;rw[List.length_append,←Nat.add_assoc];exact this
theorem path_alt:∀(l:List Nd),mayL l=true→∀(a0 a:Nat),a0≤a→∀(S:Nat→St4),SetsAt S a (setsL l)→FullS (setsL l)→∀(p:Gl),InG p a0 a→CoG p a0 a S→CoG (altG l a p) a0 (a+(setsL l).length) S
 | [],_,a0,a,h0,S,_,_,p,_,hp=>by
  rw[altG,setsL];exact hp
 | n::l,h,a0,a,h0,S,hS,hf,p,hi,hp=>by
  rw[mayL,Bool.and_eq_true] at h;rw[setsL] at hS hf ⊢;rw[altG];obtain⟨i1,i2⟩:=gl_ok n h.1 a S hS.left;have hn:=live_path n h.1 a S hS.left hf.left;have hco:CoG (eitherG p (glN n a)) a0 (a+(setsN n).length) S:=fun q hq1 hq2=>by
   by_cases c:q<a
   ·obtain⟨u,hu,hu2⟩:=hp q hq1 c;exact⟨u,hu,(path_either_p hi i1 u q c).2 hu2⟩
   ·obtain⟨w,hw,hw2⟩:=hn q (by omega) hq2;exact⟨w,hw,(path_either_k hi i1 w q (by omega)).2 hw2⟩
  have:=path_alt l h.2 a0 (a+(setsN n).length) (by omega) S hS.right hf.right _ (in_either hi i1 h0 (by omega)) hco;rw[List.length_append,←Nat.add_assoc];exact this
theorem path_one:∀(l:List Nd),l.length=1→mayL l=true→∀(a:Nat) (S:Nat→St4),SetsAt S a (setsL l)→FullS (setsL l)→CoG (oneG l a) a (a+(setsL l).length) S
 | [],h,_,_,_,_,_=>by cases h
 | [n],_,h,a,S,hS,hf=>by
  rw[mayL,Bool.and_eq_true] at h;rw[setsL,setsL,List.append_nil] at hS hf ⊢;rw[oneG];exact live_path n h.1 a S hS hf
 | _::_::_,h,_,_,_,_,_=>by cases h
end
def FullN (r:RuN):Prop:=FullS r.sets.tail
theorem rule_live (n:Nd) (hm:mayR n=true) (hw:wfR n) (hf:FullN (ruleN n)) (at_:Nat→Bool) (h:isAny (ruleN n) at_=true):∃w,ByL w∧RunG (ruleN n) at_ w:=by
 have hf2:FullS (setsN n):=hf;have hset:SetsAt (setAt (noR::setsN n)) 1 (setsN n):=fun i s h=>by
  unfold setAt;rw[Nat.add_comm,List.getD_cons_succ,List.getD_eq_getElem?_getD,h];rfl
 obtain⟨g1,g2⟩:=gl_ok n hm 1 _ hset;have hpath:∀(w:List Nat) (p:Nat),0<p→(PathG (ruleN n).behind (setAt (noR::setsN n)) (ruleN n).last w p↔PathG (glN n 1).fol (setAt (noR::setsN n)) (glN n 1).last w p):=by
  intro w
  induction w with
  | nil=>
   intro p hp;simp only[PathG,ruleN];rw[if_neg (by omega)]
  | cons b w ih=>
   intro p hp;simp only[PathG];refine exists_congr fun q=> ?_;rw[show (ruleN n).behind p q=(glN n 1).fol p q by simp only[ruleN];rw[if_neg (by omega)]];constructor
   ·rintro⟨e,f,g⟩;exact⟨e,f,(ih q (by have:=(g1.fol _ _ e).2;omega)).1 g⟩
   ·rintro⟨e,f,g⟩;exact⟨e,f,(ih q (by have:=(g1.fol _ _ e).2;omega)).2 g⟩
 obtain⟨p,hp,hat⟩:=(any_iff at_ _).1 h;by_cases c:p=0
 ·subst c;obtain⟨w,hw1,hw2⟩:=live_word n hm hf2;obtain⟨p2,hp2,e2,hg⟩:=((rule_ok n hm hw).word w).2 hw2;have:p2=0:=by simpa [startG,oneF] using e2
  subst this;exact⟨w,hw1,0,hp,hat,hg⟩
 ·obtain⟨w,hw1,hw2⟩:=live_path n hm 1 _ hset hf2 p (by omega) (by
   have h5:p<(setsN n).length+1:=hp;omega)
  exact⟨w,hw1,p,hp,hat,(hpath w p (by omega)).2 hw2⟩
theorem semP_live:∀(l:List Nd),GoodL l→(∀n,n∈l→FullN (ruleN n))→∀(x:List (Nat→Bool)) (j:Nat),anyP (l.map ruleN) x=true→∃w,ByL w∧semP (l.map ruleN) x j w≠ -1
 | [],_,_,_,_,h=>by cases h
 | _::_,_,_,[],_,h=>by cases h
 | n::l,hg,hf,a::x,j,h=>by
  rw[List.map_cons] at h ⊢;rw[anyP,Bool.or_eq_true] at h;obtain⟨hm,hw⟩:=hg n (by simp);by_cases c:isAny (ruleN n) a=true
  ·obtain⟨w,hw1,hw2⟩:=rule_live n hm hw (hf n (by simp)) a c;refine⟨w,hw1,?_⟩;rw[semP,if_pos ((ends_run (rule_ok n hm hw) a w).2 hw2)];omega
  ·obtain⟨w,hw1,hw2⟩:=semP_live l (fun m hm=>hg m (by simp[hm])) (fun m hm=>hf m (by simp[hm])) x (j+1) (h.resolve_left c);refine⟨w,hw1,?_⟩;rw[semP];split
   ·omega
   ·exact hw2
end Go.Proofs.YtjeomlickkpebaaGreatDoor
namespace Go.Proofs.YtjeomlickkpebaaGreatDoor
def farG (r:RuN):List Nat→(Nat→Bool)→Int→Int→Int
 | [],at_,i,far=>if isAny r at_=true then max far i else far
 | b::w,at_,i,far=>if isAny r at_=true then farG r w (stepG r at_ b) (i+1) (max far i) else far
def farsG:List RuN→List Nat→Int→Int
 | [],_,far=>far
 | r::l,W,far=>farsG l W (farG r W startG 0 far)
def matchGA (rs:List RuN) (s:ByteArray) (a:Int):Int×Int:=if a<0∨(s.size:Int)<a then (0,-1) else matchG rs 0 (restR s a.toNat) 0 (-1)
def farA (rs:List RuN) (s:ByteArray) (a:Int):Int:=if a<0∨(s.size:Int)<a then 0 else farsG rs (restR s a.toNat) 0
end Go.Proofs.YtjeomlickkpebaaGreatDoor
namespace Go.Proofs.YtjeomlickkpebaaGreatDoor
theorem any_step (r:RuN) (a:Nat→Bool) (b:Nat) (h:isAny r a=false):isAny r (stepG r a b)=false:=by
 have:=anyP_step [r] [a] b (by rw[anyP,h];rfl);rw[placeStep,anyP] at this;exact (Bool.or_eq_false_iff.1 this).1
theorem any_steps (r:RuN):∀(w:List Nat) (a:Nat→Bool),isAny r a=false→isAny r (stepsG r w a)=false
 | [],_,h=>h
 | b::w,a,h=>any_steps r w _ (any_step r a b h)
theorem stepsG_app (r:RuN):∀(u v:List Nat) (a:Nat→Bool),stepsG r (u++v) a=stepsG r v (stepsG r u a)
 | [],_,_=>rfl
 | _::u,v,_=>stepsG_app r u v _
theorem steps_take {r:RuN} {W:List Nat} {i b:Nat} (h:W[i]? =some b):stepsG r (W.take (i+1)) startG=stepG r (stepsG r (W.take i) startG) b:=by
 rw[List.take_add_one,h,stepsG_app];rfl
theorem take_dead {r:RuN} {W:List Nat} {i t:Nat} (hit:i≤t) (h:isAny r (stepsG r (W.take i) startG)=false):isAny r (stepsG r (W.take t) startG)=false:=by
 have:W.take t=W.take i++(W.take t).drop i:=by
  have:=(List.take_append_drop i (W.take t)).symm
  rwa [List.take_take,Nat.min_eq_left hit] at this
 rw[this,stepsG_app];exact any_steps r _ _ h
structure ReachG (r:RuN) (W:List Nat) (i:Nat) (far R:Int):Prop where
 ge:far≤R
 is:R=far∨∃t:Nat,R=t∧t≤W.length∧isAny r (stepsG r (W.take t) startG)=true
 all:∀t:Nat,i≤t→t≤W.length→isAny r (stepsG r (W.take t) startG)=true→(t:Int)≤R
theorem farG_ok (r:RuN) (W:List Nat):∀(w:List Nat) (i:Nat) (far:Int),W.drop i=w→i≤W.length→ReachG r W i far (farG r w (stepsG r (W.take i) startG) i far)
 | [],i,far,hw,hi=>by
  have hlen:W.length≤i:=List.drop_eq_nil_iff.1 hw;rw[farG];split
  ·rename_i h;refine⟨by omega,?_,fun t h1 h2 _=>by omega⟩;by_cases c:far≤(i:Int)
   ·exact .inr ⟨i,by omega,hi,h⟩
   ·exact .inl (by omega)
  ·rename_i h;exact⟨Int.le_refl _,.inl rfl,fun t h1 h2 h3=>by
    have:t=i:=(by omega);subst this;exact absurd h3 h⟩
 | b::w,i,far,hw,hi=>by
  have hlt:i<W.length:=by
   have:=congrArg List.length hw;rw[List.length_drop,List.length_cons] at this;omega
  have hb:W[i]? =some b:=by
   have:=congrArg (fun x=>x[0]?) hw
   simpa using this
  have hdr:W.drop (i+1)=w:=by rw[←List.drop_drop,hw];rfl
  rw[farG];split
  ·rename_i h;rw[←steps_take hb];have ih:=farG_ok r W w (i+1) (max far i) hdr hlt;rw[show (i:Int)+1=((i+1:Nat):Int) by omega];refine⟨Int.le_trans (by omega) ih.ge,?_,fun t h1 h2 h3=> ?_⟩
   ·rcases ih.is with e | e
    ·by_cases c:far≤(i:Int)
     ·exact .inr ⟨i,by rw[e];omega,hi,h⟩
     ·exact .inl (by rw[e];omega)
    ·exact .inr e
   ·by_cases c:t=i
    ·subst c;exact Int.le_trans (by omega) ih.ge
    ·exact ih.all t (by omega) h2 h3
  ·rename_i h;exact⟨Int.le_refl _,.inl rfl,fun t h1 h2 h3=>by
    rw[take_dead h1 (by simpa using h)] at h3;cases h3⟩
theorem farsG_ok (W:List Nat):∀(l:List RuN) (far:Int),far≤farsG l W far∧(farsG l W far=far∨∃t:Nat,farsG l W far=t∧t≤W.length∧∃r,r∈l∧isAny r (stepsG r (W.take t) startG)=true)∧∀r,r∈l→∀t:Nat,t≤W.length→isAny r (stepsG r (W.take t) startG)=true→(t:Int)≤farsG l W far
 | [],far=>⟨Int.le_refl _,.inl rfl,fun r hr=>by cases hr⟩
 | r::l,far=>by
  rw[farsG];obtain⟨h1,h2,h3⟩:ReachG r W 0 far (farG r W startG 0 far):=farG_ok r W W 0 far rfl (Nat.zero_le _);obtain⟨i1,i2,i3⟩:=farsG_ok W l (farG r W startG 0 far);refine⟨Int.le_trans h1 i1,?_,fun s hs t ht ha=> ?_⟩
  ·rcases i2 with e | ⟨t,e,ht,s,hs,ha⟩
   ·rcases h2 with e2 | ⟨t,e2,ht,ha⟩
    ·exact .inl (by rw[e,e2])
    ·exact .inr ⟨t,by rw[e,e2],ht,r,by simp,ha⟩
   ·exact .inr ⟨t,e,ht,s,by simp[hs],ha⟩
  ·rcases List.mem_cons.1 hs with rfl | hs
   ·exact Int.le_trans (h3 t (Nat.zero_le _) ht ha) i1
   ·exact i3 s hs t ht ha
theorem placeStep_map (g:RuN→Nat→Bool) (b:Nat):∀rs:List RuN,placeStep rs (rs.map g) b=rs.map fun r=>stepG r (g r) b
 | []=>rfl
 | r::rs=>by rw[List.map_cons,placeStep,placeStep_map g b rs];rfl
theorem placesP_map (rs:List RuN):∀(u:List Nat) (g:RuN→Nat→Bool),placesP rs u (rs.map g)=rs.map fun r=>stepsG r u (g r)
 | [],_=>rfl
 | b::u,g=>by
  rw[placesP,placeStep_map,placesP_map rs u];rfl
theorem anyP_map (g:RuN→Nat→Bool):∀rs:List RuN,anyP rs (rs.map g)=true↔∃r,r∈rs∧isAny r (g r)=true
 | []=>⟨(fun h=>by cases h),fun⟨_,h,_⟩=>by cases h⟩
 | r::rs=>by
  rw[List.map_cons,anyP,Bool.or_eq_true,anyP_map g rs];constructor
  ·rintro (h | ⟨s,hs,h⟩)
   ·exact⟨r,by simp,h⟩
   ·exact⟨s,by simp[hs],h⟩
  ·rintro⟨s,hs,h⟩;rcases List.mem_cons.1 hs with rfl | hs
   ·exact .inl h
   ·exact .inr ⟨s,hs,h⟩
theorem any_iff_steps (rs:List RuN) (u:List Nat):anyP rs (placesP rs u (startP rs))=true↔∃r,r∈rs∧isAny r (stepsG r u startG)=true:=by
 unfold startP;rw[placesP_map];exact anyP_map _ rs
theorem fars_far (rs:List RuN) (W:List Nat):∃k:Nat,farsG rs W 0=k∧FarI (fun u=>anyP rs (placesP rs u (startP rs))=true) W k:=by
 obtain⟨h1,h2,h3⟩:=farsG_ok W rs 0;have h4:∃k:Nat,farsG rs W 0=k∧k≤W.length∧(0<k→∃r,r∈rs∧isAny r (stepsG r (W.take k) startG)=true):=by
  rcases h2 with e | ⟨t,e,ht,h⟩
  ·exact⟨0,e,Nat.zero_le _,fun h=>absurd h (by omega)⟩
  ·exact⟨t,e,ht,fun _=>h⟩
 obtain⟨k,e,hk,ha⟩:=h4;refine⟨k,e,hk,fun h0=>(any_iff_steps rs _).2 (ha h0),fun j h5 h6 h7=> ?_⟩;obtain⟨r,hr,hr2⟩:=(any_iff_steps rs _).1 h7;have:=h3 r hr j h6 hr2;omega
theorem semP_places (rs:List RuN):∀(u v:List Nat) (x:List (Nat→Bool)) (j:Nat),semP rs (placesP rs u x) j v=semP rs x j (u++v)
 | [],_,_,_=>rfl
 | b::u,v,x,j=>by
  rw[placesP,semP_places rs u v,semP_step];rfl
theorem any_live (l:List Nd) (hg:GoodL l) (hf:∀n,n∈l→FullN (ruleN n)) (u:List Nat):anyP (l.map ruleN) (placesP (l.map ruleN) u (startP (l.map ruleN)))=true↔∃v,ByL v∧semP (l.map ruleN) (startP (l.map ruleN)) 0 (u++v)≠ -1:=by
 constructor
 ·intro h;obtain⟨v,hv,hne⟩:=semP_live l hg hf _ 0 h;exact⟨v,hv,by rw[←semP_places];exact hne⟩
 ·rintro⟨v,_,hne⟩;rcases hq:anyP (l.map ruleN) (placesP (l.map ruleN) u (startP (l.map ruleN))) with _ | _
  ·rw[←semP_places,semP_dead _ _ (okRs_of l hg) hq] at hne;exact absurd rfl hne
  ·rfl
end Go.Proofs.YtjeomlickkpebaaGreatDoor
namespace Go.Proofs.YtjeomlickkpebaaGreatDoor
noncomputable def sayR (l:List Nd):List Nat→Int:=byF fun w=>semP (l.map ruleN) (startP (l.map ruleN)) 0 w
theorem sayR_least (l:List Nd) (hg:GoodL l) (w:List Nat) (hw:ByL w):LeastI (LangR l w) (sayR l w):=by
 unfold sayR;rw[byF_yes hw,semP_start];exact least_ref l hg w
theorem lists_table (all:List Nd) (hg:GoodL all) {xs:List (List Int)} {rows:List (List Int)}
  (h:GoI (fun l b=>stepP (makeQ all).1 b l) nilL sameL (ListG (makeQ all).1 (reachP (makeQ all).1 (makeQ all).2)) (semL (makeQ all).1) (reachP (makeQ all).1 (makeQ all).2) xs.length xs rows):
  OkD ⟨rows,xs.map fun l=>accP (makeQ all).1 l (-1)⟩∧∀w,(⟨rows,xs.map fun l=>accP (makeQ all).1 l (-1)⟩:Dfa).says 0 w=sayR all w:=by
 have hlow:∀x,ListG (makeQ all).1 (reachP (makeQ all).1 (makeQ all).2) x→ -1≤accP (makeQ all).1 x (-1):=fun x _=>accP_low _ _ _ (Int.le_refl _);refine⟨go_okD h hlow,fun w=> ?_⟩;rw[go_byF (acc:=fun l=>accP (makeQ all).1 l (-1)) h (lists_hyp _ _) (fun _ _=>rfl) hlow w];unfold sayR byF;split
 ·exact both_say all hg w
 ·rfl
theorem list_first (q:List Sta) (start:List Int):ListG q start start:=⟨[],(fun b hb=>by cases hb),rfl,.inl rfl⟩
theorem by_take {W:List Nat} (h:ByL W) (i:Nat):ByL (W.take i):=fun b hb=>h b (List.mem_of_mem_take hb)
theorem table_match {all:List Nd} (hg:GoodL all) {d:Dfa} (hd:OkD d) (hs:∀w,d.says 0 w=sayR all w) (W:List Nat) (hW:ByL W):
  ((matchD d W).1,(matchD d W).2.1)=matchG (all.map ruleN) 0 W 0 (-1)∧∃k:Nat,(matchD d W).2.2=k∧(matchD d W).1≤k∧0≤(matchD d W).1∧FarI (fun u=>0≤d.run 0 u) W k:=by
 have hA:∀i,i≤W.length→LeastI (LangR all (W.take i)) (d.says 0 (W.take i)):=fun i _=>by
  rw[hs];exact sayR_least all hg _ (by_take hW i)
 obtain⟨h1,k,h2,h3⟩:=matchD_ok hd (LangR all) W hA;obtain⟨e1,e2⟩:=h1.unique (match_ref all hg W) fun _ _=>Iff.rfl;exact⟨Prod.ext e1 e2,k,h2,long_far (LangR all) h1 h3 hA,h1.long_le.1,h3⟩
theorem min_steps {F:List Nat→Int} {m d:Dfa} (hm:IsMin F m) (hs:∀w,d.says 0 w=F w) {W:List Nat} {i j:Nat} (h:FarI (fun u=>0≤m.run 0 u) W i) (g:FarI (fun u=>0≤d.run 0 u) W j):i≤j:=
 h.mono g fun u hu h0=>run_of_live hs u ((hm.run_live u hu).1 h0)
theorem min_far {all:List Nd} (hg:GoodL all) (hf:∀n,n∈all→FullN (ruleN n)) {m:Dfa} (hm:IsMin (sayR all) m) {W:List Nat} (hW:ByL W) {i k:Nat} (h:FarI (fun u=>0≤m.run 0 u) W i) (g:FarI (fun u=>anyP (all.map ruleN) (placesP (all.map ruleN) u (startP (all.map ruleN)))=true) W k):i=k:=by
 have key:∀j,0<j→j≤W.length→(0≤m.run 0 (W.take j)↔anyP (all.map ruleN) (placesP (all.map ruleN) (W.take j) (startP (all.map ruleN)))=true):=fun j h0 hj=>by
  rw[hm.run_live _ (fun e=>by
   have:=congrArg List.length e;rw[List.length_take,List.length_nil] at this;omega),any_live all hg hf]
  constructor
  ·rintro⟨v,hv⟩;unfold sayR at hv;by_cases hb:ByL (W.take j++v)
   ·rw[byF_yes hb] at hv;exact⟨v,fun b hbm=>hb b (by simp[hbm]),hv⟩
   ·exact absurd (if_neg hb) hv
  ·rintro⟨v,hv,hne⟩;refine⟨v,?_⟩;unfold sayR;rw[byF_yes (by_app (by_take hW j) hv)];exact hne
 exact Nat.le_antisymm ((h.conv key).mono g fun u _ e=>e) (g.mono (h.conv key) fun u _ e=>e)
end Go.Proofs.YtjeomlickkpebaaGreatDoor
