/-
  Texts of this proof, one behind the other; each begins with its own remark.
-/
import Derived.Test.YtjeomlickkpebaaGreatDoorBe6
namespace Go.Proofs.YtjeomlickkpebaaGreatDoor
section
variable {α:Type}
def findX (same:α→α→Bool):List α→α→Nat→Int
 | [],_,_=> -1
 | x::xs,y,j=>if same x y=true then (j:Int) else findX same xs y (j+1)
theorem findX_no {same:α→α→Bool} {y:α}:∀ {xs:List α} {j:Nat},findX same xs y j<0→∀(i:Nat) x,xs[i]? =some x→same x y=false
 | [],_,_,i,x,h=>by simp at h
 | z::xs,j,h,i,x,hx=>by
  rw[findX] at h;split at h
  ·omega
  ·rename_i hz;cases i with
   | zero=>cases hx;simpa using hz
   | succ i=>exact findX_no h i x hx
theorem findX_yes {same:α→α→Bool} {y:α}:∀ {xs:List α} {j:Nat},0≤findX same xs y j→∃(i:Nat) (x:α),findX same xs y j=((j+i:Nat):Int)∧xs[i]? =some x∧same x y=true
 | [],_,h=>absurd (show (0:Int)≤ -1 from h) (by decide)
 | z::xs,j,h=>by
  rw[findX] at h ⊢;split
  ·rename_i hz;exact⟨0,z,rfl,rfl,hz⟩
  ·rename_i hz;rw[if_neg hz] at h;obtain⟨i,x,h1,h2,h3⟩:=findX_yes h;exact⟨i+1,x,by rw[h1];congr 1;omega,h2,h3⟩
theorem findX_low {same:α→α→Bool} {y:α}:∀(xs:List α) (j:Nat),-1≤findX same xs y j
 | [],_=>Int.le_refl _
 | z::xs,j=>by
  rw[findX];split
  ·omega
  ·exact findX_low xs (j+1)
variable (step:α→Nat→α) (dead:α→Bool) (same:α→α→Bool)
def oneX (x:α) (s:List α×List Int) (b:Nat):List α×List Int:=
 if dead (step x b)=true then (s.1,s.2++ [-1])
 else if findX same s.1 (step x b) 0<0 then (s.1++ [step x b],s.2++ [(s.1.length:Int)])
 else (s.1,s.2++ [findX same s.1 (step x b) 0])
def rowX (x:α) (xs:List α):Nat→List α×List Int
 | 0=>(xs,[])
 | b+1=>oneX step dead same x (rowX x xs b) b
def goX (first:α):Nat→List α×List (List Int)
 | 0=>([first],[])
 | k+1=>match (goX first k).1[k]? with
  | some x=>((rowX step dead same x (goX first k).1 256).1,(goX first k).2++ [(rowX step dead same x (goX first k).1 256).2])
  | none=>goX first k
structure XHyp (G:α→Prop) (sem:α→List Nat→Int):Prop where
 step_good:∀x b,G x→b<256→dead (step x b)=false→G (step x b)
 step_sem:∀x b,G x→b<256→dead (step x b)=false→∀w,ByL w→sem (step x b) w=sem x (b::w)
 dead_sem:∀x b,G x→b<256→dead (step x b)=true→∀w,ByL w→sem x (b::w)= -1
 same_sem:∀x y,G x→G y→same x y=true→∀w,ByL w→sem x w=sem y w
structure RowI (G:α→Prop) (sem:α→List Nat→Int) (xs0:List α) (x:α) (done:List Int) (xs:List α) (row:List Int):Prop where
 pre:∃t,xs=xs0++t
 good:∀y,y∈xs→G y
 unlike:∀(i j:Nat) a b,i<j→xs[i]? =some a→xs[j]? =some b→same a b=false
 scan:scanI (done++row) 1=some xs.length
 ent:∀(b:Nat) e,row[b]? =some e→(e= -1∧dead (step x b)=true)∨∃(k:Nat) (y:α),e=k∧xs[k]? =some y∧dead (step x b)=false∧(y=step x b∨same y (step x b)=true)∧∀w,ByL w→sem y w=sem x (b::w)
variable {step dead same} {G:α→Prop} {sem:α→List Nat→Int}
theorem row_ok (H:XHyp step dead same G sem) {xs0:List α} {x:α} {done:List Int} (hx:G x) (h0:RowI step dead same G sem xs0 x done xs0 []):∀b,b≤256→RowI step dead same G sem xs0 x done (rowX step dead same x xs0 b).1 (rowX step dead same x xs0 b).2∧(rowX step dead same x xs0 b).2.length=b
 | 0,_=>⟨h0,rfl⟩
 | b+1,hb=>by
  obtain⟨h,hl⟩:=row_ok H hx h0 b (by omega);rw[rowX];generalize hs:rowX step dead same x xs0 b=s at h hl;obtain⟨xs,row⟩:=s;dsimp only at h hl
  have old:∀ {xs':List α} {e:Int},(∃t,xs'=xs++t)→((e= -1∧dead (step x b)=true)∨∃(k:Nat) (y:α),e=k∧xs'[k]? =some y∧dead (step x b)=false∧(y=step x b∨same y (step x b)=true)∧∀w,ByL w→sem y w=sem x (b::w)) →
    ∀(c:Nat) e',(row++ [e])[c]? =some e'→(e'= -1∧dead (step x c)=true)∨∃(k:Nat) (y:α),e'=k∧xs'[k]? =some y∧dead (step x c)=false∧(y=step x c∨same y (step x c)=true)∧∀w,ByL w→sem y w=sem x (c::w):=by
   intro xs' e hp he c e' hc;by_cases hcl:c<row.length
   ·rw[List.getElem?_append_left hcl] at hc;rcases h.ent c e' hc with h1 | ⟨k,y,h1,h2,h3⟩
    ·exact .inl h1
    ·obtain⟨t,rfl⟩:=hp;exact .inr ⟨k,y,h1,by rw[List.getElem?_append_left (List.getElem?_eq_some_iff.1 h2).1];exact h2,h3⟩
   ·have hlt:=(List.getElem?_eq_some_iff.1 hc).1;rw[List.length_append] at hlt;have hcb:c=b:=(by simp at hlt;omega);subst hcb;rw[List.getElem?_append_right (by omega),hl,Nat.sub_self] at hc;cases hc;exact he
  unfold oneX;dsimp only;by_cases hd:dead (step x b)=true
  ·rw[if_pos hd];refine⟨⟨h.pre,h.good,h.unlike,?_,old ⟨[],by simp⟩ (.inl ⟨rfl,hd⟩)⟩,by simp[hl]⟩;rw[←List.append_assoc,scan_app,h.scan];show scanI [-1] _=_;rw[scanI,if_pos (by omega)];rfl
  ·rw[if_neg hd];have hdf:dead (step x b)=false:=(by simpa using hd);have hy:=H.step_good x b hx (by omega) hdf;by_cases hf:findX same xs (step x b) 0<0
   ·rw[if_pos hf];refine⟨⟨?_,fun y hym=> ?_,fun i j a c hij hi hj=> ?_,?_,old ⟨[step x b],rfl⟩ (.inr ⟨xs.length,step x b,rfl,?_,hdf,.inl rfl,fun w hw=>H.step_sem x b hx (by omega) hdf w hw⟩)⟩,by simp[hl]⟩
    ·obtain⟨t,ht⟩:=h.pre;exact⟨t++ [step x b],by rw[ht,List.append_assoc]⟩
    ·rcases List.mem_append.1 hym with hym | hym
     ·exact h.good y hym
     ·rw[List.mem_singleton.1 hym];exact hy
    ·have hjl:=(List.getElem?_eq_some_iff.1 hj).1;rw[List.length_append] at hjl;simp at hjl;by_cases hc:j<xs.length
     ·rw[List.getElem?_append_left (by omega)] at hi;rw[List.getElem?_append_left hc] at hj;exact h.unlike i j a c hij hi hj
     ·rw[List.getElem?_append_left (by omega)] at hi;rw[show j=xs.length by omega,List.getElem?_append_right (Nat.le_refl _),Nat.sub_self] at hj;cases hj;exact findX_no hf i a hi
    ·rw[←List.append_assoc,scan_app,h.scan];show scanI [(xs.length:Int)] xs.length=_;rw[scanI,if_neg (by omega),if_pos rfl,scanI,List.length_append];rfl
    ·rw[List.getElem?_append_right (Nat.le_refl _),Nat.sub_self];rfl
   ·rw[if_neg hf];obtain⟨i,y,h1,h2,h3⟩:=findX_yes (same:=same) (xs:=xs) (y:=step x b) (j:=0) (by omega);rw[Nat.zero_add] at h1;have hil:=(List.getElem?_eq_some_iff.1 h2).1;refine⟨⟨h.pre,h.good,h.unlike,?_,old ⟨[],by simp⟩ (.inr ⟨i,y,h1,h2,hdf,.inr h3,fun w hw=> ?_⟩)⟩,by simp[hl]⟩
    ·rw[←List.append_assoc,scan_app,h.scan,h1];show scanI [(i:Int)] xs.length=_;rw[scanI,if_pos (by omega)];rfl
    ·rw[H.same_sem y (step x b) (h.good y (List.mem_of_getElem? h2)) hy h3 w hw];exact H.step_sem x b hx (by omega) hdf w hw
structure GoI (step:α→Nat→α) (dead:α→Bool) (same:α→α→Bool) (G:α→Prop) (sem:α→List Nat→Int) (first:α) (k:Nat) (xs:List α) (rows:List (List Int)):Prop where
 head:xs[0]? =some first
 len:rows.length=k
 le:k≤xs.length
 good:∀y,y∈xs→G y
 unlike:∀(i j:Nat) a b,i<j→xs[i]? =some a→xs[j]? =some b→same a b=false
 scan:scanI rows.flatten 1=some xs.length
 past:∀j,j<k→∃s,scanI ((rows.take j).flatten) 1=some s∧j<s∧s≤xs.length
 row:∀(j:Nat) r,rows[j]? =some r→r.length=256∧∃x,xs[j]? =some x∧∀(b:Nat) e,r[b]? =some e→(e= -1∧dead (step x b)=true)∨∃(i:Nat) (y:α),e=i∧xs[i]? =some y∧dead (step x b)=false∧(y=step x b∨same y (step x b)=true)∧∀w,ByL w→sem y w=sem x (b::w)
theorem go_first (first:α) (h:G first):GoI step dead same G sem first 0 [first] [] where
 head:=rfl
 len:=rfl
 le:=Nat.zero_le _
 good:=fun y hy=>by rw[List.mem_singleton.1 hy];exact h
 unlike:=fun i j a b hij hi hj=>by
  have:=(List.getElem?_eq_some_iff.1 hj).1;simp at this;omega
 scan:=rfl
 past:=fun j hj=>absurd hj (by omega)
 row:=fun j r h=>by simp at h
theorem go_rowI {first x:α} {k:Nat} {xs:List α} {rows:List (List Int)} (h:GoI step dead same G sem first k xs rows):RowI step dead same G sem xs x rows.flatten xs [] where
 pre:=⟨[],by simp⟩
 good:=h.good
 unlike:=h.unlike
 scan:=by rw[List.append_nil];exact h.scan
 ent:=fun b e h=>by simp at h
theorem go_next (H:XHyp step dead same G sem) {first x:α} {k:Nat} {xs:List α} {rows:List (List Int)} (h:GoI step dead same G sem first k xs rows) (hx:xs[k]? =some x):
  GoI step dead same G sem first (k+1) (rowX step dead same x xs 256).1 (rows++ [(rowX step dead same x xs 256).2]):=by
 have hk:=(List.getElem?_eq_some_iff.1 hx).1;obtain⟨hr,hl⟩:=row_ok H (h.good x (List.mem_of_getElem? hx)) (go_rowI h) 256 (Nat.le_refl _);generalize rowX step dead same x xs 256=s at hr hl ⊢;obtain⟨ys,row⟩:=s;dsimp only at hr hl ⊢;obtain⟨t,ht⟩:=hr.pre;have hxy:∀(i:Nat) y,xs[i]? =some y→ys[i]? =some y:=fun i y hy=>by
  rw[ht,List.getElem?_append_left (List.getElem?_eq_some_iff.1 hy).1];exact hy
 have hyl:xs.length≤ys.length:=by rw[ht,List.length_append];omega
 exact {
  head:=hxy 0 _ h.head
  len:=by rw[List.length_append,h.len];rfl
  le:=by omega
  good:=hr.good
  unlike:=hr.unlike
  scan:=by rw[List.flatten_append];simpa using hr.scan
  past:=fun j hj=>by
   by_cases hjk:j<k
   ·obtain⟨s,h1,h2,h3⟩:=h.past j hjk;refine⟨s,?_,h2,by omega⟩;rw[List.take_append_of_le_length (by rw[h.len];omega)];exact h1
   ·have:j=k:=(by omega);subst this;refine⟨xs.length,?_,hk,hyl⟩;rw[List.take_append_of_le_length (by rw[h.len];omega),List.take_of_length_le (by rw[h.len];omega)];exact h.scan
  row:=fun j r hj=>by
   by_cases hjk:j<k
   ·rw[List.getElem?_append_left (by rw[h.len];exact hjk)] at hj;obtain⟨h1,z,h2,h3⟩:=h.row j r hj;refine⟨h1,z,hxy j z h2,fun b e he=> ?_⟩;rcases h3 b e he with h4 | ⟨i,y,h4,h5,h6⟩
    ·exact .inl h4
    ·exact .inr ⟨i,y,h4,hxy i y h5,h6⟩
   ·have hjl:=(List.getElem?_eq_some_iff.1 hj).1;rw[List.length_append,h.len] at hjl;simp at hjl;have:j=k:=(by omega);subst this;rw[List.getElem?_append_right (by rw[h.len];exact Nat.le_refl _),h.len,Nat.sub_self] at hj;cases hj;exact⟨hl,x,hxy _ x hx,hr.ent⟩}
section
variable {first:α} {xs:List α} {rows:List (List Int)} {acc:α→Int}
theorem go_okD (h:GoI step dead same G sem first xs.length xs rows) (hacc:∀x,G x→ -1≤acc x):OkD ⟨rows,xs.map acc⟩ where
 pos:=by
  have:=(List.getElem?_eq_some_iff.1 h.head).1;show 0<rows.length;rw[h.len];exact this
 rules:=by show (xs.map acc).length=rows.length;rw[List.length_map,h.len]
 row:=fun r hr=>by
  obtain⟨j,hj⟩:=List.mem_iff_getElem?.1 hr;exact (h.row j r hj).1
 into:=fun r hr e he=>by
  obtain⟨j,hj⟩:=List.mem_iff_getElem?.1 hr;obtain⟨b,hb⟩:=List.mem_iff_getElem?.1 he;obtain⟨_,x,_,h3⟩:=h.row j r hj;have hn:((⟨rows,xs.map acc⟩:Dfa).n:Int)=(xs.length:Int):=by
   show ((rows.length:Nat):Int)=_;rw[h.len]
  rcases h3 b e hb with ⟨rfl,_⟩ | ⟨i,y,rfl,h5,_⟩
  ·exact⟨Int.le_refl _,by omega⟩
  ·have:=(List.getElem?_eq_some_iff.1 h5).1;omega
 low:=fun r hr=>by
  obtain⟨x,hx,rfl⟩:=List.mem_map.1 hr;exact hacc x (h.good x hx)
theorem go_to (h:GoI step dead same G sem first xs.length xs rows) {j:Nat} {x:α} (hx:xs[j]? =some x) (b:Nat) (hb:b<256):
  ((⟨rows,xs.map acc⟩:Dfa).to j b= -1∧dead (step x b)=true)∨∃(i:Nat) (y:α),(⟨rows,xs.map acc⟩:Dfa).to j b=i∧xs[i]? =some y∧dead (step x b)=false∧(y=step x b∨same y (step x b)=true)∧∀w,ByL w→sem y w=sem x (b::w):=by
 have hj:=(List.getElem?_eq_some_iff.1 hx).1;have hr:rows[j]? =some (rows[j]'(by rw[h.len];exact hj)):=List.getElem?_eq_getElem _;obtain⟨h1,z,h2,h3⟩:=h.row j _ hr;rw[hx] at h2;cases h2;have hb2:(rows[j]'(by rw[h.len];exact hj))[b]? =some ((rows[j]'(by rw[h.len];exact hj))[b]'(by rw[h1];exact hb)):=List.getElem?_eq_getElem _;have ht:(⟨rows,xs.map acc⟩:Dfa).to j b=(rows[j]'(by rw[h.len];exact hj))[b]'(by rw[h1];exact hb):=by
  unfold Dfa.to;rw[if_pos (by omega),Int.toNat_natCast];show (rows.getD j []).getD b (-1)=_;rw[getD_at hr,getD_at hb2]
 rw[ht];exact h3 b _ hb2
theorem go_says (h:GoI step dead same G sem first xs.length xs rows) (hacc:∀x,G x→acc x=sem x []) (hdead:∀x b,G x→b<256→dead (step x b)=true→∀w,ByL w→sem x (b::w)= -1):∀(w:List Nat) (j:Nat) (x:α),ByL w→xs[j]? =some x→(⟨rows,xs.map acc⟩:Dfa).says j w=sem x w
 | [],j,x,_,hx=>by
  rw[says_nil];unfold Dfa.acc;rw[if_pos (by omega),Int.toNat_natCast];show (xs.map acc).getD j (-1)=_;rw[getD_at (by rw[List.getElem?_map,hx];rfl)];exact hacc x (h.good x (List.mem_of_getElem? hx))
 | b::w,j,x,hw,hx=>by
  rw[says_cons];rcases go_to (acc:=acc) h hx b hw.cons.1 with ⟨h1,h2⟩ | ⟨i,y,h1,h2,_,_,h4⟩
  ·rw[h1,says_neg _ (by decide)];exact (hdead x b (h.good x (List.mem_of_getElem? hx)) hw.cons.1 h2 w hw.cons.2).symm
  ·rw[h1,go_says h hacc hdead w i y hw.cons.2 h2];exact h4 w hw.cons.2
open Classical in
noncomputable def byF (f:List Nat→Int) (w:List Nat):Int:=if ByL w then f w else -1
theorem byF_yes {f:List Nat→Int} {w:List Nat} (h:ByL w):byF f w=f w:=if_pos h
theorem go_byF (h:GoI step dead same G sem first xs.length xs rows) (H:XHyp step dead same G sem) (hacc:∀x,G x→acc x=sem x []) (hlow:∀x,G x→ -1≤acc x) (w:List Nat):(⟨rows,xs.map acc⟩:Dfa).says 0 w=byF (sem first) w:=by
 unfold byF;split
 ·rename_i hw;exact go_says h hacc H.dead_sem w 0 first hw h.head
 ·rename_i hw;exact (go_okD h hlow).says_big w 0 hw
theorem go_min (h:GoI step dead same G sem first xs.length xs rows) (H:XHyp step dead same G sem) (hacc:∀x,G x→acc x=sem x []) (hlow:∀x,G x→ -1≤acc x)
  (hlive:∀x b,G x→b<256→dead (step x b)=false→∃w,ByL w∧sem x (b::w)≠ -1) (hap:∀x y,G x→G y→same x y=false→∃w,ByL w∧sem x w≠sem y w):IsMin (byF (sem first)) ⟨rows,xs.map acc⟩ where
 ok:=go_okD h hlow
 says:=go_byF h H hacc hlow
 live:=fun k b hk h0=>by
  have hk2:k<xs.length:=by rw[←h.len];exact hk
  have hx:xs[k]? =some xs[k]:=List.getElem?_eq_getElem hk2;have hb:b<256:=by
   by_cases c:b<256
   ·exact c
   ·rw[(go_okD h hlow).to_big k b (by omega)] at h0;exact absurd h0 (by decide)
  rcases go_to (acc:=acc) h hx b hb with ⟨h1,h2⟩ | ⟨i,y,h1,h2,h3,_,h4⟩
  ·omega
  ·obtain⟨w,hw,hne⟩:=hlive _ b (h.good _ (List.mem_of_getElem? hx)) hb h3;refine⟨w,?_⟩;rw[h1,go_says h hacc H.dead_sem w i y hw h2,h4 w hw];exact hne
 apart:=fun i k hik hk=>by
  have hk2:k<xs.length:=by rw[←h.len];exact hk
  have hx:xs[k]? =some xs[k]:=List.getElem?_eq_getElem hk2;have hi:xs[i]? =some (xs[i]'(by omega)):=List.getElem?_eq_getElem _;obtain⟨w,hw,hne⟩:=hap _ _ (h.good _ (List.mem_of_getElem? hi)) (h.good _ (List.mem_of_getElem? hx)) (h.unlike i k _ _ hik hi hx);exact⟨w,by rw[go_says h hacc H.dead_sem w i _ hw hi,go_says h hacc H.dead_sem w k _ hw hx];exact hne⟩
 num:=fun k hk=>by
  have hk2:k≤xs.length:=by rw[←h.len];exact hk
  have hn:(⟨rows,xs.map acc⟩:Dfa).n=xs.length:=h.len;rw[hn];by_cases c:k<xs.length
  ·obtain⟨s,h1,h2,h3⟩:=h.past k c;exact⟨s,h1,fun _=>h2,h3⟩
  ·refine⟨xs.length,?_,fun x=>absurd x c,Nat.le_refl _⟩;show scanI ((rows.take k).flatten) 1=_;rw[List.take_of_length_le (by rw[h.len];omega)];exact h.scan
end
end
end Go.Proofs.YtjeomlickkpebaaGreatDoor
namespace Go.Proofs.YtjeomlickkpebaaGreatDoor
section
variable (d:Dfa)
def toN (i b:Nat):Nat:=if i<d.n∧0≤d.to i b then (d.to i b).toNat else d.n
def ruN (i:Nat):Int:=if i<d.n then d.acc i else -1
def sayN (i:Nat) (w:List Nat):Int:=if i<d.n then d.says i w else -1
def ApartN (i k:Nat):Prop:=∃w,ByL w∧sayN d i w≠sayN d k w
structure MatI (A:Nat→Nat→Bool):Prop where
 sound:∀i k,i≤d.n→k≤d.n→A i k=true→ApartN d i k
 rule:∀i k,i≤d.n→k≤d.n→ruN d i≠ruN d k→A i k=true
 closed:∀i k b,i≤d.n→k≤d.n→b<256→A i k=false→A (toN d i b) (toN d k b)=false
end
section
variable {d:Dfa}
theorem toN_le (h:OkD d) (i b:Nat):toN d i b≤d.n:=by
 unfold toN;split
 ·have:=h.to_in i b;omega
 ·exact Nat.le_refl _
theorem sayN_nil (i:Nat):sayN d i []=ruN d i:=rfl
theorem toN_yes {i b:Nat} (hi:i<d.n) (h0:0≤d.to i b):toN d i b=(d.to i b).toNat:=if_pos ⟨hi,h0⟩
theorem toN_no {i b:Nat} (h:¬(i<d.n∧0≤d.to i b)):toN d i b=d.n:=if_neg h
theorem sayN_yes {i:Nat} (hi:i<d.n) (w:List Nat):sayN d i w=d.says i w:=if_pos hi
theorem sayN_no {i:Nat} (hi:d.n≤i) (w:List Nat):sayN d i w= -1:=if_neg (by omega)
theorem sayN_step (h:OkD d) (i b:Nat) (w:List Nat):sayN d (toN d i b) w=sayN d i (b::w):=by
 have:=h.to_in i b;by_cases hi:i<d.n
 ·rw[sayN_yes hi,says_cons];by_cases h0:0≤d.to i b
  ·rw[toN_yes hi h0,sayN_yes (by omega),Int.toNat_of_nonneg h0]
  ·rw[toN_no (by omega),sayN_no (Nat.le_refl _),says_neg d (by omega)]
 ·rw[toN_no (by omega),sayN_no (Nat.le_refl _),sayN_no (by omega)]
theorem sayN_end (w:List Nat):sayN d d.n w= -1:=if_neg (Nat.lt_irrefl _)
theorem ruN_low (h:OkD d) (i:Nat): -1≤ruN d i:=by
 unfold ruN;split
 ·exact h.acc_low i
 ·exact Int.le_refl _
theorem apart_step (h:OkD d) {i k b:Nat} (hb:b<256) (ha:ApartN d (toN d i b) (toN d k b)):ApartN d i k:=by
 obtain⟨w,hw,hne⟩:=ha;refine⟨b::w,fun c hc=> ?_,by rw[←sayN_step h,←sayN_step h];exact hne⟩;rcases List.mem_cons.1 hc with rfl | hc
 ·exact hb
 ·exact hw c hc
variable {A:Nat→Nat→Bool}
theorem MatI.same (hA:MatI d A) (h:OkD d):∀(w:List Nat),ByL w→∀i k,i≤d.n→k≤d.n→A i k=false→sayN d i w=sayN d k w
 | [],_,i,k,hi,hk,ha=>by
  rw[sayN_nil,sayN_nil];exact Classical.byContradiction fun hne=>by rw[hA.rule i k hi hk hne] at ha;cases ha
 | b::w,hw,i,k,hi,hk,ha=>by
  rw[←sayN_step h,←sayN_step h];exact hA.same h w hw.cons.2 _ _ (toN_le h i b) (toN_le h k b) (hA.closed i k b hi hk hw.cons.1 ha)
def deadN (d:Dfa) (A:Nat→Nat→Bool) (t:Nat):Bool:= !A t d.n
def sameN (A:Nat→Nat→Bool) (i k:Nat):Bool:= !A i k
theorem min_hyp (hA:MatI d A) (h:OkD d):XHyp (toN d) (deadN d A) (sameN A) (fun i=>i<d.n) (sayN d) where
 step_good:=fun x b _ _ hd=>by
  have h1:=toN_le h x b;by_cases c:toN d x b=d.n
  ·unfold deadN at hd;rw[c] at hd;obtain⟨w,_,hne⟩:=hA.sound d.n d.n (Nat.le_refl _) (Nat.le_refl _) (by simpa using hd);exact absurd rfl hne
  ·show toN d x b<d.n;omega
 step_sem:=fun x b _ _ _ w _=>sayN_step h x b w
 dead_sem:=fun x b _ _ hd w hw=>by
  rw[←sayN_step h,hA.same h w hw _ d.n (toN_le h x b) (Nat.le_refl _) (by simpa [deadN] using hd),sayN_end]
 same_sem:=fun x y hx hy hs w hw=>hA.same h w hw x y (Nat.le_of_lt hx) (Nat.le_of_lt hy) (by simpa [sameN] using hs)
theorem byF_says (h:OkD d) (w:List Nat):byF (sayN d 0) w=d.says 0 w:=by
 unfold byF;have hp:=h.pos;split
 ·unfold sayN;rw[if_pos hp];rfl
 ·rename_i hw;exact (h.says_big w 0 hw).symm
theorem min_of (hA:MatI d A) (h:OkD d) {xs:List Nat} {rows:List (List Int)} (hg:GoI (toN d) (deadN d A) (sameN A) (fun i=>i<d.n) (sayN d) 0 xs.length xs rows):IsMin (d.says 0) ⟨rows,xs.map (ruN d)⟩:=by
 refine (go_min hg (min_hyp hA h) (fun x _=>(sayN_nil x).symm) (fun x _=>ruN_low h x) (fun x b hx hb hd=> ?_) (fun x y hx hy hs=> ?_)).conv (byF_says h)
 ·obtain⟨w,hw,hne⟩:=hA.sound (toN d x b) d.n (toN_le h x b) (Nat.le_refl _) (by simpa [deadN] using hd);refine⟨w,hw,?_⟩;rw[sayN_end,sayN_step h] at hne;exact hne
 ·exact hA.sound x y (Nat.le_of_lt hx) (Nat.le_of_lt hy) (by simpa [sameN] using hs)
end
end Go.Proofs.YtjeomlickkpebaaGreatDoor
namespace Go.Proofs.YtjeomlickkpebaaGreatDoor
abbrev Blk:=Nat×Nat×Nat
def updN {α:Type} (f:Nat→α) (i:Nat) (a:α):Nat→α:=fun k=>if k=i then a else f k
theorem updN_same {α:Type} (f:Nat→α) (i:Nat) (a:α):updN f i a i=a:=if_pos rfl
theorem updN_other {α:Type} (f:Nat→α) {i k:Nat} (a:α) (h:k≠i):updN f i a k=f k:=if_neg h
structure ParI (n:Nat) (Bs:List Blk) (st pl ob:Nat→Nat):Prop where
 inv1:∀x,x<n→pl x<n∧st (pl x)=x
 inv2:∀k,k<n→st k<n∧pl (st k)=k
 blk:∀x,x<n→∃f t m,Bs[ob x]? =some (f,t,m)∧f≤pl x∧pl x<t
 inb:∀(j:Nat) f t m,Bs[j]? =some (f,t,m)→f<t∧t≤n∧f+m≤t∧∀k,f≤k→k<t→ob (st k)=j
def MkP (Bs:List Blk) (pl ob:Nat→Nat) (x:Nat):Prop:=∃f t m,Bs[ob x]? =some (f,t,m)∧pl x<f+m
section
variable {n:Nat} {Bs:List Blk} {st pl ob:Nat→Nat}
theorem ParI.few (h:ParI n Bs st pl ob):Bs.length≤n:=by
 have hx:∀j:Nat,∃f,j<Bs.length→∃t m,Bs[j]? =some (f,t,m):=fun j=>by
  by_cases hj:j<Bs.length
  ·exact⟨(Bs[j]).1,fun _=>⟨(Bs[j]).2.1,(Bs[j]).2.2,List.getElem?_eq_getElem hj⟩⟩
  ·exact⟨0,fun x=>absurd x hj⟩
 let F:=fun j=>Classical.choose (hx j);have hF:∀j,j<Bs.length→∃t m,Bs[j]? =some (F j,t,m):=fun j=>Classical.choose_spec (hx j);refine pig Bs.length n F (fun j hj=> ?_) fun i j hij hj e=> ?_
 ·obtain⟨t,m,h1⟩:=hF j hj;have:=h.inb j _ _ _ h1;omega
 ·obtain⟨t,m,h1⟩:=hF i (by omega);obtain⟨t2,m2,h2⟩:=hF j hj;have g1:=(h.inb i _ _ _ h1);have g2:=(h.inb j _ _ _ h2);have e1:=g1.2.2.2 (F i) (Nat.le_refl _) g1.1;have e2:=g2.2.2.2 (F j) (Nat.le_refl _) g2.1;rw[e,e2] at e1;omega
theorem ParI.lt (h:ParI n Bs st pl ob) {x:Nat} (hx:x<n):ob x<Bs.length:=by
 obtain⟨f,t,m,h1,_⟩:=h.blk x hx;exact (List.getElem?_eq_some_iff.1 h1).1
theorem ParI.in_iff (h:ParI n Bs st pl ob) {x j f t m:Nat} (hx:x<n) (hj:Bs[j]? =some (f,t,m)):ob x=j↔f≤pl x∧pl x<t:=by
 constructor
 ·intro e;obtain⟨f',t',m',h1,h2,h3⟩:=h.blk x hx;rw[e,hj] at h1;cases h1;exact⟨h2,h3⟩
 ·rintro⟨h1,h2⟩;have:=(h.inb j f t m hj).2.2.2 (pl x) h1 h2
  rwa [(h.inv1 x hx).2] at this
theorem ParI.pl_inj (h:ParI n Bs st pl ob) {x y:Nat} (hx:x<n) (hy:y<n) (e:pl x=pl y):x=y:=by
 rw[←(h.inv1 x hx).2,e,(h.inv1 y hy).2]
theorem mk_iff {x f t m:Nat} (hj:Bs[ob x]? =some (f,t,m)):MkP Bs pl ob x↔pl x<f+m:=by
 constructor
 ·rintro⟨f',t',m',h1,h2⟩;rw[hj] at h1;cases h1;exact h2
 ·exact fun h=>⟨f,t,m,hj,h⟩
def stM (st:Nat→Nat) (place front x:Nat):Nat→Nat:=updN (updN st place (st front)) front x
def plM (pl:Nat→Nat) (place front x other:Nat):Nat→Nat:=updN (updN pl other place) x front
theorem par_mark (h:ParI n Bs st pl ob) {x f t m:Nat} (hx:x<n) (hj:Bs[ob x]? =some (f,t,m)) (hm:¬MkP Bs pl ob x):
  f+m<t∧f+m≤pl x∧ParI n (Bs.set (ob x) (f,t,m+1)) (stM st (pl x) (f+m) x) (plM pl (pl x) (f+m) x (st (f+m))) ob ∧
  ∀y,y<n→(MkP (Bs.set (ob x) (f,t,m+1)) (plM pl (pl x) (f+m) x (st (f+m))) ob y↔MkP Bs pl ob y∨y=x):=by
 have hpl:f+m≤pl x:=by
  rw[mk_iff hj] at hm;omega
 obtain⟨h1,h2⟩:=(h.in_iff hx hj).1 rfl;obtain⟨b1,b2,b3,b4⟩:=h.inb _ _ _ _ hj;have hf:=h.inv2 (f+m) (by omega);have hox:=h.inv1 x hx;have hof:ob (st (f+m))=ob x:=b4 _ (by omega) (by omega);have hlen:=h.lt hx;have hset:∀(j f' t' m':Nat),(Bs.set (ob x) (f,t,m+1))[j]? =some (f',t',m')→∃m0,Bs[j]? =some (f',t',m0)∧f'+m'≤t':=fun j f' t' m' e=>by
  rw[List.getElem?_set] at e;by_cases c:ob x=j
  ·rw[if_pos c,if_pos hlen] at e;cases e;exact⟨m,by rw[←c];exact hj,by omega⟩
  ·rw[if_neg c] at e;exact⟨m',e,(h.inb j f' t' m' e).2.2.1⟩
 have hget:∀(j f' t' m':Nat),Bs[j]? =some (f',t',m')→∃m1,(Bs.set (ob x) (f,t,m+1))[j]? =some (f',t',m1):=fun j f' t' m' e=>by
  rw[List.getElem?_set];by_cases c:ob x=j
  ·subst c;rw[if_pos rfl,if_pos hlen];rw[hj] at e;cases e;exact⟨_,rfl⟩
  ·rw[if_neg c];exact⟨m',e⟩
 have hplM:∀y,y<n→plM pl (pl x) (f+m) x (st (f+m)) y=if y=x then f+m else if y=st (f+m) then pl x else pl y:=fun y _=>rfl;have hob:∀k,k<n→ob (stM st (pl x) (f+m) x k)=ob (st k):=fun k hk=>by
  unfold stM updN;by_cases c:k=f+m
  ·rw[if_pos c,c,hof]
  ·rw[if_neg c];by_cases d:k=pl x
   ·rw[if_pos d,hof,d,hox.2]
   ·rw[if_neg d]
 refine⟨by omega,hpl,⟨fun y hy=> ?_,fun k hk=> ?_,fun y hy=> ?_,fun j f' t' m' e=> ?_⟩,fun y hy=> ?_⟩
 ·rw[hplM y hy];have hyy:=h.inv1 y hy;unfold stM updN;by_cases c:y=x
  ·rw[if_pos c,if_pos rfl,c];exact⟨by omega,rfl⟩
  ·rw[if_neg c];by_cases d:y=st (f+m)
   ·rw[if_pos d];have:pl x≠f+m:=fun e=>c (by rw[d,←e,hox.2]);rw[if_neg this,if_pos rfl];exact⟨hox.1,d.symm⟩
   ·rw[if_neg d];have n1:pl y≠f+m:=fun e=>d (by rw[←e,hyy.2]);have n2:pl y≠pl x:=fun e=>c (h.pl_inj hy hx e);rw[if_neg n1,if_neg n2];exact hyy
 ·have hkk:=h.inv2 k hk;unfold stM updN;by_cases c:k=f+m
  ·rw[if_pos c];refine⟨hx,?_⟩;unfold plM updN;rw[if_pos rfl,c]
  ·rw[if_neg c];by_cases d:k=pl x
   ·rw[if_pos d];refine⟨hf.1,?_⟩;unfold plM updN;have:st (f+m)≠x:=fun e=>c (by rw[d,←e,hf.2]);rw[if_neg this,if_pos rfl,d]
   ·rw[if_neg d];refine⟨hkk.1,?_⟩;unfold plM updN;have n1:st k≠x:=fun e=>d (by rw[←hkk.2,e]);have n2:st k≠st (f+m):=fun e=>c (by rw[←hkk.2,e,hf.2]);rw[if_neg n1,if_neg n2];exact hkk.2
 ·obtain⟨f',t',m',e1,e2,e3⟩:=h.blk y hy;obtain⟨m1,e4⟩:=hget _ _ _ _ e1;refine⟨f',t',m1,e4,?_⟩;rw[hplM y hy];by_cases c:y=x
  ·subst c;rw[if_pos rfl];rw[hj] at e1;cases e1;omega
  ·rw[if_neg c];by_cases d:y=st (f+m)
   ·rw[if_pos d];rw[d,hof,hj] at e1;cases e1;exact⟨h1,h2⟩
   ·rw[if_neg d];exact⟨e2,e3⟩
 ·obtain⟨m0,e1,e2⟩:=hset _ _ _ _ e;obtain⟨c1,c2,_,c4⟩:=h.inb _ _ _ _ e1;exact⟨c1,c2,e2,fun k k1 k2=>by rw[hob k (by omega)];exact c4 k k1 k2⟩
 ·obtain⟨f',t',m',e1,e2,e3⟩:=h.blk y hy;by_cases cb:ob y=ob x
  ·have e4:(Bs.set (ob x) (f,t,m+1))[ob y]? =some (f,t,m+1):=by
    rw[cb,List.getElem?_set,if_pos rfl,if_pos hlen]
   have e5:Bs[ob y]? =some (f,t,m):=(by rw[cb];exact hj);rw[mk_iff e4,mk_iff e5,hplM y hy];by_cases c:y=x
   ·rw[if_pos c];exact⟨fun _=> .inr c,fun _=>by omega⟩
   ·rw[if_neg c];have np:pl y≠pl x:=fun e=>c (h.pl_inj hy hx e);by_cases d:y=st (f+m)
    ·rw[if_pos d];have:pl y=f+m:=(by rw[d,hf.2]);constructor
     ·intro q;omega
     ·rintro (q | q)
      ·omega
      ·exact absurd q c
    ·rw[if_neg d];have:pl y≠f+m:=fun e=>d (by rw[←e,(h.inv1 y hy).2]);constructor
     ·intro q;exact .inl (by omega)
     ·rintro (q | q)
      ·omega
      ·exact absurd q c
  ·have e4:(Bs.set (ob x) (f,t,m+1))[ob y]? =some (f',t',m'):=by
    rw[List.getElem?_set,if_neg (fun e=>cb e.symm)];exact e1
   have hyx:y≠x:=fun e=>cb (by rw[e]);have hyf:y≠st (f+m):=fun e=>cb (by rw[e];exact hof);rw[mk_iff e4,mk_iff e1,hplM y hy,if_neg hyx,if_neg hyf];exact⟨.inl,fun q=>q.elim id fun q=>absurd q hyx⟩
structure PartO (n j K:Nat) (Bs Bs':List Blk) (pl ob ob':Nat→Nat):Prop where
 other:∀y,y<n→ob y≠j→ob' y=ob y
 mine:∀y z,y<n→z<n→ob y=j→ob z=j→(ob' y=ob' z↔(MkP Bs pl ob y↔MkP Bs pl ob z))
 new:∀y,y<n→ob' y≠ob y→ob' y=K
 marks:∀y,y<n→(MkP Bs' pl ob' y↔MkP Bs pl ob y∧ob y≠j)
 more:Bs.length≤Bs'.length
theorem part_all (h:ParI n Bs st pl ob) {j f t m:Nat} (hj:Bs[j]? =some (f,t,m)) (hm:f+m=t):
  ParI n (Bs.set j (f,t,0)) st pl ob∧PartO n j Bs.length Bs (Bs.set j (f,t,0)) pl ob ob:=by
 have hlen:=(List.getElem?_eq_some_iff.1 hj).1;have hb:=h.inb _ _ _ _ hj;have all:∀y,y<n→ob y=j→MkP Bs pl ob y:=fun y hy e=>by
  have:=(h.in_iff hy hj).1 e;exact⟨f,t,m,by rw[e];exact hj,by omega⟩
 refine⟨⟨h.inv1,h.inv2,fun x hx=> ?_,fun i f' t' m' e=> ?_⟩,fun _ _ _=>rfl,fun y z hy hz ey ez=> ?_,fun y _ hne=>absurd rfl hne,fun y hy=> ?_,by rw[List.length_set];exact Nat.le_refl _⟩
 ·obtain⟨f',t',m',e1,e2⟩:=h.blk x hx;rw[List.getElem?_set];by_cases c:j=ob x
  ·rw[if_pos c,if_pos hlen];rw[←c,hj] at e1;cases e1;exact⟨_,_,_,rfl,e2⟩
  ·rw[if_neg c];exact⟨f',t',m',e1,e2⟩
 ·rw[List.getElem?_set] at e;by_cases c:j=i
  ·rw[if_pos c,if_pos hlen] at e;cases e;subst c;exact⟨hb.1,hb.2.1,by omega,hb.2.2.2⟩
  ·rw[if_neg c] at e;exact h.inb i f' t' m' e
 ·exact⟨fun _=>⟨fun _=>all z hz ez,fun _=>all y hy ey⟩,fun _=>by rw[ey,ez]⟩
 ·by_cases c:ob y=j
  ·have e4:(Bs.set j (f,t,0))[ob y]? =some (f,t,0):=(by rw[c,List.getElem?_set,if_pos rfl,if_pos hlen]);rw[mk_iff e4];have:=(h.in_iff hy hj).1 c;exact⟨fun q=>by omega,fun q=>absurd c q.2⟩
  ·obtain⟨f',t',m',e1,e2⟩:=h.blk y hy;have e4:(Bs.set j (f,t,0))[ob y]? =some (f',t',m'):=(by rw[List.getElem?_set,if_neg (fun e=>c e.symm)];exact e1);rw[mk_iff e4,mk_iff e1];exact⟨fun q=>⟨q,c⟩,fun q=>q.1⟩
theorem part_new (h:ParI n Bs st pl ob) {j f t m p q p' q':Nat} (hj:Bs[j]? =some (f,t,m)) (h0:0<m) (hm:f+m<t) (hpq:(p=f∧q=f+m∧p'=f+m∧q'=t)∨(p=f+m∧q=t∧p'=f∧q'=f+m)) {ob':Nat→Nat}
  (hob:∀y,y<n→ob' y=if p≤pl y∧pl y<q then Bs.length else ob y):
  ParI n (Bs.set j (p',q',0)++ [(p,q,0)]) st pl ob'∧PartO n j Bs.length Bs (Bs.set j (p',q',0)++ [(p,q,0)]) pl ob ob':=by
 have hlen:=(List.getElem?_eq_some_iff.1 hj).1;have hb:=h.inb _ _ _ _ hj;have inj:∀y,y<n→(p≤pl y∧pl y<q)→ob y=j:=fun y hy hq=>(h.in_iff hy hj).2 (by omega);have gj:(Bs.set j (p',q',0)++ [(p,q,0)])[j]? =some (p',q',0):=by
  rw[List.getElem?_append_left (by rw[List.length_set];exact hlen),List.getElem?_set,if_pos rfl,if_pos hlen]
 have gK:(Bs.set j (p',q',0)++ [(p,q,0)])[Bs.length]? =some (p,q,0):=by
  rw[List.getElem?_append_right (by rw[List.length_set];exact Nat.le_refl _),List.length_set,Nat.sub_self];rfl
 have go:∀(i f' t' m':Nat),i≠j→Bs[i]? =some (f',t',m')→(Bs.set j (p',q',0)++ [(p,q,0)])[i]? =some (f',t',m'):=fun i f' t' m' hne e=>by
  have:=(List.getElem?_eq_some_iff.1 e).1;rw[List.getElem?_append_left (by rw[List.length_set];exact this),List.getElem?_set,if_neg (fun e=>hne e.symm)];exact e
 have mk:∀y,y<n→ob y=j→(MkP Bs pl ob y↔pl y<f+m):=fun y hy e=>mk_iff (by rw[e];exact hj);refine⟨⟨h.inv1,h.inv2,fun x hx=> ?_,fun i f' t' m' e=> ?_⟩,fun y hy hne=> ?_,fun y z hy hz ey ez=> ?_,fun y hy hne=> ?_,fun y hy=> ?_,by rw[List.length_append,List.length_set];omega⟩
 ·rw[hob x hx];by_cases c:p≤pl x∧pl x<q
  ·rw[if_pos c];exact⟨_,_,_,gK,c.1,c.2⟩
  ·rw[if_neg c];by_cases d:ob x=j
   ·rw[d];have:=(h.in_iff hx hj).1 d;exact⟨_,_,_,gj,by omega,by omega⟩
   ·obtain⟨f',t',m',e1,e2⟩:=h.blk x hx;exact⟨f',t',m',go _ _ _ _ d e1,e2⟩
 ·have hob2:∀k,k<n→ob' (st k)=if p≤k∧k<q then Bs.length else ob (st k):=fun k hk=>by
   obtain⟨k1,k2⟩:=h.inv2 k hk;rw[hob _ k1,k2]
  by_cases c:i=j
  ·subst c;rw[gj] at e;cases e;refine⟨by omega,by omega,by omega,fun k k1 k2=> ?_⟩;rw[hob2 k (by omega),if_neg (by omega)];exact hb.2.2.2 k (by omega) (by omega)
  ·by_cases d:i=Bs.length
   ·subst d;rw[gK] at e;cases e;refine⟨by omega,by omega,by omega,fun k k1 k2=> ?_⟩;rw[hob2 k (by omega),if_pos ⟨k1,k2⟩]
   ·have hl:=(List.getElem?_eq_some_iff.1 e).1;rw[List.length_append,List.length_set,List.length_singleton] at hl;rw[List.getElem?_append_left (by rw[List.length_set];omega),List.getElem?_set,if_neg (fun e=>c e.symm)] at e;obtain⟨c1,c2,c3,c4⟩:=h.inb i f' t' m' e;refine⟨c1,c2,c3,fun k k1 k2=> ?_⟩;have hk:=c4 k k1 k2;rw[hob2 k (by omega),if_neg ?_]
    ·exact hk
    ·intro hq;have:=hb.2.2.2 k (by omega) (by omega);rw[hk] at this;exact c this
 ·rw[hob y hy,if_neg (fun e=>hne (inj y hy e))]
 ·have b1:=(h.in_iff hy hj).1 ey;have b2:=(h.in_iff hz hj).1 ez;rw[mk y hy ey,mk z hz ez,hob y hy,hob z hz,ey,ez];have hne:Bs.length≠j:=by omega
  by_cases c:p≤pl y∧pl y<q
  ·by_cases d:p≤pl z∧pl z<q
   ·rw[if_pos c,if_pos d];exact⟨fun _=>by omega,fun _=>rfl⟩
   ·rw[if_pos c,if_neg d];exact⟨fun e=>absurd e hne,fun e=>by omega⟩
  ·by_cases d:p≤pl z∧pl z<q
   ·rw[if_neg c,if_pos d];exact⟨fun e=>absurd e.symm hne,fun e=>by omega⟩
   ·rw[if_neg c,if_neg d];exact⟨fun _=>by omega,fun _=>rfl⟩
 ·rw[hob y hy] at hne ⊢;by_cases c:p≤pl y∧pl y<q
  ·rw[if_pos c]
  ·rw[if_neg c] at hne;exact absurd rfl hne
 ·by_cases c:ob y=j
  ·have b1:=(h.in_iff hy hj).1 c;by_cases d:p≤pl y∧pl y<q
   ·have e4:(Bs.set j (p',q',0)++ [(p,q,0)])[ob' y]? =some (p,q,0):=(by rw[hob y hy,if_pos d];exact gK);rw[mk_iff e4];exact⟨fun q=>by omega,fun q=>absurd c q.2⟩
   ·have e4:(Bs.set j (p',q',0)++ [(p,q,0)])[ob' y]? =some (p',q',0):=(by rw[hob y hy,if_neg d,c];exact gj);rw[mk_iff e4];exact⟨fun q=>by omega,fun q=>absurd c q.2⟩
  ·obtain⟨f',t',m',e1,e2⟩:=h.blk y hy;have e4:(Bs.set j (p',q',0)++ [(p,q,0)])[ob' y]? =some (f',t',m'):=by
    rw[hob y hy,if_neg (fun e=>c (inj y hy e))];exact go _ _ _ _ c e1
   rw[mk_iff e4,mk_iff e1];exact⟨fun q=>⟨q,c⟩,fun q=>q.1⟩
structure PartsI (n K0:Nat) (H:Nat→Prop) (ob0:Nat→Nat) (done:Nat→Prop) (Bs:List Blk) (pl ob:Nat→Nat):Prop where
 left:∀y,y<n→¬done (ob0 y)→ob y=ob0 y∧(MkP Bs pl ob y↔H y)
 clear:∀y,y<n→done (ob0 y)→¬MkP Bs pl ob y
 same:∀y z,y<n→z<n→(ob y=ob z↔ob0 y=ob0 z∧(done (ob0 y)→(H y↔H z)))
 new:∀y,y<n→ob y≠ob0 y→K0≤ob y
 more:K0≤Bs.length
theorem parts_start {K0:Nat} {H:Nat→Prop} (hm:∀y,y<n→(MkP Bs pl ob y↔H y)) (hK:K0≤Bs.length):PartsI n K0 H ob (fun _=>False) Bs pl ob:=
 ⟨fun y hy _=>⟨rfl,hm y hy⟩,fun _ _ h=>h.elim,fun _ _ _ _=>⟨fun e=>⟨e,fun h=>h.elim⟩,fun e=>e.1⟩,fun _ _ hne=>absurd rfl hne,hK⟩
theorem parts_step {K0 j:Nat} {H:Nat→Prop} {ob0 ob':Nat→Nat} {done:Nat→Prop} {Bs':List Blk} (h:PartsI n K0 H ob0 done Bs pl ob) (hp:ParI n Bs st pl ob) (hj:¬done j) (hjK:j<K0) (ho:PartO n j Bs.length Bs Bs' pl ob ob'):
  PartsI n K0 H ob0 (fun i=>done i∨i=j) Bs' pl ob':=by
 have hK:=h.more;have at_:∀y,y<n→(ob y=j↔ob0 y=j):=fun y hy=>by
  by_cases c:done (ob0 y)
  ·by_cases d:ob y=ob0 y
   ·rw[d]
   ·have:=h.new y hy d;exact⟨fun e=>by omega,fun e=>absurd (e▸c) hj⟩
  ·rw[(h.left y hy c).1]
 refine⟨fun y hy hd=> ?_,fun y hy hd hmk=> ?_,fun y z hy hz=> ?_,fun y hy hne=> ?_,Nat.le_trans hK ho.more⟩
 ·have hd1:¬done (ob0 y):=fun e=>hd (.inl e);have hd2:ob y≠j:=fun e=>hd (.inr ((at_ y hy).1 e));have:=h.left y hy hd1;rw[ho.other y hy hd2,ho.marks y hy];exact⟨this.1,⟨fun q=>this.2.1 q.1,fun q=>⟨this.2.2 q,hd2⟩⟩⟩
 ·rw[ho.marks y hy] at hmk;rcases hd with hd | hd
  ·exact h.clear y hy hd hmk.1
  ·exact hmk.2 ((at_ y hy).2 hd)
 ·by_cases cy:ob0 y=j
  ·have hoy:=(at_ y hy).2 cy;have hyl:=(h.left y hy (by rw[cy];exact hj)).2;by_cases cz:ob0 z=j
   ·have hoz:=(at_ z hz).2 cz;have hzl:=(h.left z hz (by rw[cz];exact hj)).2;rw[ho.mine y z hy hz hoy hoz,hyl,hzl];exact⟨fun e=>⟨by rw[cy,cz],fun _=>e⟩,fun e=>e.2 (.inr cy)⟩
   ·have hoz:ob z≠j:=fun e=>cz ((at_ z hz).1 e);refine⟨fun e=> ?_,fun e=>absurd (e.1.symm.trans cy) cz⟩;rw[ho.other z hz hoz] at e;have hzl:=hp.lt hz;by_cases c:ob' y=ob y
    ·rw[c,hoy] at e;exact absurd e.symm hoz
    ·rw[ho.new y hy c] at e;omega
  ·have hoy:ob y≠j:=fun e=>cy ((at_ y hy).1 e);by_cases cz:ob0 z=j
   ·have hoz:=(at_ z hz).2 cz;refine⟨fun e=> ?_,fun e=>absurd (e.1.trans cz) cy⟩;rw[ho.other y hy hoy] at e;have hyl:=hp.lt hy;by_cases c:ob' z=ob z
    ·rw[c,hoz] at e;exact absurd e hoy
    ·rw[ho.new z hz c] at e;omega
   ·have hoz:ob z≠j:=fun e=>cz ((at_ z hz).1 e);rw[ho.other y hy hoy,ho.other z hz hoz,h.same y z hy hz];exact⟨fun e=>⟨e.1,fun q=>e.2 (q.elim id fun q=>absurd q cy)⟩,fun e=>⟨e.1,fun q=>e.2 (.inl q)⟩⟩
 ·by_cases c:ob' y=ob y
  ·rw[c] at hne ⊢;exact h.new y hy hne
  ·rw[ho.new y hy c];exact hK
structure RefI (n K0:Nat) (H:Nat→Prop) (ob0 ob:Nat→Nat):Prop where
 same:∀y z,y<n→z<n→(ob y=ob z↔ob0 y=ob0 z∧(H y↔H z))
 new:∀y,y<n→ob y≠ob0 y→K0≤ob y
theorem parts_end {K0:Nat} {H:Nat→Prop} {ob0:Nat→Nat} {done:Nat→Prop} (h:PartsI n K0 H ob0 done Bs pl ob) (hall:∀y,y<n→H y→done (ob0 y)):RefI n K0 H ob0 ob∧∀y,y<n→¬MkP Bs pl ob y:=by
 refine⟨⟨fun y z hy hz=> ?_,h.new⟩,fun y hy hmk=> ?_⟩
 ·rw[h.same y z hy hz];refine⟨fun e=>⟨e.1,?_⟩,fun e=>⟨e.1,fun _=>e.2⟩⟩;by_cases c:done (ob0 y)
  ·exact e.2 c
  ·exact⟨fun q=>absurd (hall y hy q) c,fun q=>absurd (by rw[e.1];exact hall z hz q) c⟩
 ·by_cases c:done (ob0 y)
  ·exact h.clear y hy c hmk
  ·exact c (hall y hy ((h.left y hy c).2.1 hmk))
end
section
variable (d:Dfa)
structure HopI (c:Nat) (ob:Nat→Nat):Prop where
 sound:∀y z,y≤d.n→z≤d.n→ob y≠ob z→ApartN d y z
 rule:∀y z,y≤d.n→z≤d.n→ob y=ob z→ruN d y=ruN d z
 hop:∀y z b,y≤d.n→z≤d.n→b<256→ob y=ob z→ob (toN d y b)≠ob (toN d z b)→c≤ob (toN d y b)∨c≤ob (toN d z b)
structure ByteI (c K0 B:Nat) (ob0 ob:Nat→Nat):Prop where
 same:∀y z,y≤d.n→z≤d.n→(ob y=ob z↔ob0 y=ob0 z∧∀b,b<B→(ob0 (toN d y b)=c↔ob0 (toN d z b)=c))
 new:∀y,y≤d.n→ob y≠ob0 y→K0≤ob y
variable {d} {c K0:Nat} {ob0 ob ob':Nat→Nat}
theorem byte_start:ByteI d c K0 0 ob0 ob0:=⟨fun y z _ _=>⟨fun e=>⟨e,fun b hb=>by omega⟩,fun e=>e.1⟩,fun y _ h=>absurd rfl h⟩
theorem byte_step {B K1:Nat} (h:ByteI d c K0 B ob0 ob) (g:RefI (d.n+1) K1 (fun y=>ob0 (toN d y B)=c) ob ob') (hK:K0≤K1):ByteI d c K0 (B+1) ob0 ob':=by
 refine⟨fun y z hy hz=> ?_,fun y hy hne=> ?_⟩
 ·rw[g.same y z (by omega) (by omega),h.same y z hy hz];refine⟨fun e=>⟨e.1.1,fun b hb=> ?_⟩,fun e=>⟨⟨e.1,fun b hb=>e.2 b (by omega)⟩,e.2 B (by omega)⟩⟩;by_cases cb:b=B
  ·subst cb;exact e.2
  ·exact e.1.2 b (by omega)
 ·by_cases q:ob' y=ob y
  ·rw[q] at hne ⊢;exact h.new y hy hne
  ·exact Nat.le_trans hK (g.new y (by omega) q)
theorem hop_step (hd:OkD d) (h:HopI d c ob0) (g:ByteI d c K0 256 ob0 ob) (hc:c<K0):HopI d (c+1) ob:=by
 refine⟨fun y z hy hz hne=> ?_,fun y z hy hz e=>h.rule y z hy hz ((g.same y z hy hz).1 e).1,fun y z b hy hz hb e hne=> ?_⟩
 ·by_cases q:ob0 y=ob0 z
  ·have:∃b,b<256∧¬(ob0 (toN d y b)=c↔ob0 (toN d z b)=c):=Classical.byContradiction fun hno=>hne ((g.same y z hy hz).2 ⟨q,fun b hb=>Classical.byContradiction fun hb2=>hno ⟨b,hb,hb2⟩⟩);obtain⟨b,hb,hb2⟩:=this;refine apart_step hd hb (h.sound _ _ (toN_le hd y b) (toN_le hd z b) fun e=>hb2 (by rw[e]))
  ·exact h.sound y z hy hz q
 ·obtain⟨e1,e2⟩:=(g.same y z hy hz).1 e;have hy2:=toN_le hd y b;have hz2:=toN_le hd z b;have keep:∀x,x≤d.n→c<ob0 x→c+1≤ob x:=fun x hx hlt=>by
   by_cases q:ob x=ob0 x
   ·omega
   ·have:=g.new x hx q;omega
  by_cases q:ob0 (toN d y b)=ob0 (toN d z b)
  ·by_cases q1:ob (toN d y b)=ob0 (toN d y b)
   ·by_cases q2:ob (toN d z b)=ob0 (toN d z b)
    ·exact absurd (by rw[q1,q2,q]) hne
    ·have:=g.new _ hz2 q2;exact .inr (by omega)
   ·have:=g.new _ hy2 q1;exact .inl (by omega)
  ·rcases h.hop y z b hy hz hb e1 q with h1 | h1
   ·by_cases q1:ob0 (toN d y b)=c
    ·exact absurd (q1.trans ((e2 b hb).1 q1).symm) q
    ·exact .inl (keep _ hy2 (by omega))
   ·by_cases q1:ob0 (toN d z b)=c
    ·exact absurd (((e2 b hb).2 q1).trans q1.symm) q
    ·exact .inr (keep _ hz2 (by omega))
theorem hop_end (hd:OkD d) (h:HopI d c ob) (hlt:∀y,y≤d.n→ob y<c):MatI d (fun i k=>decide (ob i≠ob k)) where
 sound:=fun i k hi hk e=>h.sound i k hi hk (of_decide_eq_true e)
 rule:=fun i k hi hk hne=>decide_eq_true fun e=>hne (h.rule i k hi hk e)
 closed:=fun i k b hi hk hb e=>decide_eq_false fun hne=>by
  have e2:ob i=ob k:=Classical.byContradiction fun q=>by
   rw[decide_eq_true q] at e;cases e
  rcases h.hop i k b hi hk hb e2 hne with h1 | h1
  ·have:=hlt _ (toN_le hd i b);omega
  ·have:=hlt _ (toN_le hd k b);omega
theorem hop_start (h1:∀y z,y≤d.n→z≤d.n→(ob y=ob z↔ruN d y=ruN d z)):HopI d 0 ob:=
 ⟨fun y z hy hz hne=>⟨[],fun b hb=>(List.not_mem_nil hb).elim,fun e=>hne ((h1 y z hy hz).2 (by rw[←sayN_nil,←sayN_nil];exact e))⟩,fun y z hy hz e=>(h1 y z hy hz).1 e,fun _ _ _ _ _ _ _ _=> .inl (Nat.zero_le _)⟩
end
end Go.Proofs.YtjeomlickkpebaaGreatDoor
namespace Go.Proofs.YtjeomlickkpebaaGreatDoor
def LangR (l:List Nd) (w:List Nat) (j:Nat):Prop:=∃n,l[j]? =some n∧LangN n w
def GoodL (l:List Nd):Prop:=∀n,n∈l→mayR n=true∧wfR n
def makeF:List Nd→Nat→List Sta→List Int→List Sta×List Int
 | [],_,q,first=>(q,first)
 | n::l,j,q,first=>makeF l (j+1) (buildT n (q++ [endS j]) q.length).1 (first++ [((buildT n (q++ [endS j]) q.length).2:Int)])
def makeQ (l:List Nd):List Sta×List Int:=makeF l 0 [] []
structure Made (q:List Sta) (first:List Int) (l:List Nd):Prop where
 ok:∀(i:Nat) (s:Sta),q[i]? =some s→StOk q.length s
 in_:InQ q first
 len:first.length=l.length
 word:∀(Q:List Sta),(∀i,i<q.length→Q[i]? =q[i]?)→∀(j:Nat) (n:Nd) (a:Int),l[j]? =some n→first[j]? =some a→∀w r,(∃k,Goes Q a.toNat w r k)↔LangN n w∧r=j
theorem made_nil:Made [] [] []:=⟨(fun i s h=>by simp at h),(fun a h=>by cases h),rfl,fun Q _ j n a h=>by simp at h⟩
theorem made_snoc {q:List Sta} {first:List Int} {l:List Nd} (h:Made q first l) (n:Nd) (hm:mayR n=true) (hw:wfR n):
  Made (buildT n (q++ [endS l.length]) q.length).1 (first++ [((buildT n (q++ [endS l.length]) q.length).2:Int)]) (l++ [n]):=by
 have hb:=build_ok n hm hw (q++ [endS l.length]) q.length;have hlen:(q++ [endS l.length]).length=q.length+1:=by rw[List.length_append];rfl
 generalize (buildT n (q++ [endS l.length]) q.length).1=q1 at hb;generalize (buildT n (q++ [endS l.length]) q.length).2=a1 at hb;have h1:=hb.len;rw[hlen] at h1;have hat:=hb.atlt (by omega);refine⟨fun i s hs=> ?_,fun a ha=> ?_,by rw[List.length_append,List.length_append,h.len];rfl,fun Q hQ j m a hj ha w r=> ?_⟩
 ·by_cases c1:i<q.length
  ·rw[hb.same i (by omega),snoc_lt c1] at hs;exact (h.ok i s hs).mono (by omega)
  ·by_cases c2:i=q.length
   ·rw[c2,hb.same _ (by omega),snoc_at] at hs;cases hs;exact⟨by show 0<_;omega,by show 0<_;omega,by show 2<3;omega,ok_no⟩
   ·exact hb.ok (by omega) i s (by omega) hs
 ·rw[List.mem_append,List.mem_singleton] at ha;rcases ha with ha | ha
  ·have:=h.in_ a ha;omega
  ·omega
 ·by_cases c:j<l.length
  ·rw[List.getElem?_append_left c] at hj;rw[List.getElem?_append_left (by rw[h.len];exact c)] at ha;exact h.word Q (fun i hi=>by rw[hQ i (by omega),hb.same i (by omega),snoc_lt hi]) j m a hj ha w r
  ·have hjl:=(List.getElem?_eq_some_iff.1 hj).1;rw[List.length_append] at hjl;have e:j=l.length:=(by simp at hjl;omega);subst e;rw[List.getElem?_append_right (Nat.le_refl _),Nat.sub_self] at hj;rw[List.getElem?_append_right (by rw[h.len];exact Nat.le_refl _),h.len,Nat.sub_self] at ha;cases hj;cases ha;rw[Int.toNat_natCast];have hq:Q[q.length]? =some (endS l.length):=(by rw[hQ _ (by omega),hb.same _ (by omega),snoc_at]);constructor
   ·rintro⟨k,g⟩;obtain⟨u,v,k',rfl,hu,g',_⟩:=hb.fwd Q (fun i _ hi=>hQ i hi) w r k g;obtain⟨rfl,e⟩:=goes_end hq g';rw[List.append_nil];exact⟨hu,e⟩
   ·rintro⟨hl,rfl⟩;obtain⟨k',g'⟩:=hb.bwd Q (fun i _ hi=>hQ i hi) w [] l.length 0 hl (.fin hq rfl);rw[List.append_nil] at g';exact⟨k',g'⟩
theorem makeF_ok:∀(l done:List Nd) (q:List Sta) (first:List Int),GoodL l→Made q first done→Made (makeF l done.length q first).1 (makeF l done.length q first).2 (done++l)
 | [],done,q,first,_,h=>by rw[makeF,List.append_nil];exact h
 | n::l,done,q,first,hg,h=>by
  rw[makeF];have h1:=made_snoc h n (hg n (by simp)).1 (hg n (by simp)).2;have:=makeF_ok l (done++ [n]) _ _ (fun m hm=>hg m (by simp[hm])) h1;rw[List.append_assoc,List.length_append] at this;exact this
theorem makeQ_ok (l:List Nd) (hg:GoodL l):Made (makeQ l).1 (makeQ l).2 l:=makeF_ok l [] [] [] hg made_nil
theorem makeF_len:∀(l:List Nd) (j:Nat) (q:List Sta) (first:List Int),(makeF l j q first).1.length≤q.length+2*wtL l+l.length
 | [],_,q,_=>by rw[makeF];simp[wtL]
 | n::l,j,q,first=>by
  rw[makeF,wtL,List.length_cons];have:=makeF_len l (j+1) (buildT n (q++ [endS j]) q.length).1 (first++ [((buildT n (q++ [endS j]) q.length).2:Int)]);have:=build_len n (q++ [endS j]) q.length;rw[List.length_append] at this;simp only[List.length_cons,List.length_nil] at this;omega
theorem made_acc {q:List Sta} {first:List Int} {l:List Nd} (h:Made q first l) (w:List Nat) (r:Nat):AccP q first w r↔LangR l w r:=by
 constructor
 ·rintro⟨a,ha,h0,k,g⟩;obtain⟨j,hj⟩:=List.getElem?_of_mem ha;obtain⟨n,hn⟩:∃n,l[j]? =some n:=⟨_,List.getElem?_eq_getElem (by rw[←h.len];exact (List.getElem?_eq_some_iff.1 hj).1)⟩;obtain⟨h1,rfl⟩:=(h.word q (fun _ _=>rfl) j n a hn hj w r).1 ⟨k,g⟩;exact⟨n,hn,h1⟩
 ·rintro⟨n,hn,hl⟩;obtain⟨a,ha⟩:∃a,first[r]? =some a:=⟨_,List.getElem?_eq_getElem (by rw[h.len];exact (List.getElem?_eq_some_iff.1 hn).1)⟩;obtain⟨k,g⟩:=(h.word q (fun _ _=>rfl) r n a hn ha w r).2 ⟨hl,rfl⟩;have hm:=List.mem_of_getElem? ha;exact⟨a,hm,(h.in_ a hm).1,k,g⟩
def stepsP (q:List Sta):List Nat→List Int→List Int
 | [],l=>l
 | b::w,l=>stepsP q w (stepP q b l)
theorem steps_snoc (q:List Sta):∀(w:List Nat) (b:Nat) (l:List Int),stepsP q (w++ [b]) l=stepP q b (stepsP q w l)
 | [],b,l=>rfl
 | c::w,b,l=>by rw[List.cons_append,stepsP,stepsP,steps_snoc q w b]
theorem steps_ok {q:List Sta} (hq:∀(i:Nat) (s:Sta),q[i]? =some s→StOk q.length s):∀(u:List Nat) (l:List Int),InQ q l→NoFork q l→InQ q (stepsP q u l)∧NoFork q (stepsP q u l)∧∀w r,AccP q (stepsP q u l) w r↔AccP q l (u++w) r
 | [],l,h1,h2=>⟨h1,h2,fun _ _=>Iff.rfl⟩
 | b::u,l,h1,h2=>by
  obtain⟨s1,s2,s3⟩:=step_ok q hq b l h2;obtain⟨t1,t2,t3⟩:=steps_ok hq u _ s1 s2;exact⟨t1,t2,fun w r=>(t3 w r).trans (s3 (u++w) r)⟩
theorem least_ok {q:List Sta} {first:List Int} {l:List Nd} (h:Made q first l) (w:List Nat):LeastI (LangR l w) (accP q (stepsP q w (reachP q first)) (-1)):=by
 obtain⟨r1,r2,r3⟩:=reach_ok q h.ok first h.in_;obtain⟨s1,s2,s3⟩:=steps_ok h.ok w _ r1 r2;refine (accepts_ok q _ s2).conv fun j=> ?_;rw[s3 [] j,List.append_nil,r3 w j];exact made_acc h w j
structure RuN where
 m:Nat
 sets:List St4
 behind:Nat→Nat→Bool
 last:Nat→Bool
def ruleN (n:Nd):RuN:=⟨(setsN n).length+1,noR::setsN n,fun p q=>if p=0 then (glN n 1).first q else (glN n 1).fol p q,fun p=>if p=0 then (glN n 1).null else (glN n 1).last p⟩
def anyF (f:Nat→Bool):Nat→Bool
 | 0=>false
 | n+1=>anyF f n||f n
theorem any_iff (f:Nat→Bool):∀n,anyF f n=true↔∃i,i<n∧f i=true
 | 0=>⟨(fun h=>by cases h),(fun⟨i,h,_⟩=>absurd h (by omega))⟩
 | n+1=>by
  rw[anyF,Bool.or_eq_true,any_iff f n];constructor
  ·rintro (⟨i,h,e⟩ | e)
   ·exact⟨i,by omega,e⟩
   ·exact⟨n,by omega,e⟩
  ·rintro⟨i,h,e⟩;by_cases c:i=n
   ·subst c;exact .inr e
   ·exact .inl ⟨i,by omega,e⟩
def startG:Nat→Bool:=oneF 0
def setAt (l:List St4) (i:Nat):St4:=l.getD i noR
def orsG (r:RuN) (at_:Nat→Bool):Nat→Nat→Bool
 | 0=>noF
 | k+1=>if at_ k=true then orF (orsG r at_ k) (r.behind k) else orsG r at_ k
theorem ors_iff (r:RuN) (at_:Nat→Bool) (q:Nat):∀k,orsG r at_ k q=true↔∃p,p<k∧at_ p=true∧r.behind p q=true
 | 0=>⟨(fun h=>by cases h),(fun⟨i,h,_⟩=>absurd h (by omega))⟩
 | k+1=>by
  rw[orsG];split
  ·rename_i h;rw[orF,Bool.or_eq_true,ors_iff r at_ q k];constructor
   ·rintro (⟨i,h,e⟩ | e)
    ·exact⟨i,by omega,e⟩
    ·exact⟨k,by omega,h,e⟩
   ·rintro⟨i,h2,e⟩;by_cases c:i=k
    ·subst c;exact .inr e.2
    ·exact .inl ⟨i,by omega,e⟩
  ·rename_i h;rw[ors_iff r at_ q k];constructor
   ·rintro⟨i,h,e⟩;exact⟨i,by omega,e⟩
   ·rintro⟨i,h2,e⟩;by_cases c:i=k
    ·subst c;exact absurd e.1 h
    ·exact⟨i,by omega,e⟩
def stepG (r:RuN) (at_:Nat→Bool) (b:Nat):Nat→Bool:=fun q=>orsG r at_ r.m q&&(decide (0<q)&&hasR (setAt r.sets q) b)
def endsG (r:RuN) (at_:Nat→Bool):Bool:=anyF (fun p=>at_ p&&r.last p) r.m
def isAny (r:RuN) (at_:Nat→Bool):Bool:=anyF at_ r.m
def RunG (r:RuN) (at_:Nat→Bool) (w:List Nat):Prop:=∃p,p<r.m∧at_ p=true∧PathG r.behind (setAt r.sets) r.last w p
structure RuOk (r:RuN) (L:List Nat→Prop):Prop where
 pos:0<r.m
 len:r.sets.length=r.m
 to:∀p q,r.behind p q=true→0<q∧q<r.m
 lt:∀p,r.last p=true→p<r.m
 sets:∀s,s∈r.sets→OkR s
 word:∀w,RunG r startG w↔L w
mutual
theorem sets_wf:∀(n:Nd),wfR n→∀s,s∈setsN n→OkR s
 | .mk k t l,h,s,hs=>by
  rw[wfR] at h;rw[setsN] at hs;split at hs
  ·rcases List.mem_cons.1 hs with rfl | hs
   ·exact h.1
   ·exact setsL_wf l h.2 s hs
  ·exact setsL_wf l h.2 s hs
theorem setsL_wf:∀(l:List Nd),wfL l→∀s,s∈setsL l→OkR s
 | [],_,s,hs=>by cases hs
 | n::l,h,s,hs=>by
  rw[wfL] at h;rw[setsL,List.mem_append] at hs;rcases hs with hs | hs
  ·exact sets_wf n h.1 s hs
  ·exact setsL_wf l h.2 s hs
end
theorem rule_ok (n:Nd) (hm:mayR n=true) (hw:wfR n):RuOk (ruleN n) (LangN n):=by
 have hset:SetsAt (setAt (noR::setsN n)) 1 (setsN n):=fun i s h=>by
  unfold setAt;rw[Nat.add_comm,List.getD_cons_succ,List.getD_eq_getElem?_getD,h];rfl
 obtain⟨g1,g2⟩:=gl_ok n hm 1 _ hset;have hpath:∀(w:List Nat) (p:Nat),0<p→(PathG (ruleN n).behind (setAt (noR::setsN n)) (ruleN n).last w p↔PathG (glN n 1).fol (setAt (noR::setsN n)) (glN n 1).last w p):=by
  intro w
  induction w with
  | nil=>
   intro p hp;simp only[PathG,ruleN];rw[if_neg (by omega)]
  | cons b w ih=>
   intro p hp;simp only[PathG];refine exists_congr fun q=> ?_;rw[show (ruleN n).behind p q=(glN n 1).fol p q by simp only[ruleN];rw[if_neg (by omega)]];constructor
   ·rintro⟨e,f,g⟩;exact⟨e,f,(ih q (by have:=(g1.fol _ _ e).2;omega)).1 g⟩
   ·rintro⟨e,f,g⟩;exact⟨e,f,(ih q (by have:=(g1.fol _ _ e).2;omega)).2 g⟩
 refine⟨Nat.succ_pos _,rfl,fun p q e=> ?_,fun p e=> ?_,fun s hs=> ?_,fun w=> ?_⟩
 ·simp only[ruleN] at e ⊢;split at e
  ·have:=g1.first q e;omega
  ·have:=(g1.fol p q e).2;omega
 ·simp only[ruleN] at e ⊢;split at e
  ·omega
  ·have:=g1.last p e;omega
 ·rcases List.mem_cons.1 hs with rfl | hs
  ·exact ok_no
  ·exact sets_wf n hw s hs
 ·rw[←g2 w];have hrun:RunG (ruleN n) startG w↔PathG (ruleN n).behind (setAt (noR::setsN n)) (ruleN n).last w 0:=by
   constructor
   ·rintro⟨p,_,e,g⟩;have:p=0:=(by simpa [startG,oneF] using e);rw[←this];exact g
   ·intro g;exact⟨0,Nat.succ_pos _,rfl,g⟩
  rw[hrun]
  match w with
  | []=>simp[PathG,ruleN,WordG]
  | b::w=>
   simp only[PathG,WordG];refine exists_congr fun q=> ?_;rw[show (ruleN n).behind 0 q=(glN n 1).first q from rfl];constructor
   ·rintro⟨e,f,g⟩;exact⟨e,f,(hpath w q (by have:=g1.first q e;omega)).1 g⟩
   ·rintro⟨e,f,g⟩;exact⟨e,f,(hpath w q (by have:=g1.first q e;omega)).2 g⟩
section
variable {r:RuN} {L:List Nat→Prop}
theorem run_step (h:RuOk r L) (at_:Nat→Bool) (b:Nat) (w:List Nat):RunG r (stepG r at_ b) w↔RunG r at_ (b::w):=by
 constructor
 ·rintro⟨q,hq,e,g⟩;simp only[stepG,Bool.and_eq_true] at e;obtain⟨p,hp,e1,e2⟩:=(ors_iff r at_ q r.m).1 e.1;exact⟨p,hp,e1,q,e2,e.2.2,g⟩
 ·rintro⟨p,hp,e1,q,e2,e3,g⟩;have:=h.to p q e2;refine⟨q,this.2,?_,g⟩;simp only[stepG,Bool.and_eq_true];exact⟨(ors_iff r at_ q r.m).2 ⟨p,hp,e1,e2⟩,by simpa using this.1,e3⟩
theorem run_ends (at_:Nat→Bool):endsG r at_=true↔RunG r at_ []:=by
 unfold endsG;rw[any_iff];refine exists_congr fun p=>and_congr Iff.rfl ?_;rw[Bool.and_eq_true];exact Iff.rfl
theorem run_any (at_:Nat→Bool) (h:isAny r at_=false) (w:List Nat):¬RunG r at_ w:=by
 rintro⟨p,hp,e,_⟩;have:=(any_iff at_ r.m).2 ⟨p,hp,e⟩;unfold isAny at h;rw[h] at this;cases this
end
def stepsG (r:RuN):List Nat→(Nat→Bool)→Nat→Bool
 | [],x=>x
 | b::w,at_=>stepsG r w (stepG r at_ b)
theorem run_steps {r:RuN} {L:List Nat→Prop} (h:RuOk r L):∀(u:List Nat) (at_:Nat→Bool) (w:List Nat),RunG r (stepsG r u at_) w↔RunG r at_ (u++w)
 | [],_,_=>Iff.rfl
 | b::u,at_,w=>(run_steps h u (stepG r at_ b) w).trans (run_step h at_ b (u++w))
theorem ends_lang {r:RuN} {L:List Nat→Prop} (h:RuOk r L) (w:List Nat):endsG r (stepsG r w startG)=true↔L w:=by
 rw[run_ends,run_steps h,List.append_nil,h.word]
def leastG:List RuN→List Nat→Nat→Int
 | [],_,_=> -1
 | r::l,w,j=>if endsG r (stepsG r w startG)=true then (j:Int) else leastG l w (j+1)
theorem leastG_ok (w:List Nat) (all:List Nd):∀(l:List Nd) (j:Nat),GoodL l→all.drop j=l→(∀i,i<j→¬LangR all w i)→LeastI (LangR all w) (leastG (l.map ruleN) w j)
 | [],j,_,hd,hno=>by
  refine .inl ⟨rfl,fun i ⟨n,hn,hl⟩=> ?_⟩;by_cases c:i<j
  ·exact hno i c ⟨n,hn,hl⟩
  ·have:=List.drop_eq_nil_iff.1 hd;have:=(List.getElem?_eq_some_iff.1 hn).1;omega
 | n::l,j,hg,hd,hno=>by
  have hj:all[j]? =some n:=by
   have:=congrArg (fun x=>x[0]?) hd
   simpa using this
  have hr:=rule_ok n (hg n (by simp)).1 (hg n (by simp)).2;rw[List.map_cons,leastG];split
  ·rename_i h;exact .inr ⟨j,rfl,⟨n,hj,(ends_lang hr w).1 h⟩,fun i hi=>hno i hi⟩
  ·rename_i h;refine leastG_ok w all l (j+1) (fun m hm=>hg m (by simp[hm])) (by rw[←List.drop_drop,hd];rfl) fun i hi hl=> ?_;by_cases c:i=j
   ·subst c;obtain⟨m,hm,hl⟩:=hl;rw[hj] at hm;cases hm;exact h ((ends_lang hr w).2 hl)
   ·exact hno i (by omega) hl
def goG (r:RuN) (j:Nat):List Nat→(Nat→Bool)→Int→Int→Int→Int×Int
 | [],at_,i,long,rule=>if isAny r at_=true then (if endsG r at_=true∧(rule<0∨long<i) then (i,(j:Int)) else (long,rule)) else (long,rule)
 | b::w,at_,i,long,rule=>if isAny r at_=true then
   (if endsG r at_=true∧(rule<0∨long<i) then goG r j w (stepG r at_ b) (i+1) i (j:Int) else goG r j w (stepG r at_ b) (i+1) long rule) else (long,rule)
def Upto (all:List Nd) (r i:Nat) (u:List Nat) (j:Nat):Prop:=LangR all u j∧(j<r∨j=r∧u.length<i)
theorem matchI_hit {all:List Nd} {W:List Nat} {r i:Nat} {long rule:Int} (hi:i≤W.length) (hm:MatchI (Upto all r i) W long rule) (hl:LangR all (W.take i) r) (hc:rule<0∨long<i):MatchI (Upto all r (i+1)) W i r:=by
 have hlen:∀x,x≤W.length→(W.take x).length=x:=fun x hx=>by rw[List.length_take];omega
 have hno:∀j,j<r→∀x,i≤x→x≤W.length→¬LangR all (W.take x) j:=by
  intro j hj x hx hxl hL;rcases hm with ⟨e,_,h⟩ | ⟨m,e,hm1,hr,h1,h2⟩
  ·exact h x hxl j ⟨hL,.inl hj⟩
  ·have hr0:¬rule<0:=by
    rcases h1.cases with ⟨e,_⟩ | ⟨_,h0,_⟩
    ·exact absurd e hr
    ·omega
   have hmi:m<i:=(by omega);exact h2 x (by omega) hxl j ⟨hL,.inl hj⟩
 refine .inr ⟨i,rfl,hi,by omega,.inr ⟨r,rfl,⟨hl,.inr ⟨rfl,by rw[hlen i hi];omega⟩⟩,fun j hj hu=>hno j hj i (Nat.le_refl _) hi hu.1⟩,fun x hx hxl j hu=> ?_⟩;rcases hu.2 with hj | ⟨_,hj⟩
 ·exact hno j hj x (by omega) hxl hu.1
 ·rw[hlen x hxl] at hj;omega
theorem matchI_miss {all:List Nd} {W:List Nat} {r i:Nat} {long rule:Int} (hi:i≤W.length) (hm:MatchI (Upto all r i) W long rule) (hc:¬(LangR all (W.take i) r∧(rule<0∨long<i))):MatchI (Upto all r (i+1)) W long rule:=by
 have hlen:∀x,x≤W.length→(W.take x).length=x:=fun x hx=>by rw[List.length_take];omega
 rcases hm with ⟨e,e2,h⟩ | ⟨m,e,hm1,hr,h1,h2⟩
 ·refine .inl ⟨e,e2,fun x hx j hu=> ?_⟩;by_cases c:j=r∧x=i
  ·obtain⟨rfl,rfl⟩:=c;exact hc ⟨hu.1,.inl (by omega)⟩
  ·refine h x hx j ⟨hu.1,?_⟩;rcases hu.2 with hj | ⟨hj,hj2⟩
   ·exact .inl hj
   ·rw[hlen x hx] at hj2 ⊢;exact .inr ⟨hj,by omega⟩
 ·have hr0:0≤rule:=by
   rcases h1.cases with ⟨e,_⟩ | ⟨_,h0,_⟩
   ·exact absurd e hr
   ·exact h0
  have key:∀x,x≤W.length→m≤x→∀j,Upto all r (i+1) (W.take x) j→Upto all r i (W.take x) j∨(j=r∧x=i∧m=i):=by
   intro x hx hmx j hu;rcases hu.2 with hj | ⟨hj,hj2⟩
   ·exact .inl ⟨hu.1,.inl hj⟩
   ·rw[hlen x hx] at hj2;by_cases c:x=i
    ·by_cases c2:m=i
     ·exact .inr ⟨hj,c,c2⟩
     ·exfalso;rw[hj,c] at hu;exact hc ⟨hu.1,.inr (by omega)⟩
    ·exact .inl ⟨hu.1,.inr ⟨hj,by rw[hlen x hx];omega⟩⟩
  refine .inr ⟨m,e,hm1,hr,?_,fun x hx hxl j hu=> ?_⟩
  ·rcases h1 with ⟨e0,_⟩ | ⟨j,e1,hj,hleast⟩
   ·exact absurd e0 hr
   ·refine .inr ⟨j,e1,⟨hj.1,?_⟩,fun y hy hu=> ?_⟩
    ·rcases hj.2 with a | ⟨a,b⟩
     ·exact .inl a
     ·exact .inr ⟨a,by omega⟩
    ·rcases key m hm1 (Nat.le_refl _) y hu with hu | ⟨hy2,_,hmi⟩
     ·exact hleast y hy hu
     ·rcases hj.2 with a | ⟨a,b⟩
      ·omega
      ·rw[hlen m hm1] at b;omega
  ·rcases key x hxl (by omega) j hu with hu | ⟨_,hxi,hmi⟩
   ·exact h2 x hx hxl j hu
   ·omega
theorem matchI_conv {A B:List Nat→Nat→Prop} {W:List Nat} {long rule:Int} (h:MatchI A W long rule) (e:∀x,x≤W.length→∀j,A (W.take x) j↔B (W.take x) j):MatchI B W long rule:=by
 rcases h with ⟨e1,e2,h⟩ | ⟨m,e1,hm,hr,h1,h2⟩
 ·exact .inl ⟨e1,e2,fun x hx j hb=>h x hx j ((e x hx j).2 hb)⟩
 ·exact .inr ⟨m,e1,hm,hr,h1.conv (e m hm),fun x hx hxl j hb=>h2 x hx hxl j ((e x hxl j).2 hb)⟩
theorem goG_ok {all:List Nd} {j:Nat} {n:Nd} (hj:all[j]? =some n) (hm:mayR n=true) (hw:wfR n) (W:List Nat):∀(w:List Nat) (at_:Nat→Bool) (i:Nat) (long rule:Int),W.drop i=w→i≤W.length→(∀u,RunG (ruleN n) at_ u↔LangN n (W.take i++u)) →
  MatchI (Upto all j i) W long rule→MatchI (Upto all j (W.length+1)) W (goG (ruleN n) j w at_ i long rule).1 (goG (ruleN n) j w at_ i long rule).2:=by
 have hr:=rule_ok n hm hw;have hL:∀u,LangR all u j↔LangN n u:=fun u=>⟨fun⟨m,h1,h2⟩=>by rw[hj] at h1;cases h1;exact h2,fun h=>⟨n,hj,h⟩⟩;have hlen:∀x,x≤W.length→(W.take x).length=x:=fun x hx=>by rw[List.length_take];omega
 have stop:∀(at_:Nat→Bool) (i:Nat) (long rule:Int),i≤W.length→(∀u,RunG (ruleN n) at_ u↔LangN n (W.take i++u))→isAny (ruleN n) at_=false→MatchI (Upto all j i) W long rule→MatchI (Upto all j (W.length+1)) W long rule:=by
  intro at_ i long rule hi hA hn hM;refine matchI_conv hM fun x hx y=>⟨fun⟨a,b⟩=>⟨a,b.imp id fun⟨b,_⟩=>⟨b,by rw[hlen x hx];omega⟩⟩,fun⟨a,b⟩=>⟨a,b.imp id fun⟨b,_⟩=>⟨b,?_⟩⟩⟩;rw[hlen x hx];refine Nat.lt_of_not_le fun hle=> ?_;rw[b,hL] at a;refine run_any at_ hn ((W.drop i).take (x-i)) ((hA _).2 ?_);rw[show W.take i++(W.drop i).take (x-i)=W.take x by rw[←List.take_add];congr 1;omega];exact a
 have hends:∀(at_:Nat→Bool) (i:Nat),(∀u,RunG (ruleN n) at_ u↔LangN n (W.take i++u))→(endsG (ruleN n) at_=true↔LangR all (W.take i) j):=fun at_ i hA=>by
  rw[run_ends,hA [],List.append_nil,hL]
 intro w
 induction w with
 | nil=>
  intro at_ i long rule hd hi hA hM;have hW:W.length≤i:=List.drop_eq_nil_iff.1 hd;have hWi:W.length+1=i+1:=by omega
  rw[goG];split
  ·rw[hWi];split
   ·rename_i hc;exact matchI_hit hi hM ((hends at_ i hA).1 hc.1) hc.2
   ·rename_i hc;exact matchI_miss hi hM fun h=>hc ⟨(hends at_ i hA).2 h.1,h.2⟩
  ·rename_i hn;exact stop at_ i long rule hi hA (by simpa using hn) hM
 | cons b w ih=>
  intro at_ i long rule hd hi hA hM;have hlt:i<W.length:=by
   have:=congrArg List.length hd;rw[List.length_drop,List.length_cons] at this;omega
  have hb:W[i]? =some b:=by
   have:=congrArg (fun x=>x[0]?) hd
   simpa using this
  have htk:W.take (i+1)=W.take i++ [b]:=by rw[List.take_add_one,hb];rfl
  have hdr:W.drop (i+1)=w:=by rw[←List.drop_drop,hd];rfl
  have hA':∀u,RunG (ruleN n) (stepG (ruleN n) at_ b) u↔LangN n (W.take (i+1)++u):=fun u=>by
   rw[run_step hr,hA (b::u),htk,List.append_assoc];rfl
  rw[goG];split
  ·split
   ·rename_i hc;exact ih _ (i+1) i j hdr hlt hA' (matchI_hit hi hM ((hends at_ i hA).1 hc.1) hc.2)
   ·rename_i hc;exact ih _ (i+1) long rule hdr hlt hA' (matchI_miss hi hM fun h=>hc ⟨(hends at_ i hA).2 h.1,h.2⟩)
  ·rename_i hn;exact stop at_ i long rule hi hA (by simpa using hn) hM
def matchG:List RuN→Nat→List Nat→Int→Int→Int×Int
 | [],_,_,long,rule=>(long,rule)
 | r::l,j,w,long,rule=>matchG l (j+1) w (goG r j w startG 0 long rule).1 (goG r j w startG 0 long rule).2
theorem matchG_ok (all:List Nd) (W:List Nat):∀(l:List Nd) (j:Nat) (long rule:Int),GoodL l→all.drop j=l→MatchI (Upto all j 0) W long rule→MatchI (LangR all) W (matchG (l.map ruleN) j W long rule).1 (matchG (l.map ruleN) j W long rule).2
 | [],j,long,rule,_,hd,hM=>by
  rw[List.map_nil,matchG];refine matchI_conv hM fun x hx y=>⟨fun h=>h.1,fun h=>⟨h,.inl ?_⟩⟩;obtain⟨m,hm,_⟩:=h;have:=List.drop_eq_nil_iff.1 hd;have:=(List.getElem?_eq_some_iff.1 hm).1;omega
 | n::l,j,long,rule,hg,hd,hM=>by
  have hj:all[j]? =some n:=by
   have:=congrArg (fun x=>x[0]?) hd
   simpa using this
  have hgn:=hg n (by simp);rw[List.map_cons,matchG];have h1:=goG_ok hj hgn.1 hgn.2 W W startG 0 long rule rfl (Nat.zero_le _) (fun u=>by rw[List.take_zero,List.nil_append];exact (rule_ok n hgn.1 hgn.2).word u) hM;refine matchG_ok all W l (j+1) _ _ (fun m hm=>hg m (by simp[hm])) (by rw[←List.drop_drop,hd];rfl) (matchI_conv h1 fun x hx y=> ?_);have hlen:(W.take x).length=x:=by rw[List.length_take];omega
  unfold Upto;rw[hlen];constructor
  ·rintro⟨a,b | ⟨b,_⟩⟩
   ·exact⟨a,.inl (by omega)⟩
   ·exact⟨a,.inl (by omega)⟩
  ·rintro⟨a,b | ⟨b,c⟩⟩
   ·by_cases e:y=j
    ·exact⟨a,.inr ⟨e,by omega⟩⟩
    ·exact⟨a,.inl (by omega)⟩
   ·omega
theorem match_ref (all:List Nd) (hg:GoodL all) (W:List Nat):MatchI (LangR all) W (matchG (all.map ruleN) 0 W 0 (-1)).1 (matchG (all.map ruleN) 0 W 0 (-1)).2:=
 matchG_ok all W all 0 0 (-1) hg rfl (.inl ⟨rfl,rfl,fun x hx j h=>by rcases h.2 with h | ⟨_,h⟩<;>omega⟩)
theorem least_ref (all:List Nd) (hg:GoodL all) (W:List Nat):LeastI (LangR all W) (leastG (all.map ruleN) W 0):=leastG_ok W all all 0 hg rfl fun i hi=>by omega
theorem least_same (all:List Nd) (hg:GoodL all) (W:List Nat):accP (makeQ all).1 (stepsP (makeQ all).1 W (reachP (makeQ all).1 (makeQ all).2)) (-1)=leastG (all.map ruleN) W 0:=
 (least_ok (makeQ_ok all hg) W).unique (least_ref all hg W) fun _=>Iff.rfl
end Go.Proofs.YtjeomlickkpebaaGreatDoor
namespace Go.Proofs.YtjeomlickkpebaaGreatDoor
def eqF (a b:Nat→Bool):Nat→Bool
 | 0=>true
 | m+1=>eqF a b m&&(a m==b m)
def sameP:List RuN→List (Nat→Bool)→List (Nat→Bool)→Bool
 | r::rs,a::x,b::y=>eqF a b r.m&&sameP rs x y
 | _,_,_=>true
def anyP:List RuN→List (Nat→Bool)→Bool
 | r::rs,a::x=>isAny r a||anyP rs x
 | _,_=>false
def placeStep:List RuN→List (Nat→Bool)→Nat→List (Nat→Bool)
 | r::rs,a::x,b=>stepG r a b::placeStep rs x b
 | _,_,_=> []
def startP (rs:List RuN):List (Nat→Bool):=rs.map fun _=>startG
def semP:List RuN→List (Nat→Bool)→Nat→List Nat→Int
 | r::rs,a::x,j,w=>if endsG r (stepsG r w a)=true then (j:Int) else semP rs x (j+1) w
 | _,_,_,_=> -1
theorem semP_step:∀(rs:List RuN) (x:List (Nat→Bool)) (j:Nat) (b:Nat) (w:List Nat),semP rs (placeStep rs x b) j w=semP rs x j (b::w)
 | [],x,_,_,_=>by cases x<;>rfl
 | _::_,[],_,_,_=>rfl
 | r::rs,a::x,j,b,w=>by
  rw[placeStep,semP,semP,semP_step rs x (j+1) b w];rfl
def OkRs (rs:List RuN):Prop:=∀r,r∈rs→∃L,RuOk r L
theorem ends_run {r:RuN} {L:List Nat→Prop} (h:RuOk r L) (a:Nat→Bool) (w:List Nat):endsG r (stepsG r w a)=true↔RunG r a w:=by
 rw[run_ends,run_steps h,List.append_nil]
theorem semP_dead:∀(rs:List RuN) (x:List (Nat→Bool)),OkRs rs→anyP rs x=false→∀j w,semP rs x j w= -1
 | [],_,_,_,_,_=>rfl
 | _::_,[],_,_,_,_=>rfl
 | r::rs,a::x,hr,h,j,w=>by
  rw[anyP,Bool.or_eq_false_iff] at h;obtain⟨L,hL⟩:=hr r (by simp);rw[semP,if_neg (fun e=>run_any a h.1 w ((ends_run hL a w).1 e))];exact semP_dead rs x (fun s hs=>hr s (by simp[hs])) h.2 (j+1) w
theorem semP_start:∀(rs:List RuN) (j:Nat) (w:List Nat),semP rs (startP rs) j w=leastG rs w j
 | [],_,_=>rfl
 | r::rs,j,w=>by
  show (if endsG r (stepsG r w startG)=true then (j:Int) else semP rs (startP rs) (j+1) w)=_;rw[leastG,semP_start rs (j+1) w]
theorem okRs_of (l:List Nd) (h:GoodL l):OkRs (l.map ruleN):=fun r hr=>by
 obtain⟨n,hn,rfl⟩:=List.mem_map.1 hr;exact⟨_,rule_ok n (h n hn).1 (h n hn).2⟩
def semL (q:List Sta) (l:List Int) (w:List Nat):Int:=accP q (stepsP q w l) (-1)
theorem semL_nil (q:List Sta):∀w,semL q [] w= -1
 | []=>rfl
 | b::w=>by
  show accP q (stepsP q w (stepP q b [])) (-1)= -1;exact semL_nil q w
theorem accP_low (q:List Sta):∀(l:List Int) (r:Int),-1≤r→ -1≤accP q l r
 | [],_,h=>h
 | a::l,r,h=>by
  rw[accP];split
  ·exact accP_low q l r h
  ·split
   ·exact accP_low q l _ (by omega)
   ·exact accP_low q l r h
def nilL (l:List Int):Bool:=l.isEmpty
def sameL (a b:List Int):Bool:=decide (a=b)
def ListG (q:List Sta) (start l:List Int):Prop:=∃w,ByL w∧l=stepsP q w start∧(w= []∨l≠ [])
theorem lists_hyp (q:List Sta) (start:List Int):XHyp (fun l b=>stepP q b l) nilL sameL (ListG q start) (semL q) where
 step_good:=fun x b ⟨w,hw,hx,_⟩ hb hd=>by
  refine⟨w++ [b],fun c hc=> ?_,by rw[steps_snoc,hx],.inr fun e=> ?_⟩
  ·rcases List.mem_append.1 hc with hc | hc
   ·exact hw c hc
   ·rw[List.mem_singleton.1 hc];exact hb
  ·unfold nilL at hd;rw[e] at hd;cases hd
 step_sem:=fun _ _ _ _ _ _ _=>rfl
 dead_sem:=fun x b _ _ hd w _=>by
  show semL q (stepP q b x) w= -1;rw[List.isEmpty_iff.1 hd];exact semL_nil q w
 same_sem:=fun x y _ _ h w _=>by rw[of_decide_eq_true h]
theorem both_say (all:List Nd) (hg:GoodL all) (w:List Nat):semL (makeQ all).1 (reachP (makeQ all).1 (makeQ all).2) w=semP (all.map ruleN) (startP (all.map ruleN)) 0 w:=by
 rw[semP_start];exact least_same all hg w
end Go.Proofs.YtjeomlickkpebaaGreatDoor
