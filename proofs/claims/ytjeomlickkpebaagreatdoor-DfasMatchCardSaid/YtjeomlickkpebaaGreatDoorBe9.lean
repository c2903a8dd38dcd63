/-
  Texts of this proof, one behind the other; each begins with its own remark.
-/
import Derived.MapKept
import Derived.Test.YtjeomlickkpebaaGreatDoorBe6
import Derived.Test.YtjeomlickkpebaaGreatDoorBe2
import Derived.Test.YtjeomlickkpebaaGreatDoorBe7
import Derived.Test.YtjeomlickkpebaaGreatDoorBe8
namespace Go.Proofs.YtjeomlickkpebaaGreatDoor
open Go.RowKit
theorem Tryz.infoIntN:(Tryz.prog.info? 3).map (fun i=>(i.zero,i.size,i.bytes))=some (some (.int .i64 0),1,8):=by kernel_rfl
def zeroSta:Value:= .agg #[.int .i64 0,.int .u64 0,.int .u64 0,.int .u64 0,.int .u64 0,.int .i64 0,.int .i64 0,.int .i64 0]
theorem Tryz.infoSta:(Tryz.prog.info? 99).map (fun i=>(i.zero,i.size,i.bytes))=some (some zeroSta,8,64):=by kernel_rfl
theorem info_of {o:Option TypeInfo} {z:Value} {m b:Nat} (h:o.map (fun i=>(i.zero,i.size,i.bytes))=some (some z,m,b)):∃i,o=some i∧i.zero=some z∧i.size=m∧i.bytes=b:=by
 cases o with
 | none=>cases h
 | some i=>
  simp only[Option.map_some,Option.some.injEq,Prod.mk.injEq] at h;exact⟨i,rfl,h.1,h.2.1,h.2.2⟩
def numC (l:List Int):List Value:=l.map (Value.int .i64)
theorem numC_len (l:List Int):(numC l).length=l.length:=List.length_map _
theorem numC_at {l:List Int} {i:Nat} {a:Int} (h:l[i]? =some a):(numC l)[i]? =some (.int .i64 a):=by unfold numC;rw[List.getElem?_map,h];rfl
def IntsW (w:World) (v:Value) (l:List Int):Prop:=RowZ (fun _=>True) w v l.length (numC l)∧l.length≤1000000
theorem IntsW.below {w w':World} {v:Value} {l:List Int} (h:IntsW w v l) (hb:Below w.heap.size w w'):IntsW w' v l:=⟨h.1.keep (keep_below _ hb) fun _ _ h=>h,h.2⟩
theorem IntsW.form {w:World} {v:Value} {l:List Int} (h:IntsW w v l):∃ao cap,v= .slice ao l.length cap∧l.length≤cap:=by
 obtain⟨⟨ao,cap,hv,hn,_⟩,_⟩:=h;exact⟨ao,cap,hv,hn⟩
theorem IntsW.at_ {w:World} {v:Value} {l:List Int} {i:Nat} {a:Int} (h:IntsW w v l) (hi:l[i]? =some a):∃g o cap,v= .slice (some ⟨g,o,none⟩) l.length cap∧l.length≤cap∧w.cell? ⟨g,o+i,none⟩=some (.int .i64 a):=by
 obtain⟨⟨ao,cap,hv,hn,hc⟩,_⟩:=h;obtain⟨g,o,ha,_,hg⟩:=hc i _ (numC_at hi);exact⟨g,o,cap,by rw[hv,ha],hn,hg⟩
def OwnI (N:Nat) (w:World) (v:Value) (l:List Int):Prop:=w.ownsRow N 3 1 v l.length (numC l)
theorem OwnI.nil (N:Nat) (w:World):OwnI N w (.slice none 0 0) []:=World.ownsRow_nil _ _ _ _
theorem ownRow_keep {N m n:Nat} {e:TypeId} {w w':World} {v:Value} {cs:List Value} {ok:Nat→Prop} (h:w.ownsRow N e m v n cs) (hk:KeepW ok w w') (ho:∀k,v.ownBlock=some k→ok k):w'.ownsRow N e m v n cs:=by
 obtain⟨h1,h2 | ⟨g,cap,cur,rfl,h3,h4,h5⟩⟩:=h
 ·exact⟨h1,.inl h2⟩
 ·exact⟨h1,.inr ⟨g,cap,cur,rfl,h3,(hk.same g (Array.getElem?_eq_some_iff.1 h4).1 (ho g rfl)).trans h4,h5⟩⟩
theorem OwnI.keep {N:Nat} {w w':World} {v:Value} {l:List Int} {ok:Nat→Prop} (h:OwnI N w v l) (hk:KeepW ok w w') (ho:∀k,v.ownBlock=some k→ok k):OwnI N w' v l:=ownRow_keep h hk ho
theorem OwnI.below {N:Nat} {w w':World} {v:Value} {l:List Int} (h:OwnI N w v l) (hb:Below w.heap.size w w'):OwnI N w' v l:=ownRow_keep h (keep_below (fun _=>True) hb) fun _ _=>trivial
theorem OwnI.ints {N:Nat} {w:World} {v:Value} {l:List Int} (h:OwnI N w v l) (hl:l.length≤1000000):IntsW w v l:=⟨(ownZ h).mono fun _ _ _=>trivial,hl⟩
theorem run_snocI {N:Nat} {w:World} {v:Value} {l:List Int} {X:Nat} {a:Int} (t ty:TypeId) (ht:Tryz.prog.underlying t=some (.slice 3)) (hv:OwnI N w v l) (hX:w.cell? ⟨X,0,none⟩=some (.int .i64 a)) (hN:N≤w.heap.size) (hs:l.length≤100000):
  ∃v' w',(Builtin.append_ #[t,t] ty #[v,.slice (some ⟨X,0,none⟩) 1 1]).run Tryz.prog w= .ok v' w'∧OwnI N w' v' (l++ [a])∧KeepW (fun k=>v.ownBlock≠some k) w w'∧∀k,v'.ownBlock=some k→v.ownBlock=some k∨k=w.heap.size:=by
 obtain⟨i0,hi,hz0,hz1,hz2⟩:=info_of Tryz.infoIntN;have hn:∀(j:Nat) (u:Value),[Value.int .i64 a][j]? =some u→w.cell? ((⟨X,0,none⟩:Addr).add j)=some u:=fun j u hu=>by
  have hj:=(List.getElem?_eq_some_iff.1 hu).1;have:j=0:=by simpa using hj
  subst this;rw[rlit];simp at hu;rw[←hu];exact hX
 obtain⟨v',w',hr,hown',hgr,_,hat⟩:=run_append_own_at (P:=Tryz.prog) w N t ty 3 i0 (.int .i64 0) 1 8 ht hi hz0 hz1 hz2 rfl (by decide) v l.length (numC l) hv ⟨X,0,none⟩ 1 1 [.int .i64 a] rfl hn (fun u hu=>by rw[List.mem_singleton.1 hu];rfl) (by unfold maxLen;omega) (by omega) hN;refine⟨v',w',hr,?_,⟨hgr.os,hgr.tape,hgr.output,hgr.size,fun k hk hne=>hgr.block k hk fun e=>hne e.symm⟩,fun k e=> ?_⟩
 ·unfold OwnI numC;rw[List.length_append,List.map_append];exact hown'
 ·rcases hat with hat | hat
  ·exact .inl (hat▸e)
  ·rw[hat] at e;cases e;exact .inr rfl
def staC (s:Sta):List Value:= [.int .i64 (s.kind:Int),.int .u64 (s.set.1:Int),.int .u64 (s.set.2.1:Int),.int .u64 (s.set.2.2.1:Int),.int .u64 (s.set.2.2.2:Int),.int .i64 (s.next:Int),.int .i64 (s.also:Int),.int .i64 (s.rule:Int)]
def stasC:List Sta→List Value
 | []=> []
 | s::q=>staC s++stasC q
theorem stasC_len:∀q,(stasC q).length=q.length*8
 | []=>rfl
 | s::q=>by rw[stasC,List.length_append,stasC_len q,List.length_cons];show 8+_=_;omega
theorem stasC_app:∀q r,stasC (q++r)=stasC q++stasC r
 | [],r=>rfl
 | s::q,r=>by rw[List.cons_append,stasC,stasC,stasC_app q r,List.append_assoc]
theorem stasC_at:∀(q:List Sta) (i:Nat) (s:Sta),q[i]? =some s→∀j,j<8→(stasC q)[i*8+j]? =(staC s)[j]?
 | t::q,0,s,h,j,hj=>by
  cases h;rw[stasC,Nat.zero_mul,Nat.zero_add,List.getElem?_append_left (by show j<8;exact hj)]
 | t::q,i+1,s,h,j,hj=>by
  rw[stasC,List.getElem?_append_right (by show 8≤_;omega),show (i+1)*8+j-(staC t).length=i*8+j from by show (i+1)*8+j-8=_;omega];exact stasC_at q i s h j hj
theorem stasC_one:∀(q:List Sta) (x:Value),x∈stasC q→x.oneCell'=true
 | s::q,x,h=>by
  rw[stasC,List.mem_append] at h;rcases h with h | h
  ·simp only[staC,List.mem_cons,List.not_mem_nil,or_false] at h;rcases h with rfl | rfl | rfl | rfl | rfl | rfl | rfl | rfl<;>rfl
  ·exact stasC_one q x h
theorem stasC_also:∀(q:List Sta) (i v:Nat),i<q.length→stasC (alsoS q i v)=(stasC q).set (i*8+6) (.int .i64 (v:Int))
 | s::q,0,v,_=>rfl
 | s::q,i+1,v,h=>by
  rw[alsoS,stasC,stasC,stasC_also q i v (by simpa using h)];rw[List.set_append_right _ _ (by show 8≤_;omega)];congr 2;show i*8+6=(i+1)*8+6-8;omega
def OwnS (w:World) (v:Value) (q:List Sta):Prop:=w.ownsRow 0 99 8 v q.length (stasC q)
theorem OwnS.nil (w:World):OwnS w (.slice none 0 0) []:=World.ownsRow_nil _ _ _ _
theorem run_snocS {w:World} {v:Value} {q:List Sta} {X:Nat} {s:Sta} (t ty:TypeId) (ht:Tryz.prog.underlying t=some (.slice 99)) (hv:OwnS w v q) (hX:∀(j:Nat) x,(staC s)[j]? =some x→w.cell? ⟨X,j,none⟩=some x) (hs:q.length≤100000):
  ∃v' w',(Builtin.append_ #[t,t] ty #[v,.slice (some ⟨X,0,none⟩) 1 1]).run Tryz.prog w= .ok v' w'∧OwnS w' v' (q++ [s])∧KeepW (fun k=>v.ownBlock≠some k) w w'∧∀k,v'.ownBlock=some k→v.ownBlock=some k∨k=w.heap.size:=by
 obtain⟨i0,hi,hz0,hz1,hz2⟩:=info_of Tryz.infoSta;obtain⟨v',w',hr,hown',hgr,_,hat⟩:=run_append_own_at (P:=Tryz.prog) w 0 t ty 99 i0 zeroSta 8 64 ht hi hz0 hz1 hz2 rfl (by decide) v q.length (stasC q) hv ⟨X,0,none⟩ 1 1 (staC s) rfl (fun j x hx=>by rw[rlit,Nat.zero_add];exact hX j x hx) (fun x hx=>stasC_one [s] x (by rw[stasC,stasC,List.append_nil];exact hx)) (by unfold maxLen;omega) (by omega) (Nat.zero_le _);refine⟨v',w',hr,?_,⟨hgr.os,hgr.tape,hgr.output,hgr.size,fun k hk hne=>hgr.block k hk fun e=>hne e.symm⟩,fun k e=> ?_⟩
 ·unfold OwnS;rw[List.length_append,stasC_app];show w'.ownsRow 0 _ 8 v' _ (stasC q++(staC s++ []));rw[List.append_nil];exact hown'
 ·rcases hat with hat | hat
  ·exact .inl (hat▸e)
  ·rw[hat] at e;cases e;exact .inr rfl
def boxF (w:World) (B:Nat) (sv fv:Value):Prop:=w.heap[B]? =some (.cells #[sv,fv] 68 (0,0))
section
variable {w w':World} {B:Nat} {sv fv:Value}
theorem boxF.lt (h:boxF w B sv fv):B<w.heap.size:=(Array.getElem?_eq_some_iff.1 h).1
theorem boxF.cells (h:boxF w B sv fv):(w.cell? ⟨B,0,none⟩=some sv∧w.cell? ⟨B,1,none⟩=some fv)∧w.frozen? ⟨B,0,none⟩=false∧w.frozen? ⟨B,1,none⟩=false:=by
 unfold boxF at h;refine⟨⟨?_,?_⟩,?_,?_⟩<;>first | (unfold World.cell?;rw[h];rfl) | (unfold World.frozen?;rw[h];simp)
theorem boxF.keep {ok:Nat→Prop} (h:boxF w B sv fv) (hk:KeepW ok w w') (ho:ok B):boxF w' B sv fv:=(hk.same B h.lt ho).trans h
theorem boxF.set0 (h:boxF w B sv fv) (v:Value):boxF (w.setCell ⟨B,0,none⟩ v) B v fv:=by
 unfold boxF at h ⊢;unfold World.setCell;simp only[Array.getElem?_modify,if_true,h,Option.map_some];rfl
theorem boxF.set1 (h:boxF w B sv fv) (v:Value):boxF (w.setCell ⟨B,1,none⟩ v) B sv v:=by
 unfold boxF at h ⊢;unfold World.setCell;simp only[Array.getElem?_modify,if_true,h,Option.map_some];rfl
end
def NfaB (P:Nat→Prop) (w:World) (B:Nat) (q:List Sta) (first:List Int):Prop:=
 ∃sv fv,boxF w B sv fv∧OwnS w sv q∧OwnI 0 w fv first∧¬P B∧(∀k,sv.ownBlock=some k→¬P k∧k≠B∧fv.ownBlock≠some k)∧∀k,fv.ownBlock=some k→¬P k∧k≠B
theorem NfaB.mono {P P':Nat→Prop} {w:World} {B:Nat} {q:List Sta} {first:List Int} (h:NfaB P w B q first) (hm:∀k,P' k→P k):NfaB P' w B q first:=by
 obtain⟨sv,fv,h1,h2,h3,h4,h5,h6⟩:=h;exact⟨sv,fv,h1,h2,h3,fun x=>h4 (hm _ x),fun k e=>⟨fun x=>(h5 k e).1 (hm _ x),(h5 k e).2⟩,fun k e=>⟨fun x=>(h6 k e).1 (hm _ x),(h6 k e).2⟩⟩
theorem NfaB.under {P:Nat→Prop} {w w':World} {B:Nat} {q:List Sta} {first:List Int} (h:NfaB P w B q first) (hb:Below w.heap.size w w'):NfaB P w' B q first:=by
 obtain⟨sv,fv,h1,h2,h3,h4⟩:=h;exact⟨sv,fv,h1.keep (keep_below (fun _=>True) hb) trivial,ownRow_keep h2 (keep_below (fun _=>True) hb) fun _ _=>trivial,h3.below hb,h4⟩
theorem NfaB.lt {P:Nat→Prop} {w:World} {B:Nat} {q:List Sta} {first:List Int} (h:NfaB P w B q first):B<w.heap.size:=by
 obtain⟨sv,fv,h1,_⟩:=h;exact h1.lt
theorem NfaB.also {P:Nat→Prop} {w w':World} {B:Nat} {q:List Sta} {first:List Int} (h:NfaB P w B q first) (hb:Below w.heap.size w w'):NfaB (fun k=>P k∨k=w.heap.size) w' B q first:=by
 have hlt:=h.lt;obtain⟨sv,fv,h1,h2,h3,h4,h5,h6⟩:=h;have l2:=World.ownsRow.lt h2;have l3:=World.ownsRow.lt h3;refine⟨sv,fv,h1.keep (keep_below (fun _=>True) hb) trivial,ownRow_keep h2 (keep_below (fun _=>True) hb) fun _ _=>trivial,h3.below hb,fun x=>x.elim h4 fun e=>by omega,fun k e=>⟨fun x=>x.elim (h5 k e).1 fun e2=> ?_,(h5 k e).2⟩,fun k e=>⟨fun x=>x.elim (h6 k e).1 fun e2=> ?_,(h6 k e).2⟩⟩
 ·have:=l2 k e;omega
 ·have:=l3 k e;omega
structure NfaR (w:World) (v:Value) (q:List Sta) (first:List Int):Prop where
 few:q.length≤100000
 firsts:first.length≤1000
 at_:∃B sv fv,v= .pointer (some ⟨B,0,none⟩)∧w.cell? ⟨B,0,none⟩=some sv∧w.cell? ⟨B,1,none⟩=some fv∧RowZ (fun _=>True) w sv q.length (stasC q)∧IntsW w fv first
theorem NfaR.below {w w':World} {v:Value} {q:List Sta} {first:List Int} (h:NfaR w v q first) (hb:Below w.heap.size w w'):NfaR w' v q first:=by
 obtain⟨h0,h1,B,sv,fv,hv,c0,c1,hs,hf⟩:=h;have hk:=keep_below (fun _=>True) hb;exact⟨h0,h1,B,sv,fv,hv,hk.cell c0 trivial,hk.cell c1 trivial,hs.keep hk fun _ _ h=>h,hf.below hb⟩
theorem NfaB.read {P:Nat→Prop} {w:World} {B:Nat} {q:List Sta} {first:List Int} (h:NfaB P w B q first) (h1:q.length≤100000) (h2:first.length≤1000):NfaR w (.pointer (some ⟨B,0,none⟩)) q first:=by
 obtain⟨sv,fv,hb,hs,hf,_⟩:=h;exact⟨h1,h2,B,sv,fv,rfl,hb.cells.1.1,hb.cells.1.2,(ownZ hs).mono fun _ _ _=>trivial,hf.ints (by omega)⟩
theorem NfaR.sta {w:World} {v:Value} {q:List Sta} {first:List Int} {i:Nat} {s:Sta} (h:NfaR w v q first) (hi:q[i]? =some s):
  ∃B g o cap,v= .pointer (some ⟨B,0,none⟩)∧w.cell? ⟨B,0,none⟩=some (.slice (some ⟨g,o,none⟩) q.length cap)∧q.length≤cap∧∀(j:Nat) x,j<8→(staC s)[j]? =some x→w.cell? ⟨g,o+(i*8+j),none⟩=some x:=by
 obtain⟨_,_,B,sv,fv,hv,c0,_,⟨ao,cap,rfl,hn,hc⟩,_⟩:=h;obtain⟨g,o,rfl,_⟩:=hc (i*8+0) _ (by rw[stasC_at q i s hi 0 (by decide)];rfl);refine⟨B,g,o,cap,hv,c0,hn,fun j x hj hx=> ?_⟩;obtain⟨g',o',e,_,hg⟩:=hc (i*8+j) x (by rw[stasC_at q i s hi j hj];exact hx);cases e;exact hg
theorem NfaR.form {w:World} {v:Value} {q:List Sta} {first:List Int} (h:NfaR w v q first):
  ∃B ao cap fo fc,v= .pointer (some ⟨B,0,none⟩)∧w.cell? ⟨B,0,none⟩=some (.slice ao q.length cap)∧q.length≤cap∧w.cell? ⟨B,1,none⟩=some (.slice fo first.length fc)∧first.length≤fc∧IntsW w (.slice fo first.length fc) first:=by
 obtain⟨_,_,B,sv,fv,hv,c0,c1,⟨ao,cap,rfl,hn,hc⟩,hf⟩:=h;obtain⟨fo,fc,rfl,hfc⟩:=hf.form;exact⟨B,ao,cap,fo,fc,hv,c0,hn,c1,hfc,hf⟩
end Go.Proofs.YtjeomlickkpebaaGreatDoor
namespace Go.Proofs.YtjeomlickkpebaaGreatDoor
open Go.RowKit
def ArrF (w:World) (X n:Nat) (f:Nat→Int):Prop:=∃cur:Array Value,w.heap[X]? =some (.cells cur 3 (0,0))∧n≤cur.size∧∀i,i<n→cur[i]? =some (.int .i64 (f i))
section
variable {w w':World} {X n i:Nat} {f g:Nat→Int}
theorem ArrF.lt (h:ArrF w X n f):X<w.heap.size:=by
 obtain⟨cur,h1,_⟩:=h;exact (Array.getElem?_eq_some_iff.1 h1).1
theorem ArrF.cell (h:ArrF w X n f) (hi:i<n):w.cell? ⟨X,i,none⟩=some (.int .i64 (f i)):=by
 obtain⟨cur,h1,_,h3⟩:=h;rw[cell_of_row w X i cur _ (0,0) h1];exact h3 i hi
theorem ArrF.frozen (h:ArrF w X n f) (i:Nat):w.frozen? ⟨X,i,none⟩=false:=by
 obtain⟨cur,h1,_⟩:=h;exact frozen_of_row w X i cur _ h1
theorem ArrF.keep {ok:Nat→Prop} (h:ArrF w X n f) (hk:KeepW ok w w') (ho:ok X):ArrF w' X n f:=by
 have hl:=h.lt;obtain⟨cur,h1,h2⟩:=h;exact⟨cur,(hk.same X hl ho).trans h1,h2⟩
theorem ArrF.under (h:ArrF w X n f) (hb:Below w.heap.size w w'):ArrF w' X n f:=h.keep (keep_below (fun _=>True) hb) trivial
theorem ArrF.congr (h:ArrF w X n f) (he:∀i,i<n→f i=g i):ArrF w X n g:=by
 obtain⟨cur,h1,h2,h3⟩:=h;exact⟨cur,h1,h2,fun i hi=>by rw[←he i hi];exact h3 i hi⟩
theorem ArrF.set (h:ArrF w X n f) (i:Nat) (a:Int):ArrF (w.setCell ⟨X,i,none⟩ (.int .i64 a)) X n (fun k=>if k=i then a else f k):=by
 obtain⟨cur,h1,h2,h3⟩:=h;refine⟨cur.setIfInBounds i (.int .i64 a),heap_setCell_same w X i cur _ _ h1,by rw[Array.size_setIfInBounds];exact h2,fun k hk=> ?_⟩;rw[Array.getElem?_setIfInBounds];by_cases c:i=k
 ·subst c;rw[if_pos rfl,if_pos (by omega)];show _=some (Value.int .i64 (if i=i then a else f i));rw[if_pos rfl]
 ·rw[if_neg c];show _=some (Value.int .i64 (if k=i then a else f k));rw[if_neg (fun e=>c e.symm)];exact h3 k hk
theorem ArrF.swap {p q:Nat} (h:ArrF w X n f):ArrF ((w.setCell ⟨X,p,none⟩ (.int .i64 (f q))).setCell ⟨X,q,none⟩ (.int .i64 (f p))) X n (swapF f p q):=
 ((h.set p (f q)).set q (f p)).congr fun k _=>by
   unfold swapF;show (if k=q then f p else if k=p then f q else f k)=if k=p then f q else if k=q then f p else f k;by_cases c:k=q
   ·by_cases d:k=p
    ·rw[if_pos c,if_pos d,←c,←d]
    ·rw[if_pos c,if_neg d,if_pos c]
   ·rw[if_neg c];by_cases d:k=p
    ·rw[if_pos d,if_pos d]
    ·rw[if_neg d,if_neg d,if_neg c]
theorem keep_set2 (w:World) (X p q:Nat) (y z:Value):KeepW (fun k=>k≠X) w ((w.setCell ⟨X,p,none⟩ y).setCell ⟨X,q,none⟩ z):=
 (keep_set X p none y w fun h=>h rfl).trans (keep_set X q none z _ fun h=>h rfl)
end
end Go.Proofs.YtjeomlickkpebaaGreatDoor
namespace Go.Proofs.YtjeomlickkpebaaGreatDoor
open Go.RowKit
def isP (q:List Sta) (a:Int) (k:Nat):Bool:=match lookS q a with
 | none=>false
 | some s=>s.kind==k
theorem look_some {q:List Sta} {a:Int} {s:Sta} (h:lookS q a=some s):0≤a∧a<q.length∧q[a.toNat]? =some s:=by
 unfold lookS at h;split at h
 ·have:=(List.getElem?_eq_some_iff.1 h).1;exact⟨by assumption,by omega,h⟩
 ·cases h
theorem look_none {q:List Sta} {a:Int} (h:lookS q a=none):¬0≤a∨0≤a∧¬a<q.length:=by
 unfold lookS at h;split at h
 ·have:=List.getElem?_eq_none_iff.1 h;exact .inr ⟨by assumption,by omega⟩
 ·exact .inl (by assumption)
theorem nis_nil (a k:Int) (w:World):Calls Tryz.prog 43 #[.pointer none,.int .i64 a,.int .i64 k] w fun e w'=>e= .returned (.bool false)∧w'=w:=by
 go_enter Tryz.func43,Tryz.ntmps43;go_wp2_with fail
 go_ret
 exact⟨rfl,rfl⟩
section
variable {w:World} {v:Value} {q:List Sta} {first:List Int} {s:Sta} {a:Int}
theorem nis_out (h:NfaR w v q first) (k:Int) (hs:lookS q a=none):Calls Tryz.prog 43 #[v,.int .i64 a,.int .i64 k] w fun e w'=>e= .returned (.bool false)∧w'=w:=by
 obtain⟨B,ao,cap,fo,fc,rfl,c0,hn,_,_,_⟩:=h.form;rcases look_none hs with h0 | ⟨h0,h1⟩
 ·clear h hs;go_enter Tryz.func43,Tryz.ntmps43;go_wp2_with fail
  go_ret
  exact⟨rfl,rfl⟩
 ·clear h hs;go_enter Tryz.func43,Tryz.ntmps43;go_wp2_with fail
  go_ret
  exact⟨rfl,rfl⟩
theorem nis_in (h:NfaR w v q first) (k:Nat) (hs:lookS q a=some s):Calls Tryz.prog 43 #[v,.int .i64 a,.int .i64 (k:Int)] w fun e w'=>e= .returned (.bool (s.kind==k))∧w'=w:=by
 obtain⟨h0,h1,h2⟩:=look_some hs;obtain⟨B,g,o,cap,rfl,c0,hn,hc⟩:=h.sta h2;have c1:=hc 0 _ (by decide) rfl;obtain⟨b,hb⟩:∃b,(s.kind==k)=b:=⟨_,rfl⟩;have hb2:((s.kind:Int)==(k:Int))=b:=by
  rw[←hb,Bool.eq_iff_iff,beq_iff_eq,beq_iff_eq];constructor<;>intro h<;>omega
 obtain⟨kk,hkk⟩:∃kk:Int,(s.kind:Int)=kk:=⟨_,rfl⟩;obtain⟨kj,hkj⟩:∃kj:Int,(k:Int)=kj:=⟨_,rfl⟩;rw[hkk] at hb2 c1;rw[hkj] at hb2;rw[hb,hkj];have e1:o+(a.toNat*8+0)=o+a.toNat*8:=rfl;rw[e1] at c1;clear h hs h2 hc hb hkk hkj e1;go_enter Tryz.func43,Tryz.ntmps43;go_wp2_with fail
 go_ret
 exact⟨rfl,rfl⟩
theorem nis_any (h:NfaR w v q first) (a:Int) (k:Nat):Calls Tryz.prog 43 #[v,.int .i64 a,.int .i64 (k:Int)] w fun e w'=>e= .returned (.bool (isP q a k))∧w'=w:=by
 unfold isP;rcases hs:lookS q a with _ | s
 ·exact nis_out h k hs
 ·exact nis_in h k hs
end
end Go.Proofs.YtjeomlickkpebaaGreatDoor
namespace Go.Proofs.YtjeomlickkpebaaGreatDoor
open Go.RowKit
def entsT:Nat→List ByteArray→List (Value×Value)
 | _,[]=> []
 | j,s::ks=>(.string s,.int .i64 (j:Int))::entsT (j+1) ks
theorem ents_snoc:∀(j:Nat) (ks:List ByteArray) (s:ByteArray),entsT j (ks++ [s])=entsT j ks++ [(.string s,.int .i64 ((j+ks.length:Nat):Int))]
 | j,[],s=>rfl
 | j,t::ks,s=>by
  rw[List.cons_append,entsT,entsT,ents_snoc (j+1) ks s,List.cons_append,List.length_cons,show j+1+ks.length=j+(ks.length+1) by omega]
def idxT:List ByteArray→ByteArray→Nat→Option Nat
 | [],_,_=>none
 | t::ks,s,j=>if s=t then some j else idxT ks s (j+1)
def MapT (w:World) (b:Nat) (ks:List ByteArray):Prop:=∃es clock,w.heap[b]? =some (.map es clock)∧es.toList.map (fun e=>(e.key,e.val))=entsT 0 ks
theorem findT (s:ByteArray):∀(es:List MapEntry) (ks:List ByteArray) (j i:Nat),es.map (fun e=>(e.key,e.val))=entsT j ks →
  Instr.findNow .string (.string s) es i=some ((idxT ks s j).map fun k=>(i+(k-j),.int .i64 (k:Int)))
 | [],[],j,i,_=>rfl
 | [],t::ks,j,i,h=>by cases h
 | e::es,[],j,i,h=>by cases h
 | e::es,t::ks,j,i,h=>by
  rw[List.map_cons,entsT,List.cons.injEq,Prod.mk.injEq] at h;obtain⟨⟨h1,h2⟩,h3⟩:=h;rw[Instr.findNow,h1];unfold idxT;by_cases c:s=t
  ·subst c;have hb:(s==s)=true:=(MapKept.bytes_beq s s).2 rfl;simp only[Instr.sameNow,hb,h2];simp
  ·have hb:(s==t)=false:=by
    cases hq:s==t
    ·rfl
    ·exact absurd ((MapKept.bytes_beq s t).1 hq) c
   simp only[Instr.sameNow,hb,if_neg c];rw[findT s es ks (j+1) (i+1) h3];congr 1;have key:∀k,idxT ks s (j+1)=some k→j+1≤k:=by
    clear findT h3;intro k;generalize j+1=a
    induction ks generalizing a with
    | nil=>intro h;cases h
    | cons t ks ih=>
     intro h;rw[idxT] at h;split at h
     ·cases h;exact Nat.le_refl _
     ·have:=ih _ h;omega
   rcases hx:idxT ks s (j+1) with _ | k
   ·rfl
   ·have:=key k hx;simp only[Option.map_some];rw[show i+1+(k-(j+1))=i+(k-j) by omega]
section
variable {w w':World} {b:Nat} {ks:List ByteArray}
theorem MapT.new (w:World):MapT (w.alloc (.map #[] 0)) w.heap.size []:=⟨#[],0,heap_alloc_new _ _,rfl⟩
theorem MapT.lt (h:MapT w b ks):b<w.heap.size:=by
 obtain⟨_,_,h,_⟩:=h;exact (Array.getElem?_eq_some_iff.1 h).1
theorem MapT.keep {ok:Nat→Prop} (h:MapT w b ks) (hk:KeepW ok w w') (ho:ok b):MapT w' b ks:=by
 have hl:=h.lt;obtain⟨es,clock,h,h2⟩:=h;exact⟨es,clock,(hk.same b hl ho).trans h,h2⟩
theorem mapT_find (h:MapT w b ks) (s:ByteArray):∃es clock,w.heap[b]? =some (.map es clock)∧(Instr.findKey 9 (.string s) es.toList).run Tryz.prog w= .ok ((idxT ks s 0).map fun k=>(k,.int .i64 (k:Int))) w∧es.toList.map (fun e=>(e.key,e.val))=entsT 0 ks:=by
 obtain⟨es,clock,hb,he⟩:=h;refine⟨es,clock,hb,?_,he⟩;unfold Instr.findKey;simp only[Sem.run_bind,run_underlying Tryz.underlying9,Result.andThen_ok,findT s es.toList ks 0 0 he,Sem.run_pure,Nat.zero_add,Nat.sub_zero]
theorem checkT (em:Bool) (s:ByteArray) (w:World):(Instr.checkKey em 10000 9 (.string s)).run Tryz.prog w= .ok () w:=by
 rw[show (10000:Nat)=9999+1 from rfl,Instr.checkKey];simp[run_underlying Tryz.underlying9]
theorem mapT_yes (h:MapT w b ks) {s:ByteArray} {k:Nat} (hk:idxT ks s 0=some k):(Instr.lookup 101 (.map (some b)) (.string s) true).run Tryz.prog w= .ok (.tuple #[.int .i64 (k:Int),.bool true]) w:=by
 obtain⟨es,clock,hb,hf,_⟩:=mapT_find h s;rw[hk] at hf;unfold Instr.lookup;simp only[Sem.run_bind,run_underlying Tryz.underlying101,Result.andThen_ok,MapKept.run_getObj_map hb,Sem.run_pure,checkT,hf];rfl
theorem mapT_no (h:MapT w b ks) {s:ByteArray} (hk:idxT ks s 0=none):(Instr.lookup 101 (.map (some b)) (.string s) true).run Tryz.prog w= .ok (.tuple #[.int .i64 0,.bool false]) w:=by
 obtain⟨es,clock,hb,hf,_⟩:=mapT_find h s;rw[hk] at hf;have hz:(zeroValue 3).run Tryz.prog w= .ok (.int .i64 0) w:=by kernel_rfl
 unfold Instr.lookup;simp only[Sem.run_bind,run_underlying Tryz.underlying101,Result.andThen_ok,MapKept.run_getObj_map hb,Sem.run_pure,checkT,hf,Option.map_none,hz];rfl
theorem mapT_put (h:MapT w b ks) {s:ByteArray} (hk:idxT ks s 0=none) (n:Int) (hn:n=(ks.length:Int)):
  ∃w',(Instr.mapUpdate 101 (.map (some b)) (.string s) (.int .i64 n)).run Tryz.prog w= .ok () w'∧MapT w' b (ks++ [s])∧KeepW (fun k=>k≠b) w w':=by
 obtain⟨es,clock,hb,hf,he⟩:=mapT_find h s;rw[hk] at hf;subst hn;refine⟨{w with heap:=w.heap.setIfInBounds b (.map (es.push {key:= .string s,val:= .int .i64 (ks.length:Int),born:=clock}) (clock+1))},?_,?_,?_⟩
 ·unfold Instr.mapUpdate;simp only[Sem.run_bind,run_underlying Tryz.underlying101,Result.andThen_ok,MapKept.run_getObj_map hb,checkT,hf,Option.map_none,MapKept.run_setObj_map _ hb]
 ·refine⟨_,clock+1,(MapKept.heap_set hb).1,?_⟩;rw[Array.toList_push,List.map_append,he,ents_snoc];rw[Nat.zero_add];rfl
 ·exact⟨rfl,rfl,rfl,by show _≤(w.heap.setIfInBounds _ _).size;rw[Array.size_setIfInBounds];exact Nat.le_refl _,fun k _ hk=>(MapKept.heap_set hb).2 k hk⟩
end
end Go.Proofs.YtjeomlickkpebaaGreatDoor
namespace Go.Proofs.YtjeomlickkpebaaGreatDoor
structure MkI (n:Nat) (M:Nat→Prop) (hs:List Nat) (Bs:List Blk) (st pl ob:Nat→Nat):Prop where
 par:ParI n Bs st pl ob
 mrk:∀y,y<n→(MkP Bs pl ob y↔M y)
 nd:hs.Nodup
 hit:∀j,j∈hs↔∃y,y<n∧ob y=j∧M y
section
variable {n:Nat} {M M':Nat→Prop} {hs:List Nat} {Bs:List Blk} {st pl ob:Nat→Nat}
theorem MkI.congr (h:MkI n M hs Bs st pl ob) (hm:∀y,y<n→(M y↔M' y)):MkI n M' hs Bs st pl ob:=
 ⟨h.par,fun y hy=>(h.mrk y hy).trans (hm y hy),h.nd,fun j=>(h.hit j).trans ⟨fun⟨y,h1,h2,h3⟩=>⟨y,h1,h2,(hm y h1).1 h3⟩,fun⟨y,h1,h2,h3⟩=>⟨y,h1,h2,(hm y h1).2 h3⟩⟩⟩
theorem MkI.start (hp:ParI n Bs st pl ob) (hno:∀y,y<n→¬MkP Bs pl ob y):MkI n (fun _=>False) [] Bs st pl ob:=
 ⟨hp,fun y hy=>⟨hno y hy,fun e=>e.elim⟩,List.nodup_nil,fun _=>⟨fun e=>absurd e List.not_mem_nil,fun⟨_,_,_,e⟩=>e.elim⟩⟩
theorem MkI.step (h:MkI n M hs Bs st pl ob) {x f t m:Nat} (hx:x<n) (hj:Bs[ob x]? =some (f,t,m)) (hM:¬M x):
  MkI n (fun y=>M y∨y=x) (if m=0 then hs++ [ob x] else hs) (Bs.set (ob x) (f,t,m+1)) (stM st (pl x) (f+m) x) (plM pl (pl x) (f+m) x (st (f+m))) ob:=by
 have hmk:¬MkP Bs pl ob x:=fun e=>hM ((h.mrk x hx).1 e);obtain⟨_,_,hp2,hm2⟩:=par_mark h.par hx hj hmk;have hin:=h.par.in_iff hx hj;have hb:=h.par.inb _ _ _ _ hj;have hzero:m=0↔ob x∉hs:=by
  constructor
  ·intro e hmem;obtain⟨y,h1,h2,h3⟩:=(h.hit _).1 hmem;have hjy:Bs[ob y]? =some (f,t,m):=(by rw[h2];exact hj);have:=(mk_iff hjy).1 ((h.mrk y h1).2 h3);have:=(h.par.in_iff h1 hj).1 h2;omega
  ·intro hno;by_cases c:m=0
   ·exact c
   ·refine absurd ((h.hit _).2 ⟨st f,(h.par.inv2 f (by omega)).1,hb.2.2.2 f (Nat.le_refl _) hb.1,?_⟩) hno;have hjy:Bs[ob (st f)]? =some (f,t,m):=(by rw[hb.2.2.2 f (Nat.le_refl _) hb.1];exact hj);refine (h.mrk _ (h.par.inv2 f (by omega)).1).1 ((mk_iff hjy).2 ?_);rw[(h.par.inv2 f (by omega)).2];omega
 refine⟨hp2,fun y hy=>(hm2 y hy).trans ⟨fun e=>e.elim (fun e=> .inl ((h.mrk y hy).1 e)) .inr,fun e=>e.elim (fun e=> .inl ((h.mrk y hy).2 e)) .inr⟩,?_,fun j=> ?_⟩
 ·split
  ·rename_i c;refine List.nodup_append.2 ⟨h.nd,List.nodup_cons.2 ⟨List.not_mem_nil,List.nodup_nil⟩,fun a ha b hb e=> ?_⟩;rw[List.mem_singleton] at hb;subst hb;subst e;exact hzero.1 c ha
  ·exact h.nd
 ·split
  ·rename_i c;rw[List.mem_append,List.mem_singleton,h.hit];constructor
   ·rintro (⟨y,h1,h2,h3⟩ | e)
    ·exact⟨y,h1,h2,.inl h3⟩
    ·exact⟨x,hx,e.symm,.inr rfl⟩
   ·rintro⟨y,h1,h2,h3 | h3⟩
    ·exact .inl ⟨y,h1,h2,h3⟩
    ·subst h3;exact .inr h2.symm
  ·rename_i c;rw[h.hit];constructor
   ·rintro⟨y,h1,h2,h3⟩;exact⟨y,h1,h2,.inl h3⟩
   ·rintro⟨y,h1,h2,h3 | h3⟩
    ·exact⟨y,h1,h2,h3⟩
    ·subst h3;have:j∈hs:=Classical.byContradiction fun q=>c (hzero.2 (by rw[h2];exact q));exact (h.hit j).1 this
theorem MkI.few (h:MkI n M hs Bs st pl ob):hs.length≤n:=by
 have hK:=h.par.few;refine Nat.le_trans (pig hs.length Bs.length (fun i=>hs.getD i 0) (fun j hj=> ?_) fun i j hij hj e=> ?_) hK
 ·have:hs.getD j 0=hs[j]:=by rw[List.getD_eq_getElem?_getD,List.getElem?_eq_getElem hj];rfl
  show hs.getD j 0<_;rw[this];obtain⟨y,h1,h2,_⟩:=(h.hit _).1 (List.getElem_mem hj);rw[←h2];exact h.par.lt h1
 ·have hi:i<hs.length:=by omega
  have e1:hs.getD i 0=hs[i]:=by rw[List.getD_eq_getElem?_getD,List.getElem?_eq_getElem hi];rfl
  have e2:hs.getD j 0=hs[j]:=by rw[List.getD_eq_getElem?_getD,List.getElem?_eq_getElem hj];rfl
  have e':hs.getD i 0=hs.getD j 0:=e;rw[e1,e2] at e';exact List.pairwise_iff_getElem.1 h.nd i j hi hj hij e'
end
structure BkO (d:Dfa) (bk:Nat→Nat→List Nat):Prop where
 nd:∀z b,z≤d.n→b<256→(bk z b).Nodup
 mem:∀z b y,z≤d.n→b<256→(y∈bk z b↔y≤d.n∧toN d y b=z)
def MW (d:Dfa) (wa:Nat→Nat) (b i:Nat) (L:List Nat) (y:Nat):Prop:=(∃k,k<i∧toN d y b=wa k)∨y∈L
section
variable {d:Dfa} {bk:Nat→Nat→List Nat} {wa:Nat→Nat} {b i k x m:Nat}
theorem mw_step (y:Nat) (hx:(bk (wa i) b)[k]? =some x):(MW d wa b i ((bk (wa i) b).take k) y∨y=x)↔MW d wa b i ((bk (wa i) b).take (k+1)) y:=by
 unfold MW;rw[List.take_add_one,hx,List.mem_append];show _↔_∨_∨y∈ [x];rw[List.mem_singleton,or_assoc]
theorem mw_not (hb:BkO d bk) (hwa:∀i,i<m→wa i≤d.n) (hinj:∀i k,i<m→k<m→wa i=wa k→i=k) (hbb:b<256) (hi:i<m) (hx:(bk (wa i) b)[k]? =some x):x≤d.n∧¬MW d wa b i ((bk (wa i) b).take k) x:=by
 obtain⟨hk,hxe⟩:=List.getElem?_eq_some_iff.1 hx;obtain⟨h1,h2⟩:=(hb.mem (wa i) b x (hwa i hi) hbb).1 (by rw[←hxe];exact List.getElem_mem hk);refine⟨h1,?_⟩;rintro (⟨k',h3,h4⟩ | h3)
 ·rw[h2] at h4;have:=hinj i k' hi (by omega) h4;omega
 ·obtain⟨j,hj,e⟩:=List.mem_iff_getElem.1 h3;rw[List.length_take] at hj;rw[List.getElem_take] at e;have:=List.pairwise_iff_getElem.1 (hb.nd (wa i) b (hwa i hi) hbb) j k (by omega) hk (by omega);exact this (e.trans hxe.symm)
theorem mw_end (hb:BkO d bk) (hwa:∀i,i<m→wa i≤d.n) (hbb:b<256) (hi:i<m) {y:Nat} (hy:y≤d.n):MW d wa b i ((bk (wa i) b).take (bk (wa i) b).length) y↔MW d wa b (i+1) [] y:=by
 rw[List.take_length];unfold MW;rw[hb.mem _ _ _ (hwa i hi) hbb];constructor
 ·rintro (⟨k,h1,h2⟩ | ⟨_,h2⟩)
  ·exact .inl ⟨k,by omega,h2⟩
  ·exact .inl ⟨i,by omega,h2⟩
 ·rintro (⟨k,h1,h2⟩ | h2)
  ·by_cases c:k=i
   ·subst c;exact .inr ⟨hy,h2⟩
   ·exact .inl ⟨k,by omega,h2⟩
  ·cases h2
end
section
variable {n:Nat} {M:Nat→Prop} {hs:List Nat} {Bs Bs1:List Blk} {st pl ob st1 pl1 ob1:Nat→Nat}
theorem parts_of (h:MkI n M hs Bs st pl ob):PartsI n Bs.length M ob (fun j=>j∈hs.take 0) Bs pl ob:=by
 have:=parts_start (n:=n) (K0:=Bs.length) (H:=M) (ob:=ob) h.mrk (Nat.le_refl _);rw[show (fun j=>j∈hs.take 0)=fun _:Nat=>False from funext fun j=>propext ⟨fun e=>absurd (List.take_zero▸e) List.not_mem_nil,fun e=>e.elim⟩];exact this
theorem parts_next (h:MkI n M hs Bs1 st1 pl1 ob1) {k j:Nat} (hj:hs[k]? =some j) (g:PartsI n Bs1.length M ob1 (fun j=>j∈hs.take k) Bs pl ob) (hp:ParI n Bs st pl ob):
  ∃f t m,Bs[j]? =some (f,t,m)∧0<m∧f+m≤t∧∀Bs' ob',PartO n j Bs.length Bs Bs' pl ob ob'→PartsI n Bs1.length M ob1 (fun j=>j∈hs.take (k+1)) Bs' pl ob':=by
 obtain⟨hk,hke⟩:=List.getElem?_eq_some_iff.1 hj;obtain⟨y,h1,h2,h3⟩:=(h.hit j).1 (by rw[←hke];exact List.getElem_mem hk);have hnot:j∉hs.take k:=fun e=>by
  obtain⟨i,hi,e2⟩:=List.mem_iff_getElem.1 e;rw[List.length_take] at hi;rw[List.getElem_take] at e2;exact List.pairwise_iff_getElem.1 h.nd i k (by omega) hk (by omega) (e2.trans hke.symm)
 obtain⟨h4,h5⟩:=g.left y h1 (by rw[h2];exact hnot);obtain⟨f,t,m,h6,h7⟩:=h5.2 h3;rw[h4,h2] at h6;have h8:=(hp.in_iff h1 h6).1 (by rw[h4,h2]);have h9:=hp.inb _ _ _ _ h6;refine⟨f,t,m,h6,by omega,h9.2.2.1,fun Bs' ob' ho=> ?_⟩;have:=parts_step g hp hnot (by rw[←h2];exact h.par.lt h1) ho;rw[show (fun i=>i∈hs.take (k+1))=fun i=>i∈hs.take k∨i=j from funext fun i=>propext (by
  rw[List.take_add_one,hj,List.mem_append];show _∨i∈ [j]↔_;rw[List.mem_singleton])]
 exact this
theorem parts_done (h:MkI n M hs Bs1 st1 pl1 ob1) (g:PartsI n Bs1.length M ob1 (fun j=>j∈hs.take hs.length) Bs pl ob):RefI n Bs1.length M ob1 ob∧∀y,y<n→¬MkP Bs pl ob y:=by
 rw[List.take_length] at g;exact parts_end g fun y hy hM=>(h.hit _).2 ⟨y,hy,rfl,hM⟩
end
end Go.Proofs.YtjeomlickkpebaaGreatDoor
