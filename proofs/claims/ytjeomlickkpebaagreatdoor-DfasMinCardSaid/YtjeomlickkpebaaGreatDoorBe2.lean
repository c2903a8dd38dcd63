/-
  Texts of this proof, one behind the other; each begins with its own remark.
-/
import Derived.Lib.Hide
import Derived.WalkSpells
import Derived.WalkLawsBesides
import Derived.Deep.RegionHeld3
import Derived.BigQuiet
import Derived.Deep.AppendSrc
import Derived.Test.YtjeomlickkpebaaGreatDoorBe1
namespace Go.Proofs.YtjeomlickkpebaaGreatDoor
theorem qh {p:Prop} (h:p):RowKit.Hid p:=Lib.hid h
end Go.Proofs.YtjeomlickkpebaaGreatDoor
namespace Go.Proofs.YtjeomlickkpebaaGreatDoor
open Go.RowKit
theorem Zr (g o k:Nat):(⟨g,o,none⟩:Addr).add k=⟨g,o+k,none⟩:=by unfold Addr.add;split<;>simp_all
theorem rlt {w:World} {p:Addr} {v:Value} (h:w.cell? p=some v):p.block<w.heap.size:=World.block_lt_of_cell? w p h
structure KeepW (ok:Nat→Prop) (w w':World):Prop where
 os:w'.os=w.os
 tape:w'.tape=w.tape
 output:w'.output=w.output
 size:w.heap.size≤w'.heap.size
 same:∀k,k<w.heap.size→ok k→w'.heap[k]? =w.heap[k]?
theorem KeepW.refl (ok:Nat→Prop) (w:World):KeepW ok w w:=⟨rfl,rfl,rfl,Nat.le_refl _,fun _ _ _=>rfl⟩
theorem KeepW.trans {ok:Nat→Prop} {a b c:World} (h:KeepW ok a b) (g:KeepW ok b c):KeepW ok a c:=
 ⟨g.os.trans h.os,g.tape.trans h.tape,g.output.trans h.output,Nat.le_trans h.size g.size,fun k hk ho=>(g.same k (Nat.lt_of_lt_of_le hk h.size) ho).trans (h.same k hk ho)⟩
theorem KeepW.mono {ok ok':Nat→Prop} {a b:World} (h:KeepW ok a b) (hm:∀k,k<a.heap.size→ok' k→ok k):KeepW ok' a b:=
 ⟨h.os,h.tape,h.output,h.size,fun k hk ho=>h.same k hk (hm k hk ho)⟩
theorem keep_below {w w':World} (ok:Nat→Prop) (h:Below w.heap.size w w'):KeepW ok w w':=⟨h.os,h.tape,h.output,h.size,fun k hk _=>h.block k hk⟩
theorem zN (ok:Nat→Prop) (w:World) (n:Nat):KeepW ok w (w.drewN n):=⟨rfl,rfl,rfl,Nat.le_refl _,fun _ _ _=>rfl⟩
theorem qb (ok:Nat→Prop) (w:World):KeepW ok w w.drew:=⟨rfl,rfl,rfl,Nat.le_refl _,fun _ _ _=>rfl⟩
theorem zE {ok:Nat→Prop} (B o:Nat) (x:Option Nat) (v:Value) (w:World) (hB:¬ok B):KeepW ok w (w.setCell ⟨B,o,x⟩ v):=
 ⟨rfl,rfl,rfl,by show _≤(w.heap.modify _ _).size;rw[Array.size_modify];exact Nat.le_refl _,fun k _ ho=>Below.heap_setCell w _ v k fun e=>hB (by rw[show k=B from e] at ho;exact ho)⟩
theorem KeepW.cell {ok:Nat→Prop} {w w':World} (h:KeepW ok w w') {g o:Nat} {v:Value} (hc:w.cell? ⟨g,o,none⟩=some v) (hg:ok g):w'.cell? ⟨g,o,none⟩=some v:=
 (World.cell?_of_block (a:=⟨g,o,none⟩) (h.same g (rlt hc) hg)).trans hc
theorem KeepW.below {ok:Nat→Prop} {n:Nat} {a b c:World} (h:Below n a b) (g:KeepW ok b c) (hn:n≤b.heap.size) (ho:∀k,k<n→ok k):Below n a c:=
 ⟨g.os.trans h.os,g.tape.trans h.tape,g.output.trans h.output,Nat.le_trans h.size g.size,fun k hk=>(g.same k (by omega) (ho k hk)).trans (h.block k hk)⟩
def xW (s:St4):Value:= .agg #[.int .u64 (s.1:Int),.int .u64 (s.2.1:Int),.int .u64 (s.2.2.1:Int),.int .u64 (s.2.2.2:Int)]
def nodeC (n:Nd) (u:Value):List Value:= [.int .i64 n.kind,.int .u64 (n.set.1:Int),.int .u64 (n.set.2.1:Int),.int .u64 (n.set.2.2.1:Int),.int .u64 (n.set.2.2.2:Int),u]
def zG (n:Nd) (u:Value):Value:= .agg #[.int .i64 n.kind,.int .u64 (n.set.1:Int),.int .u64 (n.set.2.1:Int),.int .u64 (n.set.2.2.1:Int),.int .u64 (n.set.2.2.2:Int),u]
def xh:List Nd→List Value→List Value
 | n::l,u::us=>nodeC n u++xh l us
 | _,_=> []
theorem vY:∀(l:List Nd) (us:List Value) (i:Nat) (n:Nd) (u:Value),l[i]? =some n→us[i]? =some u→∀j,j<6→(xh l us)[i*6+j]? =(nodeC n u)[j]?
 | n::l,u::us,0,_,_,h1,h2,j,hj=>by
  cases h1;cases h2;rw[xh,Nat.zero_mul,Nat.zero_add,List.getElem?_append_left (by show j<6;exact hj)]
 | n::l,u::us,i+1,m,v,h1,h2,j,hj=>by
  rw[xh,List.getElem?_append_right (by show 6≤_;omega)];rw[show (i+1)*6+j-(nodeC n u).length=i*6+j from by show (i+1)*6+j-6=_;omega];exact vY l us i m v h1 h2 j hj
theorem Zs:∀(l m:List Nd) (us vs:List Value),us.length=l.length→xh (l++m) (us++vs)=xh l us++xh m vs
 | [],m,[],vs,_=>rfl
 | n::l,m,u::us,vs,h=>by
  rw[List.cons_append,List.cons_append,xh,xh,Zs l m us vs (by simpa using h),List.append_assoc]
theorem nodesC_mem:∀(l:List Nd) (us:List Value),(∀u,u∈us→u.oneCell'=true)→∀x,x∈xh l us→x.oneCell'=true
 | [],us,_,x,hx=>by cases us<;>cases hx
 | n::l,[],_,x,hx=>by cases hx
 | n::l,u::us,h,x,hx=>by
  rw[xh,List.mem_append] at hx;rcases hx with hx | hx
  ·simp only[nodeC,List.mem_cons,List.not_mem_nil,or_false] at hx;rcases hx with rfl | rfl | rfl | rfl | rfl | rfl
   ·rfl
   ·rfl
   ·rfl
   ·rfl
   ·rfl
   ·exact h _ (by simp)
  ·exact nodesC_mem l us (fun v hv=>h v (by simp[hv])) x hx
theorem zA (w:World) (o:Obj):Below w.heap.size w (w.alloc o):=(Below.refl _ _).alloc (Nat.le_refl _) o
theorem zC (w:World) (o:Obj):(w.alloc o).heap.size=w.heap.size+1:=Array.size_push _
def jO (ok:Nat→Prop) (w:World) (v:Value) (n:Nat) (cs:List Value):Prop:=
 ∃ao cap,v= .slice ao n cap∧n≤cap∧∀(j:Nat) u,cs[j]? =some u→∃g o,ao=some ⟨g,o,none⟩∧ok g∧w.cell? ⟨g,o+j,none⟩=some u
theorem jO.keep {ok ok':Nat→Prop} {w w':World} {v:Value} {n:Nat} {cs:List Value} (h:jO ok w v n cs) (hk:KeepW ok' w w') (hm:∀k,k<w.heap.size→ok k→ok' k):jO ok w' v n cs:=by
 obtain⟨ao,cap,hv,hn,hc⟩:=h;refine⟨ao,cap,hv,hn,fun j u hu=> ?_⟩;obtain⟨g,o,ha,ho,hg⟩:=hc j u hu;exact⟨g,o,ha,ho,hk.cell hg (hm g (rlt hg) ho)⟩
theorem jO.mono {ok ok':Nat→Prop} {w:World} {v:Value} {n:Nat} {cs:List Value} (h:jO ok w v n cs) (hm:∀k,k<w.heap.size→ok k→ok' k):jO ok' w v n cs:=by
 obtain⟨ao,cap,hv,hn,hc⟩:=h;refine⟨ao,cap,hv,hn,fun j u hu=> ?_⟩;obtain⟨g,o,ha,ho,hg⟩:=hc j u hu;exact⟨g,o,ha,hm g (rlt hg) ho,hg⟩
theorem jO.nil (ok:Nat→Prop) (w:World):jO ok w (.slice none 0 0) 0 []:=⟨none,0,rfl,Nat.le_refl _,fun j u h=>by simp at h⟩
inductive zW (ok:Nat→Prop) (w:World):List Nd→Value→Prop
 | mk (l:List Nd) (us:List Value) (v:Value) (hb:l.length≤9223372036854775807) (hlen:us.length=l.length) (hrow:jO ok w v l.length (xh l us))
   (hs:∀(i:Nat) (n:Nd),l[i]? =some n→OkR n.set) (hk:∀(i:Nat) (n:Nd) (u:Value),l[i]? =some n→us[i]? =some u→zW ok w n.kids u):zW ok w l v
def zV (ok:Nat→Prop) (w:World) (n:Nd) (x:Value):Prop:=OkR n.set∧∃u,x=zG n u∧zW ok w n.kids u
theorem zW.keep {ok ok':Nat→Prop} {w w':World} {l:List Nd} {v:Value} (h:zW ok w l v) (hk:KeepW ok' w w') (hm:∀k,k<w.heap.size→ok k→ok' k):zW ok w' l v:=by
 induction h with
 | mk l us v hb hlen hrow hs _ ih=>exact⟨l,us,v,hb,hlen,hrow.keep hk hm,hs,fun i n u h1 h2=>ih i n u h1 h2⟩
theorem zW.mono {ok ok':Nat→Prop} {w:World} {l:List Nd} {v:Value} (h:zW ok w l v) (hm:∀k,k<w.heap.size→ok k→ok' k):zW ok' w l v:=by
 induction h with
 | mk l us v hb hlen hrow hs _ ih=>exact⟨l,us,v,hb,hlen,hrow.mono hm,hs,fun i n u h1 h2=>ih i n u h1 h2⟩
theorem zW.under {ok:Nat→Prop} {w w':World} {l:List Nd} {v:Value} (h:zW ok w l v) (hb:Below w.heap.size w w'):zW ok w' l v:=h.keep (keep_below (fun _=>True) hb) fun _ _ _=>trivial
theorem zW.nil (ok:Nat→Prop) (w:World):zW ok w [] (.slice none 0 0):=⟨[],[],_,Nat.zero_le _,rfl,jO.nil _ _,(fun i n h=>by simp at h),fun i n u h=>by simp at h⟩
theorem zW.form {ok:Nat→Prop} {w:World} {l:List Nd} {v:Value} (h:zW ok w l v):∃ao cap,v= .slice ao l.length cap∧l.length≤cap∧l.length≤9223372036854775807:=by
 obtain⟨_,us,_,hb,_,⟨ao,cap,hv,hn,_⟩,_,_⟩:=h;exact⟨ao,cap,hv,hn,hb⟩
theorem zW.at_ {ok:Nat→Prop} {w:World} {l:List Nd} {v:Value} {i:Nat} {n:Nd} (h:zW ok w l v) (hi:l[i]? =some n):
  ∃g o cap u,v= .slice (some ⟨g,o,none⟩) l.length cap∧l.length≤cap∧OkR n.set∧zW ok w n.kids u∧(∀(j:Nat) x,j<6→(nodeC n u)[j]? =some x→w.cell? ⟨g,o+(i*6+j),none⟩=some x):=by
 obtain⟨_,us,_,hb,hlen,⟨ao,cap,hv,hn,hc⟩,hs,hk⟩:=h;obtain⟨u,hu⟩:∃u,us[i]? =some u:=⟨_,List.getElem?_eq_getElem (by rw[hlen];exact (List.getElem?_eq_some_iff.1 hi).1)⟩;have h1:=hs i n hi;have h2:=hk i n u hi hu;obtain⟨g,o,ha,_,_⟩:=hc (i*6+0) (.int .i64 n.kind) (by rw[vY l us i n u hi hu 0 (by decide)];rfl);refine⟨g,o,cap,u,by rw[hv,ha],hn,h1,h2,fun j x hj hx=> ?_⟩;obtain⟨g',o',ha',_,hg⟩:=hc (i*6+j) x (by rw[vY l us i n u hi hu j hj];exact hx);rw[ha] at ha';cases ha';exact hg
section
variable {ok ok':Nat→Prop} {w w':World} {n:Nd} {x:Value}
theorem zV.keep (h:zV ok w n x) (hk:KeepW ok' w w') (hm:∀k,k<w.heap.size→ok k→ok' k):zV ok w' n x:=by
 obtain⟨h1,u,rfl,h2⟩:=h;exact⟨h1,u,rfl,h2.keep hk hm⟩
theorem zV.mono (h:zV ok w n x) (hm:∀k,k<w.heap.size→ok k→ok' k):zV ok' w n x:=by
 obtain⟨h1,u,rfl,h2⟩:=h;exact⟨h1,u,rfl,h2.mono hm⟩
theorem zV.below (h:zV ok w n x) (hb:Below w.heap.size w w'):zV ok w' n x:=h.keep (keep_below (fun _=>True) hb) fun _ _ _=>trivial
theorem zV.leaf (k:Int) (s:St4) (hs:OkR s):zV ok w (.mk k s []) (.agg #[.int .i64 k,.int .u64 (s.1:Int),.int .u64 (s.2.1:Int),.int .u64 (s.2.2.1:Int),.int .u64 (s.2.2.2:Int),.slice none 0 0]):=⟨hs,.slice none 0 0,rfl,zW.nil _ _⟩
end
theorem zDK {ok:Nat→Prop} {w:World} {l:List Nd} {v:Value} (h:zW ok w l v):v.oneCell'=true:=by
 obtain⟨ao,cap,rfl,_⟩:=h.form;rfl
def OutP (T:TypeId) (N:Nat) (P:Nat→Prop) (w:World) (v:Value) (l:List Nd):Prop:=
 ∃us,us.length=l.length∧w.ownsRow N T 6 v l.length (xh l us)∧∀(i:Nat) (n:Nd) (u:Value),l[i]? =some n→us[i]? =some u→OkR n.set∧zW (fun k=>P k∧v.ownBlock≠some k) w n.kids u
theorem OutP.nil (T:TypeId) (N:Nat) (P:Nat→Prop) (w:World):OutP T N P w (.slice none 0 0) []:=⟨[],rfl,World.ownsRow_nil _ _ _ _,fun i n u h=>by simp at h⟩
theorem OutP.lt {T:TypeId} {N:Nat} {P:Nat→Prop} {w:World} {v:Value} {l:List Nd} (h:OutP T N P w v l):∀k,v.ownBlock=some k→N≤k∧k<w.heap.size:=by
 obtain⟨us,_,h1,_⟩:=h;exact World.ownsRow.lt h1
theorem OutP.mono {T:TypeId} {N:Nat} {P P':Nat→Prop} {w:World} {v:Value} {l:List Nd} (h:OutP T N P w v l) (hm:∀k,k<w.heap.size→P k→P' k):OutP T N P' w v l:=by
 obtain⟨us,h0,h1,h3⟩:=h;exact⟨us,h0,h1,fun i n u hi hu=>⟨(h3 i n u hi hu).1,(h3 i n u hi hu).2.mono fun k hk hp=>⟨hm k hk hp.1,hp.2⟩⟩⟩
theorem OutP.keep {T:TypeId} {N:Nat} {P ok:Nat→Prop} {w w':World} {v:Value} {l:List Nd} (h:OutP T N P w v l) (hk:KeepW ok w w') (ho:∀k,v.ownBlock=some k→ok k) (hp:∀k,k<w.heap.size→P k→ok k):OutP T N P w' v l:=by
 obtain⟨us,h0,⟨h1,h2⟩,h3⟩:=h;refine⟨us,h0,?_,fun i n u hi hu=>⟨(h3 i n u hi hu).1,(h3 i n u hi hu).2.keep hk fun k hlt hk=>hp k hlt hk.1⟩⟩;rcases h2 with h2 | ⟨g,cap,cur,rfl,h4,h5,h6⟩
 ·exact⟨h1,.inl h2⟩
 ·exact⟨h1,.inr ⟨g,cap,cur,rfl,h4,(hk.same g (Array.getElem?_eq_some_iff.1 h5).1 (ho g rfl)).trans h5,h6⟩⟩
theorem OutP.under {T:TypeId} {N:Nat} {P:Nat→Prop} {w w':World} {v:Value} {l:List Nd} (h:OutP T N P w v l) (hb:Below w.heap.size w w'):OutP T N P w' v l:=h.keep (keep_below (fun _=>True) hb) (fun _ _=>trivial) fun _ _ _=>trivial
def OutN (T:TypeId) (N:Nat) (w:World) (v:Value) (l:List Nd):Prop:=OutP T N (fun k=>N≤k) w v l
theorem OutN.nil (T:TypeId) (N:Nat) (w:World):OutN T N w (.slice none 0 0) []:=⟨[],rfl,World.ownsRow_nil _ _ _ _,fun i n u h=>by simp at h⟩
theorem OutN.lt {T:TypeId} {N:Nat} {w:World} {v:Value} {l:List Nd} (h:OutN T N w v l):∀k,v.ownBlock=some k→N≤k∧k<w.heap.size:=by
 obtain⟨us,_,h1,_⟩:=h;exact World.ownsRow.lt h1
theorem Zc {N m n:Nat} {e:TypeId} {w:World} {v:Value} {cs:List Value} (h:w.ownsRow N e m v n cs):jO (fun k=>N≤k) w v n cs:=by
 obtain⟨hl,⟨rfl,h0⟩ | ⟨g,cap,cur,rfl,h3,hg,hn,_,_,hx⟩⟩:=h
 ·subst h0;rw[Nat.zero_mul] at hl;rw[List.eq_nil_of_length_eq_zero hl];exact jO.nil _ _
 ·refine⟨_,cap,rfl,hn,fun j u hu=>⟨g,0,rfl,h3,?_⟩⟩;rw[Nat.zero_add,cell_of_row _ _ _ cur e (0,0) hg];rw[←hx,List.getElem?_take] at hu;split at hu
  ·rw[←Array.getElem?_toList];exact hu
  ·cases hu
theorem OutN.kids {T:TypeId} {N:Nat} {w:World} {v:Value} {l:List Nd} (h:OutN T N w v l) (hl:l.length≤1000000):zW (fun k=>N≤k) w l v:=by
 obtain⟨us,h1,h2,h3⟩:=h;exact⟨l,us,v,by omega,h1,Zc h2,(fun i n hi=>by
  obtain⟨u,hu⟩:∃u,us[i]? =some u:=⟨_,List.getElem?_eq_getElem (by rw[h1];exact (List.getElem?_eq_some_iff.1 hi).1)⟩;exact (h3 i n u hi hu).1),fun i n u hi hu=>(h3 i n u hi hu).2.mono fun k _ hk=>hk.1⟩
theorem OutN.keep {T:TypeId} {N:Nat} {ok:Nat→Prop} {w w':World} {v:Value} {l:List Nd} (h:OutN T N w v l) (hk:KeepW ok w w') (ho:∀k,N≤k→ok k):OutN T N w' v l:=by
 obtain⟨us,h0,⟨h1,h2⟩,h3⟩:=h;refine⟨us,h0,?_,fun i n u hi hu=>⟨(h3 i n u hi hu).1,(h3 i n u hi hu).2.keep hk fun k _ hk=>ho k hk.1⟩⟩;rcases h2 with h2 | ⟨g,cap,cur,rfl,h4,h5,h6⟩
 ·exact⟨h1,.inl h2⟩
 ·exact⟨h1,.inr ⟨g,cap,cur,rfl,h4,(hk.same g (Array.getElem?_eq_some_iff.1 h5).1 (ho g h4)).trans h5,h6⟩⟩
theorem OutN.below {T:TypeId} {N:Nat} {w w':World} {v:Value} {l:List Nd} (h:OutN T N w v l) (hb:Below w.heap.size w w'):OutN T N w' v l:=h.keep (keep_below (fun _=>True) hb) fun _ _=>trivial
theorem ka {T:TypeId} {N:Nat} {P ok:Nat→Prop} {w:World} {v u:Value} {l:List Nd} {n:Nd} {X:Nat} (t ty:TypeId) (i0:TypeInfo) (z:Value) (ht:Tryz.prog.underlying t=some (.slice T)) (hi:Tryz.prog.info? T=some i0) (hz0:i0.zero=some z) (hzl:z.cells.size=6) (hz1:i0.size=6) (hz2:i0.bytes=64)
  (hv:OutP T N P w v l) (hX:∀(j:Nat) x,(nodeC n u)[j]? =some x→w.cell? ⟨X,j,none⟩=some x) (hs:OkR n.set) (hu:zW ok w n.kids u) (ho:∀k,k<w.heap.size→ok k→P k∧v.ownBlock≠some k) (hN:N≤w.heap.size) (hl:l.length≤100000):
  ∃v' w',(Builtin.append_ #[t,t] ty #[v,.slice (some ⟨X,0,none⟩) 1 1]).run Tryz.prog w= .ok v' w'∧OutP T N P w' v' (l++ [n])∧KeepW (fun k=>v.ownBlock≠some k) w w'∧∀k,v'.ownBlock=some k→v.ownBlock=some k∨k=w.heap.size:=by
 obtain⟨us,h1,h2,h3⟩:=hv;have hone:∀x,x∈nodeC n u→x.oneCell'=true:=fun x hx=>nodesC_mem [n] [u] (fun y hy=>by rw[List.mem_singleton.1 hy];exact zDK hu) x (by show x∈nodeC n u++ [];rw[List.append_nil];exact hx);obtain⟨v',w',hr,hown',hgr,_,hat⟩:=run_append_own_at (P:=Tryz.prog) w N t ty T i0 z 6 64 ht hi hz0 hz1 hz2 hzl (by decide) v l.length (xh l us) h2 ⟨X,0,none⟩ 1 1 (nodeC n u) rfl (fun j x hx=>by rw[Zr,Nat.zero_add];exact hX j x hx) hone (by unfold maxLen;omega) (by omega) hN;have hkeep:KeepW (fun k=>v.ownBlock≠some k) w w':=⟨hgr.os,hgr.tape,hgr.output,hgr.size,fun k hk hne=>hgr.block k hk fun e=>hne e.symm⟩;have hor:∀k,v'.ownBlock=some k→v.ownBlock=some k∨k=w.heap.size:=fun k e=>by
  rcases hat with hat | hat
  ·exact .inl (hat▸e)
  ·rw[hat] at e;cases e;exact .inr rfl
 have hne:∀k,k<w.heap.size→v.ownBlock≠some k→v'.ownBlock≠some k:=fun k hk h e=>by
  rcases hor k e with h5 | h5
  ·exact h h5
  ·omega
 refine⟨v',w',hr,⟨us++ [u],by simp[h1],?_,fun i m x hm hx=> ?_⟩,hkeep,hor⟩
 ·rw[Zs l [n] us [u] h1,List.length_append];show w'.ownsRow N T 6 v' (l.length+1) (xh l us++(nodeC n u++xh [] []));rw[show xh [] []= [] from rfl,List.append_nil];exact hown'
 ·have step:∀ {m:Nd} {x:Value} {ok2:Nat→Prop},zW ok2 w m.kids x→(∀k,k<w.heap.size→ok2 k→P k∧v.ownBlock≠some k)→zW (fun k=>P k∧v'.ownBlock≠some k) w' m.kids x:=fun {m x ok2} hm2 ho2=>by
   have h6:=hm2.mono (ok':=fun k=>P k∧v.ownBlock≠some k∧v'.ownBlock≠some k) fun k hk hok=>⟨(ho2 k hk hok).1,(ho2 k hk hok).2,hne k hk (ho2 k hk hok).2⟩;have h7:=h6.keep hkeep fun k _ hk=>hk.2.1;exact h7.mono fun k _ hk=>⟨hk.1,hk.2.2⟩
  by_cases hil:i<l.length
  ·rw[List.getElem?_append_left hil] at hm;rw[List.getElem?_append_left (by omega)] at hx;obtain⟨h4,h5⟩:=h3 i m x hm hx;exact⟨h4,step h5 fun k _ hk=>hk⟩
  ·rw[List.getElem?_append_right (by omega)] at hm hx;rw[h1] at hx;have e0:i-l.length=0:=by
    have:=(List.getElem?_eq_some_iff.1 hm).1
    simpa using this
   rw[e0] at hm hx;cases hm;cases hx;exact⟨hs,step hu ho⟩
end Go.Proofs.YtjeomlickkpebaaGreatDoor
