/-
  Texts of this proof, one behind the other; each begins with its own remark.
-/
import Derived.Test.YtjeomlickkpebaaGreatDoorBe6
import Derived.Test.YtjeomlickkpebaaGreatDoorBe2
namespace Go.Proofs.YtjeomlickkpebaaGreatDoor
open Go.RowKit
theorem Tryz.infoIntN:(Tryz.prog.info? 3).map (fun i=>(i.zero,i.size,i.bytes))=some (some (.int .i64 0),1,8):=by kernel_rfl
def zA2:Value:= .agg #[.int .i64 0,.int .u64 0,.int .u64 0,.int .u64 0,.int .u64 0,.int .i64 0,.int .i64 0,.int .i64 0]
theorem Tryz.infoSta:(Tryz.prog.info? 99).map (fun i=>(i.zero,i.size,i.bytes))=some (some zA2,8,64):=by kernel_rfl
theorem xJ {o:Option TypeInfo} {z:Value} {m b:Nat} (h:o.map (fun i=>(i.zero,i.size,i.bytes))=some (some z,m,b)):∃i,o=some i∧i.zero=some z∧i.size=m∧i.bytes=b:=by
 cases o with
 | none=>cases h
 | some i=>
  simp only[Option.map_some,Option.some.injEq,Prod.mk.injEq] at h;exact⟨i,rfl,h.1,h.2.1,h.2.2⟩
def xK (l:List Int):List Value:=l.map (Value.int .i64)
theorem zP (l:List Int):(xK l).length=l.length:=List.length_map _
theorem ZO {l:List Int} {i:Nat} {a:Int} (h:l[i]? =some a):(xK l)[i]? =some (.int .i64 a):=by unfold xK;rw[List.getElem?_map,h];rfl
def jG (w:World) (v:Value) (l:List Int):Prop:=jO (fun _=>True) w v l.length (xK l)∧l.length≤1000000
theorem jG.below {w w':World} {v:Value} {l:List Int} (h:jG w v l) (hb:Below w.heap.size w w'):jG w' v l:=⟨h.1.keep (keep_below _ hb) fun _ _ h=>h,h.2⟩
theorem jG.form {w:World} {v:Value} {l:List Int} (h:jG w v l):∃ao cap,v= .slice ao l.length cap∧l.length≤cap:=by
 obtain⟨⟨ao,cap,hv,hn,_⟩,_⟩:=h;exact⟨ao,cap,hv,hn⟩
theorem jG.at_ {w:World} {v:Value} {l:List Int} {i:Nat} {a:Int} (h:jG w v l) (hi:l[i]? =some a):∃g o cap,v= .slice (some ⟨g,o,none⟩) l.length cap∧l.length≤cap∧w.cell? ⟨g,o+i,none⟩=some (.int .i64 a):=by
 obtain⟨⟨ao,cap,hv,hn,hc⟩,_⟩:=h;obtain⟨g,o,ha,_,hg⟩:=hc i _ (ZO hi);exact⟨g,o,cap,by rw[hv,ha],hn,hg⟩
def Zt (N:Nat) (w:World) (v:Value) (l:List Int):Prop:=w.ownsRow N 3 1 v l.length (xK l)
theorem Zt.nil (N:Nat) (w:World):Zt N w (.slice none 0 0) []:=World.ownsRow_nil _ _ _ _
theorem zF {N m n:Nat} {e:TypeId} {w w':World} {v:Value} {cs:List Value} {ok:Nat→Prop} (h:w.ownsRow N e m v n cs) (hk:KeepW ok w w') (ho:∀k,v.ownBlock=some k→ok k):w'.ownsRow N e m v n cs:=by
 obtain⟨h1,h2 | ⟨g,cap,cur,rfl,h3,h4,h5⟩⟩:=h
 ·exact⟨h1,.inl h2⟩
 ·exact⟨h1,.inr ⟨g,cap,cur,rfl,h3,(hk.same g (Array.getElem?_eq_some_iff.1 h4).1 (ho g rfl)).trans h4,h5⟩⟩
theorem Zt.keep {N:Nat} {w w':World} {v:Value} {l:List Int} {ok:Nat→Prop} (h:Zt N w v l) (hk:KeepW ok w w') (ho:∀k,v.ownBlock=some k→ok k):Zt N w' v l:=zF h hk ho
theorem Zt.below {N:Nat} {w w':World} {v:Value} {l:List Int} (h:Zt N w v l) (hb:Below w.heap.size w w'):Zt N w' v l:=zF h (keep_below (fun _=>True) hb) fun _ _=>trivial
theorem Zt.ints {N:Nat} {w:World} {v:Value} {l:List Int} (h:Zt N w v l) (hl:l.length≤1000000):jG w v l:=⟨(Zc h).mono fun _ _ _=>trivial,hl⟩
theorem ZP {N:Nat} {w:World} {v:Value} {l:List Int} {X:Nat} {a:Int} (t ty:TypeId) (ht:Tryz.prog.underlying t=some (.slice 3)) (hv:Zt N w v l) (hX:w.cell? ⟨X,0,none⟩=some (.int .i64 a)) (hN:N≤w.heap.size) (hs:l.length≤100000):
  ∃v' w',(Builtin.append_ #[t,t] ty #[v,.slice (some ⟨X,0,none⟩) 1 1]).run Tryz.prog w= .ok v' w'∧Zt N w' v' (l++ [a])∧KeepW (fun k=>v.ownBlock≠some k) w w'∧∀k,v'.ownBlock=some k→v.ownBlock=some k∨k=w.heap.size:=by
 obtain⟨i0,hi,hz0,hz1,hz2⟩:=xJ Tryz.infoIntN;have hn:∀(j:Nat) (u:Value),[Value.int .i64 a][j]? =some u→w.cell? ((⟨X,0,none⟩:Addr).add j)=some u:=fun j u hu=>by
  have hj:=(List.getElem?_eq_some_iff.1 hu).1;have:j=0:=by simpa using hj
  subst this;rw[Zr];simp at hu;rw[←hu];exact hX
 obtain⟨v',w',hr,hown',hgr,_,hat⟩:=run_append_own_at (P:=Tryz.prog) w N t ty 3 i0 (.int .i64 0) 1 8 ht hi hz0 hz1 hz2 rfl (by decide) v l.length (xK l) hv ⟨X,0,none⟩ 1 1 [.int .i64 a] rfl hn (fun u hu=>by rw[List.mem_singleton.1 hu];rfl) (by unfold maxLen;omega) (by omega) hN;refine⟨v',w',hr,?_,⟨hgr.os,hgr.tape,hgr.output,hgr.size,fun k hk hne=>hgr.block k hk fun e=>hne e.symm⟩,fun k e=> ?_⟩
 ·unfold Zt xK;rw[List.length_append,List.map_append];exact hown'
 ·rcases hat with hat | hat
  ·exact .inl (hat▸e)
  ·rw[hat] at e;cases e;exact .inr rfl
def staC (s:Sta):List Value:= [.int .i64 (s.kind:Int),.int .u64 (s.set.1:Int),.int .u64 (s.set.2.1:Int),.int .u64 (s.set.2.2.1:Int),.int .u64 (s.set.2.2.2:Int),.int .i64 (s.next:Int),.int .i64 (s.also:Int),.int .i64 (s.rule:Int)]
def qT:List Sta→List Value
 | []=> []
 | s::q=>staC s++qT q
theorem Qq:∀q,(qT q).length=q.length*8
 | []=>rfl
 | s::q=>by rw[qT,List.length_append,Qq q,List.length_cons];show 8+_=_;omega
theorem Qr:∀q r,qT (q++r)=qT q++qT r
 | [],r=>rfl
 | s::q,r=>by rw[List.cons_append,qT,qT,Qr q r,List.append_assoc]
theorem Xo:∀(q:List Sta) (i:Nat) (s:Sta),q[i]? =some s→∀j,j<8→(qT q)[i*8+j]? =(staC s)[j]?
 | t::q,0,s,h,j,hj=>by
  cases h;rw[qT,Nat.zero_mul,Nat.zero_add,List.getElem?_append_left (by show j<8;exact hj)]
 | t::q,i+1,s,h,j,hj=>by
  rw[qT,List.getElem?_append_right (by show 8≤_;omega),show (i+1)*8+j-(staC t).length=i*8+j from by show (i+1)*8+j-8=_;omega];exact Xo q i s h j hj
theorem Qs:∀(q:List Sta) (x:Value),x∈qT q→x.oneCell'=true
 | s::q,x,h=>by
  rw[qT,List.mem_append] at h;rcases h with h | h
  ·simp only[staC,List.mem_cons,List.not_mem_nil,or_false] at h;rcases h with rfl | rfl | rfl | rfl | rfl | rfl | rfl | rfl<;>rfl
  ·exact Qs q x h
theorem Zu:∀(q:List Sta) (i v:Nat),i<q.length→qT (xi q i v)=(qT q).set (i*8+6) (.int .i64 (v:Int))
 | s::q,0,v,_=>rfl
 | s::q,i+1,v,h=>by
  rw[xi,qT,qT,Zu q i v (by simpa using h)];rw[List.set_append_right _ _ (by show 8≤_;omega)];congr 2;show i*8+6=(i+1)*8+6-8;omega
def zA3 (w:World) (v:Value) (q:List Sta):Prop:=w.ownsRow 0 99 8 v q.length (qT q)
theorem zA3.nil (w:World):zA3 w (.slice none 0 0) []:=World.ownsRow_nil _ _ _ _
theorem zA4 {w:World} {v:Value} {q:List Sta} {X:Nat} {s:Sta} (t ty:TypeId) (ht:Tryz.prog.underlying t=some (.slice 99)) (hv:zA3 w v q) (hX:∀(j:Nat) x,(staC s)[j]? =some x→w.cell? ⟨X,j,none⟩=some x) (hs:q.length≤100000):
  ∃v' w',(Builtin.append_ #[t,t] ty #[v,.slice (some ⟨X,0,none⟩) 1 1]).run Tryz.prog w= .ok v' w'∧zA3 w' v' (q++ [s])∧KeepW (fun k=>v.ownBlock≠some k) w w'∧∀k,v'.ownBlock=some k→v.ownBlock=some k∨k=w.heap.size:=by
 obtain⟨i0,hi,hz0,hz1,hz2⟩:=xJ Tryz.infoSta;obtain⟨v',w',hr,hown',hgr,_,hat⟩:=run_append_own_at (P:=Tryz.prog) w 0 t ty 99 i0 zA2 8 64 ht hi hz0 hz1 hz2 rfl (by decide) v q.length (qT q) hv ⟨X,0,none⟩ 1 1 (staC s) rfl (fun j x hx=>by rw[Zr,Nat.zero_add];exact hX j x hx) (fun x hx=>Qs [s] x (by rw[qT,qT,List.append_nil];exact hx)) (by unfold maxLen;omega) (by omega) (Nat.zero_le _);refine⟨v',w',hr,?_,⟨hgr.os,hgr.tape,hgr.output,hgr.size,fun k hk hne=>hgr.block k hk fun e=>hne e.symm⟩,fun k e=> ?_⟩
 ·unfold zA3;rw[List.length_append,Qr];show w'.ownsRow 0 _ 8 v' _ (qT q++(staC s++ []));rw[List.append_nil];exact hown'
 ·rcases hat with hat | hat
  ·exact .inl (hat▸e)
  ·rw[hat] at e;cases e;exact .inr rfl
def QR (w:World) (B:Nat) (sv fv:Value):Prop:=w.heap[B]? =some (.cells #[sv,fv] 68 (0,0))
section
variable {w w':World} {B:Nat} {sv fv:Value}
theorem QR.lt (h:QR w B sv fv):B<w.heap.size:=(Array.getElem?_eq_some_iff.1 h).1
theorem QR.cells (h:QR w B sv fv):(w.cell? ⟨B,0,none⟩=some sv∧w.cell? ⟨B,1,none⟩=some fv)∧w.frozen? ⟨B,0,none⟩=false∧w.frozen? ⟨B,1,none⟩=false:=by
 unfold QR at h;refine⟨⟨?_,?_⟩,?_,?_⟩<;>first | (unfold World.cell?;rw[h];rfl) | (unfold World.frozen?;rw[h];simp)
theorem QR.keep {ok:Nat→Prop} (h:QR w B sv fv) (hk:KeepW ok w w') (ho:ok B):QR w' B sv fv:=(hk.same B h.lt ho).trans h
theorem QR.set0 (h:QR w B sv fv) (v:Value):QR (w.setCell ⟨B,0,none⟩ v) B v fv:=by
 unfold QR at h ⊢;unfold World.setCell;simp only[Array.getElem?_modify,if_true,h,Option.map_some];rfl
theorem QR.set1 (h:QR w B sv fv) (v:Value):QR (w.setCell ⟨B,1,none⟩ v) B sv v:=by
 unfold QR at h ⊢;unfold World.setCell;simp only[Array.getElem?_modify,if_true,h,Option.map_some];rfl
end
def zIT (P:Nat→Prop) (w:World) (B:Nat) (q:List Sta) (first:List Int):Prop:=
 ∃sv fv,QR w B sv fv∧zA3 w sv q∧Zt 0 w fv first∧¬P B∧(∀k,sv.ownBlock=some k→¬P k∧k≠B∧fv.ownBlock≠some k)∧∀k,fv.ownBlock=some k→¬P k∧k≠B
structure kD (w:World) (v:Value) (q:List Sta) (first:List Int):Prop where
 few:q.length≤100000
 firsts:first.length≤1000
 at_:∃B sv fv,v= .pointer (some ⟨B,0,none⟩)∧w.cell? ⟨B,0,none⟩=some sv∧w.cell? ⟨B,1,none⟩=some fv∧jO (fun _=>True) w sv q.length (qT q)∧jG w fv first
theorem kD.below {w w':World} {v:Value} {q:List Sta} {first:List Int} (h:kD w v q first) (hb:Below w.heap.size w w'):kD w' v q first:=by
 obtain⟨h0,h1,B,sv,fv,hv,c0,c1,hs,hf⟩:=h;have hk:=keep_below (fun _=>True) hb;exact⟨h0,h1,B,sv,fv,hv,hk.cell c0 trivial,hk.cell c1 trivial,hs.keep hk fun _ _ h=>h,hf.below hb⟩
theorem zIT.read {P:Nat→Prop} {w:World} {B:Nat} {q:List Sta} {first:List Int} (h:zIT P w B q first) (h1:q.length≤100000) (h2:first.length≤1000):kD w (.pointer (some ⟨B,0,none⟩)) q first:=by
 obtain⟨sv,fv,hb,hs,hf,_⟩:=h;exact⟨h1,h2,B,sv,fv,rfl,hb.cells.1.1,hb.cells.1.2,(Zc hs).mono fun _ _ _=>trivial,hf.ints (by omega)⟩
theorem kD.sta {w:World} {v:Value} {q:List Sta} {first:List Int} {i:Nat} {s:Sta} (h:kD w v q first) (hi:q[i]? =some s):
  ∃B g o cap,v= .pointer (some ⟨B,0,none⟩)∧w.cell? ⟨B,0,none⟩=some (.slice (some ⟨g,o,none⟩) q.length cap)∧q.length≤cap∧∀(j:Nat) x,j<8→(staC s)[j]? =some x→w.cell? ⟨g,o+(i*8+j),none⟩=some x:=by
 obtain⟨_,_,B,sv,fv,hv,c0,_,⟨ao,cap,rfl,hn,hc⟩,_⟩:=h;obtain⟨g,o,rfl,_⟩:=hc (i*8+0) _ (by rw[Xo q i s hi 0 (by decide)];rfl);refine⟨B,g,o,cap,hv,c0,hn,fun j x hj hx=> ?_⟩;obtain⟨g',o',e,_,hg⟩:=hc (i*8+j) x (by rw[Xo q i s hi j hj];exact hx);cases e;exact hg
theorem kD.form {w:World} {v:Value} {q:List Sta} {first:List Int} (h:kD w v q first):
  ∃B ao cap fo fc,v= .pointer (some ⟨B,0,none⟩)∧w.cell? ⟨B,0,none⟩=some (.slice ao q.length cap)∧q.length≤cap∧w.cell? ⟨B,1,none⟩=some (.slice fo first.length fc)∧first.length≤fc∧jG w (.slice fo first.length fc) first:=by
 obtain⟨_,_,B,sv,fv,hv,c0,c1,⟨ao,cap,rfl,hn,hc⟩,hf⟩:=h;obtain⟨fo,fc,rfl,hfc⟩:=hf.form;exact⟨B,ao,cap,fo,fc,hv,c0,hn,c1,hfc,hf⟩
def isP (q:List Sta) (a:Int) (k:Nat):Bool:=match lookS q a with
 | none=>false
 | some s=>s.kind==k
theorem yu {q:List Sta} {a:Int} {s:Sta} (h:lookS q a=some s):0≤a∧a<q.length∧q[a.toNat]? =some s:=by
 unfold lookS at h;split at h
 ·have:=(List.getElem?_eq_some_iff.1 h).1;exact⟨by assumption,by omega,h⟩
 ·cases h
theorem look_none {q:List Sta} {a:Int} (h:lookS q a=none):¬0≤a∨0≤a∧¬a<q.length:=by
 unfold lookS at h;split at h
 ·have:=List.getElem?_eq_none_iff.1 h;exact .inr ⟨by assumption,by omega⟩
 ·exact .inl (by assumption)
theorem zG7 (a k:Int) (w:World):Calls Tryz.prog 43 #[.pointer none,.int .i64 a,.int .i64 k] w fun e w'=>e= .returned (.bool false)∧w'=w:=by
 go_enter Tryz.func43,Tryz.ntmps43;go_wp2_with fail
 go_ret
 exact⟨rfl,rfl⟩
section
variable {w:World} {v:Value} {q:List Sta} {first:List Int} {s:Sta} {a:Int}
theorem nis_out (h:kD w v q first) (k:Int) (hs:lookS q a=none):Calls Tryz.prog 43 #[v,.int .i64 a,.int .i64 k] w fun e w'=>e= .returned (.bool false)∧w'=w:=by
 obtain⟨B,ao,cap,fo,fc,rfl,c0,hn,_,_,_⟩:=h.form;rcases look_none hs with h0 | ⟨h0,h1⟩
 ·clear h hs;go_enter Tryz.func43,Tryz.ntmps43;go_wp2_with fail
  go_ret
  exact⟨rfl,rfl⟩
 ·clear h hs;go_enter Tryz.func43,Tryz.ntmps43;go_wp2_with fail
  go_ret
  exact⟨rfl,rfl⟩
theorem nis_in (h:kD w v q first) (k:Nat) (hs:lookS q a=some s):Calls Tryz.prog 43 #[v,.int .i64 a,.int .i64 (k:Int)] w fun e w'=>e= .returned (.bool (s.kind==k))∧w'=w:=by
 obtain⟨h0,h1,h2⟩:=yu hs;obtain⟨B,g,o,cap,rfl,c0,hn,hc⟩:=h.sta h2;have c1:=hc 0 _ (by decide) rfl;obtain⟨b,hb⟩:∃b,(s.kind==k)=b:=⟨_,rfl⟩;have hb2:((s.kind:Int)==(k:Int))=b:=by
  rw[←hb,Bool.eq_iff_iff,beq_iff_eq,beq_iff_eq];constructor<;>intro h<;>omega
 obtain⟨kk,hkk⟩:∃kk:Int,(s.kind:Int)=kk:=⟨_,rfl⟩;obtain⟨kj,hkj⟩:∃kj:Int,(k:Int)=kj:=⟨_,rfl⟩;rw[hkk] at hb2 c1;rw[hkj] at hb2;rw[hb,hkj];have e1:o+(a.toNat*8+0)=o+a.toNat*8:=rfl;rw[e1] at c1;clear h hs h2 hc hb hkk hkj e1;go_enter Tryz.func43,Tryz.ntmps43;go_wp2_with fail
 go_ret
 exact⟨rfl,rfl⟩
theorem Jx (h:kD w v q first) (a:Int) (k:Nat):Calls Tryz.prog 43 #[v,.int .i64 a,.int .i64 (k:Int)] w fun e w'=>e= .returned (.bool (isP q a k))∧w'=w:=by
 unfold isP;rcases hs:lookS q a with _ | s
 ·exact nis_out h k hs
 ·exact nis_in h k hs
end
end Go.Proofs.YtjeomlickkpebaaGreatDoor
