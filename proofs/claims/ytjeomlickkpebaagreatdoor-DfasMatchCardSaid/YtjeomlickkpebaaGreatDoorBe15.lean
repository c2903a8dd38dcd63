/-
  Texts of this proof, one behind the other; each begins with its own remark.
-/
import Derived.Deep.Cut
import Derived.Test.YtjeomlickkpebaaGreatDoorBe13
import Derived.Test.YtjeomlickkpebaaGreatDoorBe2
import Derived.Test.YtjeomlickkpebaaGreatDoorBe14
import Derived.Test.YtjeomlickkpebaaGreatDoorBe11
import Derived.Test.YtjeomlickkpebaaGreatDoorBe5
namespace Go.Proofs.YtjeomlickkpebaaGreatDoor
open Go.RowKit
abbrev Col:=Nat→Nat
def Fresh0 (c:Col) (w:World):Prop:=∀k,w.heap.size≤k→c k=0
structure StepC (S:Nat→Prop) (c c':Col) (w w':World):Prop where
 keep:KeepW (fun k=>¬S (c k)) w w'
 same:∀k,k<w.heap.size→c' k=c k
 fresh:Fresh0 c' w'
section
variable {S S':Nat→Prop} {c c' c'':Col} {w w' w'':World} {A B:Nat} {T:TypeId} {v:Value} {us:List Value}
theorem Fresh0.below (h:Fresh0 c w) (hb:Below w.heap.size w w'):Fresh0 c w':=fun k hk=>h k (Nat.le_trans hb.size hk)
theorem StepC.below (hf:Fresh0 c w) (hb:Below w.heap.size w w'):StepC S c c w w':=⟨keep_below _ hb,fun _ _=>rfl,hf.below hb⟩
theorem StepC.trans (h:StepC S c c' w w') (g:StepC S c' c'' w' w''):StepC S c c'' w w'' where
 keep:=⟨g.keep.os.trans h.keep.os,g.keep.tape.trans h.keep.tape,g.keep.output.trans h.keep.output,Nat.le_trans h.keep.size g.keep.size,fun k hk ho=>
  (g.keep.same k (Nat.lt_of_lt_of_le hk h.keep.size) (by rw[h.same k hk];exact ho)).trans (h.keep.same k hk ho)⟩
 same:=fun k hk=>(g.same k (Nat.lt_of_lt_of_le hk h.keep.size)).trans (h.same k hk)
 fresh:=g.fresh
theorem StepC.mono (h:StepC S c c' w w') (hm:∀a,S a→S' a):StepC S' c c' w w':=⟨h.keep.mono fun _ _ hk hs=>hk (hm _ hs),h.same,h.fresh⟩
theorem StepC.under {n:Nat} (h:StepC S c c' w w') {w0:World} (hb:Below n w0 w) (hn:n≤w.heap.size) (hc:∀k,k<n→¬S (c k)):Below n w0 w':=KeepW.below hb h.keep hn hc
structure RowC (c:Col) (A:Nat) (T:TypeId) (w:World) (v:Value) (us:List Value):Prop where
 own:w.ownsRow 0 T 1 v us.length us
 col:∀k,v.ownBlock=some k→c k=A
theorem RowC.nil (c:Col) (A:Nat) (T:TypeId) (w:World):RowC c A T w (.slice none 0 0) []:=⟨World.ownsRow_nil _ _ _ _,fun k e=>by cases e⟩
theorem RowC.lt (h:RowC c A T w v us):∀k,v.ownBlock=some k→k<w.heap.size:=fun k e=>(World.ownsRow.lt h.own k e).2
theorem RowC.step (h:RowC c A T w v us) (hs:StepC S c c' w w') (hA:¬S A):RowC c' A T w' v us:=
 ⟨ownRow_keep h.own hs.keep fun k e=>by rw[h.col k e];exact hA,fun k e=>by rw[hs.same k (h.lt k e)];exact h.col k e⟩
theorem RowC.form (h:RowC c A T w v us):∃ao cap,v= .slice ao us.length cap∧us.length≤cap:=by
 obtain⟨ao,cap,hv,hn,_⟩:=ownZ h.own;exact⟨ao,cap,hv,hn⟩
theorem RowC.rowZ (h:RowC c A T w v us):RowZ (fun k=>c k=A) w v us.length us:=by
 obtain⟨hl,⟨rfl,h0⟩ | ⟨g,cap,cur,rfl,h3,hg,hn,_,_,hx⟩⟩:=h.own
 ·have:us= []:=List.eq_nil_of_length_eq_zero h0;subst this;exact RowZ.nil _ _
 ·refine⟨_,cap,rfl,hn,fun j u hu=>⟨g,0,rfl,h.col g rfl,?_⟩⟩;rw[Nat.zero_add,cell_of_row _ _ _ cur T (0,0) hg];rw[←hx,List.getElem?_take] at hu;split at hu
  ·rw[←Array.getElem?_toList];exact hu
  ·cases hu
theorem RowC.push {z:Value} {b X:Nat} {u:Value} (hf:Fresh0 c w) (h:RowC c A T w v us) (t ty:TypeId) (ht:Tryz.prog.underlying t=some (.slice T)) (hi:(Tryz.prog.info? T).map (fun i=>(i.zero,i.size,i.bytes))=some (some z,1,b)) (hz:z.cells.size=1) (hb:b≤1000)
  (hX:w.cell? ⟨X,0,none⟩=some u) (hu:u.oneCell'=true) (hs:us.length≤100000):
  ∃ao cap w' c',(Builtin.append_ #[t,t] ty #[v,.slice (some ⟨X,0,none⟩) 1 1]).run Tryz.prog w= .ok (.slice ao (us.length+1) cap) w'∧RowC c' A T w' (.slice ao (us.length+1) cap) (us++ [u])∧StepC (fun a=>a=A) c c' w w':=by
 obtain⟨i0,hi1,hz0,hz1,hz2⟩:=info_of hi;have hn:∀(j:Nat) (x:Value),[u][j]? =some x→w.cell? ((⟨X,0,none⟩:Addr).add j)=some x:=fun j x hx=>by
  have hj:=(List.getElem?_eq_some_iff.1 hx).1;have:j=0:=by simpa using hj
  subst this;rw[rlit];simp at hx;rw[←hx];exact hX
 obtain⟨v',w',hr,hown',hgr,_,hat⟩:=run_append_own_at (P:=Tryz.prog) w 0 t ty T i0 z 1 b ht hi1 hz0 hz1 hz2 hz (by decide) v us.length us h.own ⟨X,0,none⟩ 1 1 [u] rfl hn (fun x hx=>by rw[List.mem_singleton.1 hx];exact hu) (by unfold maxLen;omega) (by
  have:(us.length+1)*b≤100001*1000:=Nat.mul_le_mul (by omega) hb;omega) (Nat.zero_le _)
 have hkeep:KeepW (fun k=>¬c k=A) w w':=⟨hgr.os,hgr.tape,hgr.output,hgr.size,fun k hk hne=>hgr.block k hk fun e=>hne (h.col k (by rw[←e]))⟩;have hlen:(us++ [u]).length=us.length+1:=by rw[List.length_append];rfl
 obtain⟨ao,cap,rfl,_⟩:=ownZ hown';refine⟨ao,cap,w',fun k=>if k=w.heap.size∧(Value.slice ao (us.length+1) cap).ownBlock=some k then A else c k,hr,⟨by rw[hlen];exact hown',fun k e=> ?_⟩,hkeep,fun k hk=>if_neg (by omega),fun k hk=> ?_⟩
 ·rcases hat with hat | hat
  ·have h2:=h.col k (by rw[←hat];exact e);have h3:=h.lt k (by rw[←hat];exact e);rw[if_neg (by omega)];exact h2
  ·have:k=w.heap.size:=(by rw[hat] at e;exact (Option.some.inj e).symm);exact if_pos ⟨this,e⟩
 ·rw[if_neg]
  ·exact hf k (Nat.le_trans hgr.size hk)
  ·rintro⟨rfl,e⟩;have:=(World.ownsRow.lt hown' _ e).2;omega
def pale (c:Col) (A:Nat):Col:=fun k=>if c k=A then 0 else c k
theorem pale_zero {k:Nat} (h:c k=0):pale c A k=0:=by unfold pale;split<;>simp[h]
theorem pale_other {k:Nat} (h:c k=B) (hB:B≠A):pale c A k=B:=by unfold pale;rw[if_neg (by omega)];exact h
theorem Fresh0.pale (h:Fresh0 c w):Fresh0 (pale c A) w:=fun k hk=>pale_zero (h k hk)
theorem RowC.pale (h:RowC c B T w v us) (hB:B≠A):RowC (pale c A) B T w v us:=⟨h.own,fun k e=>pale_other (h.col k e) hB⟩
def BolC (c:Col) (w:World) (v:Value) (m:Nat) (f:Nat→Bool):Prop:=BolO (fun k=>c k≠0) w v m f
variable {m:Nat} {f:Nat→Bool}
theorem BolC.step (h:BolC c w v m f) (hs:StepC S c c' w w') (h0:¬S 0):BolC c' w' v m f:=
 BolO.go h ⟨hs.keep.mono fun k _ hk e=>by
  have:c k=0:=Classical.byContradiction hk;rw[this] at e;exact h0 e,fun k e=>by
  by_cases hk:k<w.heap.size
  ·left;rw[←hs.same k hk];exact e
  ·right;omega⟩
def CelC (c:Col) (w:World) (v:Value) (cs:List Value):Prop:=RowZ (fun k=>c k=0) w v cs.length cs
theorem CelC.step {cs:List Value} (h:CelC c w v cs) (hs:StepC S c c' w w') (h0:¬S 0):CelC c' w' v cs:=by
 obtain⟨ao,cap,hv,hn,hc⟩:=h;refine⟨ao,cap,hv,hn,fun j u hu=> ?_⟩;obtain⟨g,o,ha,ho,hg⟩:=hc j u hu;exact⟨g,o,ha,by show c' g=0;rw[hs.same g (rlt hg)];exact ho,hs.keep.cell hg (by rw[ho];exact h0)⟩
theorem CelC.pale {cs:List Value} (h:CelC c w v cs):CelC (pale c A) w v cs:=RowZ.mono h fun _ _ e=>pale_zero e
theorem CelC.read {cs:List Value} (h:CelC c w v cs):RowZ (fun _=>True) w v cs.length cs:=RowZ.mono h fun _ _ _=>trivial
end
end Go.Proofs.YtjeomlickkpebaaGreatDoor
namespace Go.Proofs.YtjeomlickkpebaaGreatDoor
open Go.RowKit
structure BuF (P:Nat→Prop) (w0 w:World) (B b:Nat) (n:Nd) (u:Value) (q:List Sta) (first:List Int) (fv:Value):Prop where
 e:NfaE (fun k=>P k∨k=b) w B q first fv
 x:boxN 116 w b n.kind n.set u
 ks:KidsW P w n.kids u
 kp:KeepW P w0 w
 at_:b=w0.heap.size
 new:∀k,w0.heap.size≤k→¬P k
section
variable {P:Nat→Prop} {w0 w w':World} {B b:Nat} {n:Nd} {u:Value} {q q':List Sta} {first:List Int} {fv:Value}
theorem BuF.start (h:NfaE P w0 B q first fv) (hP:∀k,w0.heap.size≤k→¬P k) (hu:KidsW P w0 n.kids u):
  BuF P w0 (w0.alloc (.cells #[.int .i64 n.kind,.int .u64 (n.set.1:Int),.int .u64 (n.set.2.1:Int),.int .u64 (n.set.2.2.1:Int),.int .u64 (n.set.2.2.2:Int),u] 116)) B w0.heap.size n u q first fv:=
 have hb:=alloc_under w0 (.cells #[.int .i64 n.kind,.int .u64 (n.set.1:Int),.int .u64 (n.set.2.1:Int),.int .u64 (n.set.2.2.1:Int),.int .u64 (n.set.2.2.2:Int),u] 116)
 ⟨h.also hb,boxN.new _ _ _ _ _,hu.under hb,keep_below _ hb,rfl,hP⟩
theorem BuF.newP (h:BuF P w0 w B b n u q first fv):∀k,w.heap.size≤k→¬(P k∨k=b):=fun k hk hp=>by
 have h1:=h.kp.size;have h2:=h.x.lt;rcases hp with hp | hp
 ·exact h.new k (by omega) hp
 ·omega
theorem BuF.go (h:BuF P w0 w B b n u q first fv) (he:NfaE (fun k=>P k∨k=b) w' B q' first fv) (hk:KeepW (fun k=>P k∨k=b) w w'):BuF P w0 w' B b n u q' first fv:=
 ⟨he,h.x.keep hk (.inr rfl),h.ks.keep hk fun _ _ hp=> .inl hp,h.kp.trans (hk.mono fun _ _ hp=> .inl hp),h.at_,h.new⟩
theorem BuF.under (h:BuF P w0 w B b n u q first fv) (hb:Below w.heap.size w w'):BuF P w0 w' B b n u q first fv:=h.go (h.e.under hb) (keep_below _ hb)
theorem BuF.fin (h:BuF P w0 w B b n u q first fv):NfaE P w B q first fv∧KeepW P w0 w:=⟨h.e.mono fun _ hp=> .inl hp,h.kp⟩
theorem BuF.kid {i:Nat} {m:Nd} (h:BuF P w0 w B b n u q first fv) (hi:n.kids[i]? =some m):
  ∃g o cap ku kl kc,u= .slice (some ⟨g,o,none⟩) n.kids.length cap∧n.kids.length≤cap∧ku= .slice kl m.kids.length kc∧NodeW (fun k=>P k∨k=b) w m (nodeV m ku)∧OkR m.set∧KidsW P w m.kids ku∧∀(j:Nat) x,j<6→(nodeC m ku)[j]? =some x→w.cell? ⟨g,o+(i*6+j),none⟩=some x:=by
 obtain⟨g,o,cap,ku,hv,hn,hs,hk,hc⟩:=h.ks.at_ hi;obtain⟨kl,kc,hku,_⟩:=hk.form;exact⟨g,o,cap,ku,kl,kc,hv,hn,hku,⟨hs,ku,rfl,hk.mono fun k _ hp=> .inl hp⟩,hs,hk,hc⟩
def BuildsW (n:Nd):Prop:=∀(P:Nat→Prop) (w:World) (B:Nat) (q:List Sta) (first:List Int) (fv:Value) (next:Nat) (x:Value),NfaE P w B q first fv→(∀k,w.heap.size≤k→¬P k)→NodeW P w n x→q.length+2*wtR n≤100000 →
 Calls Tryz.prog 53 #[.pointer (some ⟨B,0,none⟩),x,.int .i64 (next:Int)] w fun e w'=>e= .returned (.int .i64 ((buildT n q next).2:Int))∧NfaE P w' B (buildT n q next).1 first fv∧KeepW P w w'
theorem NfaE.also6 {i v:Nat} (h:NfaE P w B q first fv) (hi:i<q.length):
  ∃g cap,w.cell? ⟨B,0,none⟩=some (.slice (some ⟨g,0,none⟩) q.length cap)∧q.length≤cap∧(∃y,w.cell? ⟨g,i*8+6,none⟩=some y)∧w.frozen? ⟨g,i*8+6,none⟩=false∧g<w.heap.size∧NfaE P (w.setCell ⟨g,i*8+6,none⟩ (.int .i64 (v:Int))) B (alsoS q i v) first fv∧KeepW P w (w.setCell ⟨g,i*8+6,none⟩ (.int .i64 (v:Int))):=by
 obtain⟨sv,h⟩:=h;have hs:=h.s;obtain⟨h1,⟨rfl,h0⟩ | ⟨g,cap,cur,rfl,h3,h4,hn,hm,hcs,hx⟩⟩:=hs
 ·omega
 have hset:=h.s.stored (i*8+6) (.int .i64 (v:Int));have hgs:=h.ns g rfl;have hk:KeepW (fun k=>k≠g) w (w.setCell ⟨g,i*8+6,none⟩ (.int .i64 (v:Int))):=keep_set g _ none _ w fun h=>h rfl;refine⟨g,cap,h.b.cells.1.1,hn,⟨(stasC q)[i*8+6]'(by rw[stasC_len];omega),?_⟩,h.s.frozenAt _,(World.ownsRow.lt h.s g rfl).2,⟨_,⟨h.b.keep hk fun e=>hgs.2.1 e.symm,?_,h.f.keep hk fun k e e2=>hgs.2.2 (by rw[←e2];exact e),h.nb,h.ns,h.nf⟩⟩,hk.mono fun k _ hp e=>hgs.1 (by rw[←e];exact hp)⟩
 ·rw[h.s.cellAt _ (by omega)];exact List.getElem?_eq_getElem _
 ·unfold OwnS;rw[also_len,stasC_also q i v hi];exact hset.1
set_option maxHeartbeats 2000000 in
theorem nloop_any (hB:BuildsW n) (h:NfaE P w B q first fv) (hP:∀k,w.heap.size≤k→¬P k) (next:Nat) (x:Value) (hx:NodeW P w n x) (hlen:q.length+2*wtR n+1≤100000):
  Calls Tryz.prog 71 #[.pointer (some ⟨B,0,none⟩),x,.int .i64 (next:Int)] w fun e w'=>e= .returned (.tuple #[.int .i64 (q.length:Int),.int .i64 ((buildT n (q++ [forkS next next]) q.length).2:Int)])∧NfaE P w' B (alsoS (buildT n (q++ [forkS next next]) q.length).1 q.length (buildT n (q++ [forkS next next]) q.length).2) first fv∧KeepW P w w':=by
 obtain⟨hs,u,rfl,hu⟩:=hx;obtain⟨uo,uc,rfl,hul,hub⟩:=hu.form;have hlq:(q++ [forkS next next]).length=q.length+1:=by rw[List.length_append];rfl
 have h0:=BuF.start h hP hu;have H1:=qh (nfork_any h0.e h0.newP next next (by omega));have hge:=(build_len n (q++ [forkS next next]) q.length);have HS:=qh (fun (W W':World) (e:NfaE (fun k=>P k∨k=w.heap.size) W B (q++ [forkS next next]) first fv) (k:KeepW (fun k=>P k∨k=w.heap.size) (w.alloc (.cells #[.int .i64 n.kind,.int .u64 (n.set.1:Int),.int .u64 (n.set.2.1:Int),.int .u64 (n.set.2.2.1:Int),.int .u64 (n.set.2.2.2:Int),.slice uo n.kids.length uc] 116)) W)=>h0.go e k);have H2:=qh (fun (W:World) (hh:BuF P w W B w.heap.size n (.slice uo n.kids.length uc) (q++ [forkS next next]) first fv)=>
  hB (fun k=>P k∨k=w.heap.size) W B (q++ [forkS next next]) first fv q.length (nodeV n (.slice uo n.kids.length uc)) hh.e hh.newP ⟨hs,_,rfl,hh.ks.mono fun k _ hp=> .inl hp⟩ (by omega))
 have hlt:q.length<(buildT n (q++ [forkS next next]) q.length).1.length:=by
  have:(q++ [forkS next next]).length≤(buildT n (q++ [forkS next next]) q.length).1.length:=build_ge n _ _;omega
 unfold nodeV at H2 ⊢;obtain⟨⟨q2,a⟩,hq2⟩:∃r,buildT n (q++ [forkS next next]) q.length=r:=⟨_,rfl⟩;rw[hq2] at H2 hlt ⊢;simp only at H2 hlt ⊢;obtain⟨m,hm⟩:∃m,q.length=m:=⟨_,rfl⟩;have hml:(m:Int)≤100000:=by omega
 have hm0:(0:Int)≤(m:Int):=by omega
 have HL:=qh hlt;rw[hm] at H1 H2 HL hlt ⊢;have hlti:(m:Int)<(q2.length:Int):=by omega
 have hX:=(boxN.new 116 w n.kind n.set (.slice uo n.kids.length uc));have HX:=qh (fun (W:World) (hh:BuF P w W B w.heap.size n (.slice uo n.kids.length uc) (q++ [forkS next next]) first fv)=>hh.x.cells);have HXL:=qh (fun (W:World) (hh:BuF P w W B w.heap.size n (.slice uo n.kids.length uc) (q++ [forkS next next]) first fv)=>hh.x.lt);clear h hP hB hu h0 hge hq2 hm hlq hX hs hlt;go_enter Tryz.func71,Tryz.ntmps71;go_wp2_with fail
 go_fit H1.out;rintro e w1 ⟨rfl,he1,hk1⟩;have H3:=qh (HS.out w1 w1 he1 hk1);clear he1 hk1 HS H1;obtain⟨⟨c0,c1,c2,c3,c4,c5⟩,_⟩:=HX.out _ H3.out;have hxl:=HXL.out _ H3.out;go_wp2_with fail
 go_fit (H2.out _ H3.out);rintro e w2 ⟨rfl,he2,hk2⟩;have H4:=qh (H3.out.go he2 hk2);clear he2 hk2 c0 c1 c2 c3 c4 c5 hxl;obtain⟨g,cap,d0,hcap,⟨y,d1⟩,d2,d3,he5,hk5⟩:=H4.out.e.also6 (v:=a) HL.out;have H5:=qh (H4.out.go he5 hk5).fin;have hqc:(q2.length:Int)≤(cap:Int):=by omega
 clear he5 hk5;go_wp2_with fail
 go_ret2
 exact⟨rfl,H5.out⟩
end
end Go.Proofs.YtjeomlickkpebaaGreatDoor
namespace Go.Proofs.YtjeomlickkpebaaGreatDoor
open Go.RowKit
section
variable {o1 o2:Nat→Prop} {w:World} {u v:Value} {m:Nat} {f g:Nat→Bool}
set_option maxRecDepth 4000 in
set_option maxHeartbeats 4000000 in
theorem rorM_any (hu:BolO o1 w u m f) (hv:BolO o2 w v m g) (hm:m≤100000):
  Calls Tryz.prog 60 #[u,v] w fun e w'=>∃G,e= .returned (.slice (some ⟨G,0,none⟩) m m)∧w.heap.size≤G∧(∃M,blkM w' G M∧M.length=m∧∀j,j<m→M.getD j false=orF f g j)∧Below w.heap.size w w':=by
 have HU:=qh (fun (W:World) (hb:Below w.heap.size w W)=>And.intro (hu.under hb) (hv.under hb));obtain⟨hm0,gu,cu,rfl,hcu,_,_⟩:=hu;obtain⟨_,gv,cv,rfl,hcv,_,_⟩:=hv;have hmk:=nmake m (by omega) w;have H0:Hid (OrW w (w.alloc (.cells (boolC (noneB m)).toArray 4)) w.heap.size m 0 (orF f g)):=qh ⟨⟨noneB m,blkM_new w m,noneB_len m,fun j hj=>by omega⟩,alloc_under _ _,rfl⟩;clear hm0;go_enter Tryz.func60,Tryz.ntmps60;go_wp2_with fail
 obtain⟨W1,hW1⟩:∃W1,w.alloc (.cells (boolC (noneB m)).toArray 4)=W1:=⟨_,rfl⟩;(try rw[hW1]);rw[hW1] at H0;obtain⟨G,hG⟩:∃G,w.heap.size=G:=⟨_,rfl⟩;(try rw[hG]);rw[hG] at H0;have HG:=qh hG;clear hW1 hmk hG;go_loopw [6] (fun s6 wr=>∃i:Nat,s6= .int .i64 (i:Int)∧i≤m∧Hid (OrW w wr G m i (orF f g))) (fun s6 _=>m-(intOf s6).toNat)
 case atStart=>exact⟨0,rfl,Nat.zero_le _,H0⟩
 case round=>
  obtain⟨i,rfl,hi,HQ⟩:=hrel;clear H0;have i0:(0:Int)≤(i:Int):=by omega
  have ib:(i:Int)≤100000:=by omega
  by_cases hlt:i<m
  ·have hli:(i:Int)<(m:Int):=(by omega);obtain⟨hu2,hv2⟩:=HU.out wr HQ.out.b;obtain⟨_,gu',cu',hue,_,_,huc⟩:=hu2;injection hue with e1 e2 e3
   injection e1 with e1
   injection e1 with e1
   subst e1;obtain⟨_,gv',cv',hve,_,_,hvc⟩:=hv2;injection hve with e4 e5 e6
   injection e4 with e4
   injection e4 with e4
   subst e4;have x0:=huc i hlt;have x1:=hvc i hlt;clear e2 e3 e5 e6 huc hvc;obtain⟨⟨y,y0⟩,y1,y2,hst⟩:=HQ.out.store hlt _ rfl;have HS:=qh hst;unfold orF at HS;obtain⟨a,ha⟩:∃a,f i=a:=⟨_,rfl⟩;obtain⟨b,hb⟩:∃b,g i=b:=⟨_,rfl⟩;rw[ha] at x0;rw[hb] at x1;rw[ha,hb] at HS;clear hst ha hb;cases a with
   | true=>
    rw[Bool.true_or] at HS;go_wp2_with fail
    go_roundw
    case rel=>exact⟨i+1,by go_num,hlt,HS⟩
    case measure=>simp[intOf]<;>omega
   | false=>
    rw[Bool.false_or] at HS;go_wp2_with fail
    go_roundw
    case rel=>exact⟨i+1,by go_num,hlt,HS⟩
    case measure=>simp[intOf]<;>omega
  ·have hli:¬(i:Int)<(m:Int):=(by omega);have him:i=m:=(by omega);have HF:=qh (show w.heap.size≤G∧(∃M,blkM wr G M∧M.length=m∧∀j,j<m→M.getD j false=orF f g j)∧Below w.heap.size w wr from by
    obtain⟨⟨M,h1,h2,h3⟩,h4,_⟩:=HQ.out;exact⟨by rw[HG.out];exact Nat.le_refl _,⟨M,h1,h2,fun j hj=>h3 j (by omega)⟩,h4⟩)
   clear HQ him;go_wp2_with fail
   go_ret
   exact⟨G,rfl,HF.out⟩
end
abbrev BolR:World→Value→Nat→(Nat→Bool)→Prop:=BolO fun _=>False
theorem BolO.read {own:Nat→Prop} {w:World} {v:Value} {m:Nat} {f:Nat→Bool} (h:BolO own w v m f):BolR w v m f:=h.mono fun _ _ e=>e.elim
theorem BolR.below {w w':World} {v:Value} {m:Nat} {f:Nat→Bool} (h:BolR w v m f) (hb:Below w.heap.size w w'):BolR w' v m f:=BolO.under h hb
structure RuO (old:Nat→Prop) (w:World) (v:Value) (r:RuN):Prop where
 pos:0<r.m
 few:r.m≤1000
 len:r.sets.length=r.m
 at_:∃R sv bv lv,v= .pointer (some ⟨R,0,none⟩)∧w.cell? ⟨R,0,none⟩=some sv∧w.cell? ⟨R,1,none⟩=some bv∧w.cell? ⟨R,2,none⟩=some lv∧RowZ (fun k=>¬old k) w sv r.m (setsC r.sets)∧BolO old w lv r.m r.last ∧
  (∃g cap,bv= .slice (some ⟨g,0,none⟩) r.m cap∧r.m≤cap∧¬old g∧∀k,k<r.m→∃u,w.cell? ⟨g,k,none⟩=some u∧BolO old w u r.m (r.behind k))∧¬old R
abbrev RuR:World→Value→RuN→Prop:=RuO fun _=>False
theorem RuO.keep {old:Nat→Prop} {w w':World} {v:Value} {r:RuN} (h:RuO old w v r) (hk:KeepW (fun k=>¬old k) w w'):RuO old w' v r:=by
 obtain⟨h1,h2,h3,R,sv,bv,lv,hv,c0,c1,c2,hs,hl,⟨g,cap,hbv,hc,hg,hr⟩,hR⟩:=h;have hgo:Gone old old w w':=⟨hk,fun _ e=> .inl e⟩;refine⟨h1,h2,h3,R,sv,bv,lv,hv,hk.cell c0 hR,hk.cell c1 hR,hk.cell c2 hR,hs.keep hk fun _ _ h=>h,hl.go hgo,⟨g,cap,hbv,hc,hg,fun k hk2=> ?_⟩,hR⟩;obtain⟨u,h4,h5⟩:=hr k hk2;exact⟨u,hk.cell h4 hg,h5.go hgo⟩
theorem RuO.mono {old old2:Nat→Prop} {w:World} {v:Value} {r:RuN} (h:RuO old w v r) (hm:∀k,k<w.heap.size→old2 k→old k):RuO old2 w v r:=by
 obtain⟨h1,h2,h3,R,sv,bv,lv,hv,c0,c1,c2,hs,hl,⟨g,cap,hbv,hc,hg,hr⟩,hR⟩:=h;obtain⟨u0,h4,_⟩:=hr 0 h1;refine⟨h1,h2,h3,R,sv,bv,lv,hv,c0,c1,c2,hs.mono fun k hk ho e=>ho (hm k hk e),hl.mono hm,⟨g,cap,hbv,hc,fun e=>hg (hm g (rlt h4) e),fun k hk2=> ?_⟩,fun e=>hR (hm R (rlt c0) e)⟩;obtain⟨u,h5,h6⟩:=hr k hk2;exact⟨u,h5,h6.mono hm⟩
theorem RuO.read {old:Nat→Prop} {w:World} {v:Value} {r:RuN} (h:RuO old w v r):RuR w v r:=h.mono fun _ _ e=>e.elim
theorem RuO.below {old:Nat→Prop} {w w':World} {v:Value} {r:RuN} (h:RuO old w v r) (hb:Below w.heap.size w w'):RuO old w' v r:=h.keep (keep_below _ hb)
section
variable {w:World} {v u:Value} {r:RuN} {f:Nat→Bool} {m:Nat}
set_option maxHeartbeats 2000000 in
theorem rstart_new (h:RuR w v r):
  Calls Tryz.prog 38 #[v] w fun e w'=>∃G,e= .returned (.slice (some ⟨G,0,none⟩) r.m r.m)∧BolO (fun k=>k<w.heap.size) w' (.slice (some ⟨G,0,none⟩) r.m r.m) r.m startG∧Below w.heap.size w w':=by
 obtain⟨hpos,hfew,_,R,sv,bv,lv,hv,c0,_,_,⟨so,sc,hsv,hsc,_⟩,_,_⟩:=h;subst hv hsv;obtain⟨m,hm⟩:∃m,r.m=m:=⟨_,rfl⟩;rw[hm] at hpos hfew c0 hsc ⊢;have hmk:=nmake m (by omega) w;have hmi:(0:Int)<(m:Int):=by omega
 have hb1:=alloc_under w (.cells (boolC (noneB m)).toArray 4);have hB:=blkM_new w m;clear hm;obtain⟨W1,hW1⟩:∃W1,w.alloc (.cells (boolC (noneB m)).toArray 4)=W1:=⟨_,rfl⟩;have x0:∃y,W1.cell? ⟨w.heap.size,0,none⟩=some y:=⟨_,by rw[←hW1];exact hB.at_ (by rw[noneB_len];omega) false⟩;obtain⟨y,x0⟩:=x0;have x1:=hB.frozen 0;have x2:=hB.lt;rw[hW1] at x1 x2 hb1;have hk:KeepW (fun k=>k≠w.heap.size) W1 (W1.setCell ⟨w.heap.size,0,none⟩ (.bool true)):=keep_set _ 0 none _ W1 fun h=>h rfl;have HF:=qh (show BolO (fun k=>k<w.heap.size) (W1.setCell ⟨w.heap.size,0,none⟩ (.bool true)) (.slice (some ⟨w.heap.size,0,none⟩) m m) m startG∧Below w.heap.size w (W1.setCell ⟨w.heap.size,0,none⟩ (.bool true)) from by
  refine⟨BolO.of_blk (l:=(noneB m).set 0 true) ?_ (by rw[List.length_set,noneB_len]) hpos (fun e=>Nat.lt_irrefl _ e) fun i hi=> ?_,KeepW.below hb1 hk hb1.size fun k hk=>by omega⟩
  ·have h1:=hB.set 0 true;rw[hW1] at h1;exact h1
  ·rw[getD_set (by rw[noneB_len];omega),noneB_get];unfold startG oneF;split
   ·rename_i e;subst e;rfl
   ·rename_i e;simp[e])
 clear hb1 hB hk;go_enter Tryz.func38,Tryz.ntmps38;go_upto_region 2 with (fail)
 (try rw[hW1]);clear hW1 hmk;go_wp2_with fail
 go_ret
 exact⟨_,rfl,HF.out⟩
theorem rstart_any (h:RuR w v r):
  Calls Tryz.prog 38 #[v] w fun e w'=>∃G,e= .returned (.slice (some ⟨G,0,none⟩) r.m r.m)∧BolR w' (.slice (some ⟨G,0,none⟩) r.m r.m) r.m startG∧Below w.heap.size w w':=
 (rstart_new h).mono fun _ _ ⟨G,h1,h2,h3⟩=>⟨G,h1,h2.read,h3⟩
theorem rany_any (h:BolR w u m f) (hm:m≤100000):Calls Tryz.prog 39 #[u] w fun e w'=>e= .returned (.bool (anyF f m))∧w'=w:=by
 obtain⟨h0,g,cap,rfl,hc,_,hx⟩:=h;have HX:=qh hx;clear hx h0;go_enter Tryz.func39,Tryz.ntmps39;go_wp2_with fail
 go_loop [3] (fun s3=>∃i:Nat,s3= .int .i64 (i:Int)∧i≤m∧Hid (anyF f i=false)) (fun s3=>m-(intOf s3).toNat)
 case atStart=>exact⟨0,rfl,Nat.zero_le _,rfl⟩
 case round=>
  obtain⟨i,rfl,hi,HA⟩:=hrel;have i0:(0:Int)≤(i:Int):=by omega
  have ib:(i:Int)≤100000:=by omega
  by_cases hlt:i<m
  ·have hli:(i:Int)<(m:Int):=(by omega);have x0:=HX.out i hlt;rcases hf:f i with _ | _
   ·rw[hf] at x0;have HA2:Hid (anyF f (i+1)=false):=qh (by rw[anyF,HA.out,hf];rfl);clear hf;go_wp2_with fail
    go_round
    case rel=>exact⟨i+1,by go_num,hlt,HA2⟩
    case measure=>simp[intOf]<;>omega
   ·rw[hf] at x0;have HF:Hid (anyF f m=true):=qh ((any_iff f m).2 ⟨i,hlt,hf⟩);clear hf;go_wp2_with fail
    go_ret
    exact⟨by rw[HF.out];rfl,rfl⟩
  ·have hli:¬(i:Int)<(m:Int):=(by omega);have him:i=m:=(by omega);have HF:Hid (anyF f m=false):=qh (by rw[←him];exact HA.out);clear him;go_wp2_with fail
   go_ret
   exact⟨by rw[HF.out];rfl,rfl⟩
set_option maxHeartbeats 2000000 in
theorem rends_any (h:RuR w v r) (hu:BolR w u r.m f):Calls Tryz.prog 40 #[v,u] w fun e w'=>e= .returned (.bool (endsG r f))∧w'=w:=by
 obtain⟨hpos,hfew,_,R,sv,bv,lv,hv,_,_,c2,_,⟨_,gl,cl,rfl,hcl,_,hlx⟩,_⟩:=h;obtain⟨_,g,cap,rfl,hc,_,hx⟩:=hu;have HX:=qh hx;have HL:=qh hlx;subst hv;unfold endsG;obtain⟨m,hm⟩:∃m,r.m=m:=⟨_,rfl⟩;rw[hm] at hfew c2 hcl hc HX HL ⊢;clear hx hlx hpos hm;go_enter Tryz.func40,Tryz.ntmps40;go_wp2_with fail
 go_loop [5] (fun s5=>∃i:Nat,s5= .int .i64 (i:Int)∧i≤m∧Hid (anyF (fun p=>f p&&r.last p) i=false)) (fun s5=>m-(intOf s5).toNat)
 case atStart=>exact⟨0,rfl,Nat.zero_le _,rfl⟩
 case round=>
  obtain⟨i,rfl,hi,HA⟩:=hrel;have i0:(0:Int)≤(i:Int):=by omega
  have ib:(i:Int)≤1000:=by omega
  by_cases hlt:i<m
  ·have hli:(i:Int)<(m:Int):=(by omega);have x0:=HX.out i hlt;have x1:=HL.out i hlt;rcases hf:f i with _ | _
   ·rw[hf] at x0;have HA2:Hid (anyF (fun p=>f p&&r.last p) (i+1)=false):=qh (by rw[anyF,HA.out,hf];rfl);clear hf;go_wp2_with fail
    go_round
    case rel=>exact⟨i+1,by go_num,hlt,HA2⟩
    case measure=>simp[intOf]<;>omega
   ·rw[hf] at x0;rcases hg:r.last i with _ | _
    ·rw[hg] at x1;have HA2:Hid (anyF (fun p=>f p&&r.last p) (i+1)=false):=qh (by rw[anyF,HA.out,hf,hg];rfl);clear hf hg;go_wp2_with fail
     go_round
     case rel=>exact⟨i+1,by go_num,hlt,HA2⟩
     case measure=>simp[intOf]<;>omega
    ·rw[hg] at x1;have HF:Hid (anyF (fun p=>f p&&r.last p) m=true):=qh ((any_iff _ m).2 ⟨i,hlt,by rw[hf,hg];rfl⟩);clear hf hg;go_wp2_with fail
     go_ret
     exact⟨by rw[HF.out];rfl,rfl⟩
  ·have hli:¬(i:Int)<(m:Int):=(by omega);have him:i=m:=(by omega);have HF:Hid (anyF (fun p=>f p&&r.last p) m=false):=qh (by rw[←him];exact HA.out);clear him;go_wp2_with fail
   go_ret
   exact⟨by rw[HF.out];rfl,rfl⟩
end
end Go.Proofs.YtjeomlickkpebaaGreatDoor
namespace Go.Proofs.YtjeomlickkpebaaGreatDoor
open Go.RowKit
structure OutG (w0 w:World) (G m:Nat) (h:Nat→Bool):Prop where
 m:∃M,blkM w G M∧M.length=m∧∀j,j<m→M.getD j false=h j
 b:Below w0.heap.size w0 w
 g:w0.heap.size≤G
section
variable {w0 w w':World} {G m i:Nat} {h:Nat→Bool}
theorem OutG.row (hW:OutG w0 w G m h) (hm:0<m):BolR w (.slice (some ⟨G,0,none⟩) m m) m h:=by
 obtain⟨⟨M,h1,h2,h3⟩,_,_⟩:=hW;exact BolO.of_blk h1 h2 hm (fun e=>e) h3
theorem OutG.rowN (hW:OutG w0 w G m h) (hm:0<m):BolO (fun k=>k<w0.heap.size) w (.slice (some ⟨G,0,none⟩) m m) m h:=by
 obtain⟨⟨M,h1,h2,h3⟩,_,hG⟩:=hW;exact BolO.of_blk h1 h2 hm (fun e=>by omega) h3
theorem OutG.under (hW:OutG w0 w G m h) (hb:Below w.heap.size w w'):OutG w0 w' G m h:=by
 obtain⟨⟨M,h1,h2,h3⟩,h4,h5⟩:=hW;exact⟨⟨M,h1.keep (keep_below (fun _=>True) hb) trivial,h2,h3⟩,h4.trans (hb.mono h4.size),h5⟩
theorem OutG.congr {f:Nat→Bool} (hW:OutG w0 w G m h) (he:∀j,j<m→h j=f j):OutG w0 w G m f:=by
 obtain⟨⟨M,h1,h2,h3⟩,h4,h5⟩:=hW;exact⟨⟨M,h1,h2,fun j hj=>by rw[h3 j hj,he j hj]⟩,h4,h5⟩
theorem OutG.store (hW:OutG w0 w G m h) (hi:i<m) (b:Bool):(w.cell? ⟨G,i,none⟩=some (.bool (h i)))∧w.frozen? ⟨G,i,none⟩=false∧G<w.heap.size∧OutG w0 (w.setCell ⟨G,i,none⟩ (.bool b)) G m (fun j=>if j=i then b else h j):=by
 obtain⟨⟨M,h1,h2,h3⟩,h4,h5⟩:=hW;have hk:KeepW (fun k=>k≠G) w (w.setCell ⟨G,i,none⟩ (.bool b)):=keep_set G i none _ w fun h=>h rfl;refine⟨by rw[h1.at_ (by omega) false,h3 i hi],h1.frozen i,h1.lt,⟨M.set i b,h1.set i b,by rw[List.length_set];exact h2,fun j hj=> ?_⟩,KeepW.below h4 hk h4.size fun k hk=>by omega,h5⟩;rw[getD_set2 b (by omega)];split
 ·rfl
 ·exact h3 j hj
end
def midG (r:RuN) (f:Nat→Bool) (b q:Nat):Nat→Bool:=fun j=>if j<q then stepG r f b j else orsG r f r.m j
theorem mid_next (r:RuN) (f:Nat→Bool) (b q:Nat) (y:Bool) (h:y=stepG r f b q) (j:Nat):(if j=q then y else midG r f b q j)=midG r f b (q+1) j:=by
 unfold midG;by_cases e:j=q
 ·subst e;rw[if_pos rfl,if_pos (by omega),h]
 ·rw[if_neg e];by_cases e2:j<q
  ·rw[if_pos e2,if_pos (by omega)]
  ·rw[if_neg e2,if_neg (by omega)]
section
variable {w:World} {v u:Value} {r:RuN} {f:Nat→Bool}
theorem RuO.rowAt {old:Nat→Prop} (h:RuO old w v r) {k:Nat} (hk:k<r.m):∃R g cap y,v= .pointer (some ⟨R,0,none⟩)∧w.cell? ⟨R,1,none⟩=some (.slice (some ⟨g,0,none⟩) r.m cap)∧r.m≤cap∧w.cell? ⟨g,k,none⟩=some y∧BolR w y r.m (r.behind k):=by
 obtain⟨_,_,_,R,sv,bv,lv,hv,_,c1,_,_,_,⟨g,cap,rfl,hc,_,hr⟩,_⟩:=h;obtain⟨y,h4,h5⟩:=hr k hk;exact⟨R,g,cap,y,hv,c1,hc,h4,h5.read⟩
theorem RuO.setAt {old:Nat→Prop} (h:RuO old w v r) {k:Nat} {s:St4} (hk:r.sets[k]? =some s):∃R g o cap,v= .pointer (some ⟨R,0,none⟩)∧w.cell? ⟨R,0,none⟩=some (.slice (some ⟨g,o,none⟩) r.m cap)∧r.m≤cap∧∀(j:Nat) x,j<4→(set4C s)[j]? =some x→w.cell? ⟨g,o+(k*4+j),none⟩=some x:=by
 obtain⟨_,_,_,R,sv,bv,lv,hv,c0,_,_,⟨ao,cap,rfl,hn,hc⟩,_⟩:=h;obtain⟨g,o,rfl,_⟩:=hc (k*4+0) _ (by rw[setsC_at r.sets k s hk 0 (by decide)];rfl);refine⟨R,g,o,cap,hv,c0,hn,fun j x hj hx=> ?_⟩;obtain⟨g',o',e,_,hg⟩:=hc (k*4+j) x (by rw[setsC_at r.sets k s hk j hj];exact hx);cases e;exact hg
set_option maxRecDepth 4000 in
set_option maxHeartbeats 8000000 in
theorem rstep_new (h:RuR w v r) (hs:∀s,s∈r.sets→OkR s) (hu:BolR w u r.m f) (b:Nat) (hb:b<256):
  Calls Tryz.prog 41 #[v,u,.int .u8 (b:Int)] w fun e w'=>∃G,e= .returned (.slice (some ⟨G,0,none⟩) r.m r.m)∧BolO (fun k=>k<w.heap.size) w' (.slice (some ⟨G,0,none⟩) r.m r.m) r.m (stepG r f b)∧Below w.heap.size w w':=by
 have HV:=qh h;have HU:=qh (fun (W:World) (hb:Below w.heap.size w W)=>hu.below hb);have HS:=qh hs;have HH:=qh (fun (s:St4) (hs:OkR s) (W:World)=>rhas_any s b W hs hb);have hpos:=h.pos;have hfew:=h.few;have HLN:=qh h.len;obtain⟨_,gu,cu,rfl,hcu,_,_⟩:=hu;obtain⟨_,_,_,R,_,_,_,rfl,_⟩:=h;have hmk:=nmake r.m (by omega) w;have H0:Hid (OutG w (w.alloc (.cells (boolC (noneB r.m)).toArray 4)) w.heap.size r.m (orsG r f 0)):=qh ⟨⟨noneB r.m,blkM_new w r.m,noneB_len r.m,fun j _=>noneB_get r.m j⟩,alloc_under _ _,Nat.le_refl _⟩;obtain⟨m,hm⟩:∃m,r.m=m:=⟨_,rfl⟩;have HM:=qh hm;rw[hm] at hpos hfew hcu hmk H0 ⊢;clear hm hs;go_enter Tryz.func41,Tryz.ntmps41;go_wp2_with fail
 obtain⟨W1,hW1⟩:∃W1,w.alloc (.cells (boolC (noneB m)).toArray 4)=W1:=⟨_,rfl⟩;(try rw[hW1]);rw[hW1] at H0;clear hW1 hmk;obtain⟨G0,hG0⟩:∃G0,w.heap.size=G0:=⟨_,rfl⟩;(try rw[hG0]);have H1:Hid (OutG w W1 G0 m (orsG r f 0)):=qh (by rw[←hG0];exact H0.out);clear hG0 H0;go_loopw [7,8] (fun s7 s8 wr=>∃p G:Nat,s8= .int .i64 (p:Int)∧p≤m∧s7= .slice (some ⟨G,0,none⟩) m m∧Hid (OutG w wr G m (orsG r f p))) (fun _ s8 _=>m-(intOf s8).toNat)
 case atStart=>exact⟨0,G0,rfl,Nat.zero_le _,rfl,H1⟩
 case round=>
  obtain⟨p,G,rfl,hp,rfl,HQ⟩:=hrel;clear H1;have i0:(0:Int)≤(p:Int):=by omega
  have ib:(p:Int)≤1000:=by omega
  by_cases hlt:p<m
  ·have hli:(p:Int)<(m:Int):=(by omega);obtain⟨_,gu',cu',hue,_,_,huc⟩:=HU.out wr HQ.out.b;injection hue with e1 e2 e3
   injection e1 with e1
   injection e1 with e1
   subst e1;have x0:=huc p (by rw[HM.out];exact hlt);clear huc e2 e3;rcases hf:f p with _ | _
   ·rw[hf] at x0;have H2:Hid (OutG w wr G m (orsG r f (p+1))):=qh (HQ.out.congr fun j _=>by rw[orsG,if_neg (by rw[hf];decide)]);clear hf;go_wp2_with fail
    go_roundw
    case rel=>exact⟨p+1,G,by go_num,hlt,rfl,H2⟩
    case measure=>simp[intOf]<;>omega
   ·rw[hf] at x0;obtain⟨R',g,cap,y,hv,c1,hcap,c2,hy⟩:=(HV.out.below HQ.out.b).rowAt (k:=p) (by rw[HM.out];exact hlt);cases hv;rw[HM.out] at c1 hcap hy;have HO:=qh (rorM_any (HQ.out.row hpos) hy (by omega));have HE:Hid (∀j,orF (orsG r f p) (r.behind p) j=orsG r f (p+1) j):=qh fun j=>(by rw[orsG,if_pos hf]);clear hf hy;go_wp2_with fail
    go_fit HO.out;rintro e w2 ⟨G2,rfl,hg2,hM2,hb2⟩;have H2:Hid (OutG w w2 G2 m (orsG r f (p+1))):=qh (OutG.congr ⟨hM2,HQ.out.b.trans (hb2.mono HQ.out.b.size),Nat.le_trans HQ.out.b.size hg2⟩ fun j _=>HE.out j);clear hg2 hM2 hb2 HO;go_wp2_with fail
    go_roundw
    case rel=>exact⟨p+1,G2,by go_num,hlt,rfl,H2⟩
    case measure=>simp[intOf]<;>omega
  ·have hli:¬(p:Int)<(m:Int):=(by omega);have hpm:p=m:=(by omega);have H2:Hid (OutG w wr G m (midG r f b 0)):=qh (HQ.out.congr fun j _=>by unfold midG;rw[if_neg (by omega),HM.out,hpm]);clear hpm HQ;go_wp2_with fail
   obtain⟨wo,hwo⟩:∃wo:World,wr=wo:=⟨_,rfl⟩;rw[hwo] at H2;(try rw[hwo]);clear hwo hp hlt hli i0 ib;go_loopw [9] (fun s9 wr=>∃q:Nat,s9= .int .i64 (q:Int)∧q≤m∧Hid (OutG w wr G m (midG r f b q))) (fun s9 _=>m-(intOf s9).toNat)
   case atStart=>exact⟨0,rfl,Nat.zero_le _,H2⟩
   case round=>
    obtain⟨q,rfl,hq,HQ⟩:=hrel;clear H2;have i0:(0:Int)≤(q:Int):=(by omega);have ib:(q:Int)≤1000:=(by omega);by_cases hlt:q<m
    ·have hli:(q:Int)<(m:Int):=(by omega);have hmid:midG r f b q q=orsG r f r.m q:=(by unfold midG;rw[if_neg (by omega)]);have HST:Hid (stepG r f b q=(orsG r f r.m q&&(decide (0<q)&&hasR (setAt r.sets q) b))):=qh rfl;obtain⟨x0,x1,x2,hst⟩:=HQ.out.store hlt false;rw[hmid] at x0;obtain⟨a,ha⟩:∃a,orsG r f r.m q=a:=⟨_,rfl⟩;rw[ha] at x0 HST;by_cases hno:a=false∨q=0
     ·have H3:Hid (OutG w (wr.setCell ⟨G,q,none⟩ (.bool false)) G m (midG r f b (q+1))):=qh (hst.congr fun j _=>mid_next r f b q false (by
       rw[HST.out];rcases hno with e | e
       ·rw[e];rfl
       ·rw[e];simp) j)
      clear hmid ha hst HST;rcases a with _ | _
      ·clear hno;go_wp2_with fail
       go_roundw
       case rel=>exact⟨q+1,by go_num,hlt,H3⟩
       case measure=>simp[intOf]<;>omega
      ·have hq0:q=0:=hno.resolve_left (by decide);subst hq0;clear hno;go_wp2_with fail
       go_roundw
       case rel=>exact⟨0+1,by go_num,hlt,H3⟩
       case measure=>simp[intOf]<;>omega
     ·have hat:a=true:=by
       rcases a with _ | _
       ·exact absurd (.inl rfl) hno
       ·rfl
      have hqp:0<q:=(by omega);subst hat;obtain⟨s,hs⟩:∃s,r.sets[q]? =some s:=⟨_,List.getElem?_eq_getElem (by rw[HLN.out,HM.out];exact hlt)⟩;obtain⟨R',g,o,cap,hv,c0,hcap,hcell⟩:=(HV.out.below HQ.out.b).setAt hs;cases hv;rw[HM.out] at c0 hcap;have d0:=hcell 0 _ (by decide) rfl;have d1:=hcell 1 _ (by decide) rfl;have d2:=hcell 2 _ (by decide) rfl;have d3:=hcell 3 _ (by decide) rfl;simp only[Nat.add_zero,←Nat.add_assoc] at d0 d1 d2 d3;have HA:=qh (HH.out s (HS.out s (List.mem_of_getElem? hs)) wr);have hsa:Hid (stepG r f b q=hasR s b):=qh (by
       rw[HST.out,decide_eq_true hqp];have e:setAt r.sets q=s:=(by unfold setAt;rw[List.getD_eq_getElem?_getD,hs];rfl);rw[e];simp)
      obtain⟨y,hy⟩:∃y,hasR s b=y:=⟨_,rfl⟩;rw[hy] at HA hsa;have hqi:(q:Int)>0:=(by omega);have hqi2:(0:Int)<(q:Int):=(by omega);unfold setV at HA;clear hmid ha hst HST hno hcell hs hy x1 x2;go_wp2_with fail
      go_fit HA.out;rintro e w2 ⟨rfl,hb2⟩;have H2:=qh (HQ.out.under hb2);obtain⟨z0,z1,z2,hst⟩:=H2.out.store hlt y;have H3:Hid (OutG w (w2.setCell ⟨G,q,none⟩ (.bool y)) G m (midG r f b (q+1))):=qh (hst.congr fun j _=>mid_next r f b q y hsa.out.symm j);clear hst hb2 HA H2;go_wp2_with fail
      go_roundw
      case rel=>exact⟨q+1,by go_num,hlt,H3⟩
      case measure=>simp[intOf]<;>omega
    ·have hli:¬(q:Int)<(m:Int):=(by omega);have HF:=qh (show BolO (fun k=>k<w.heap.size) wr (.slice (some ⟨G,0,none⟩) m m) m (stepG r f b)∧Below w.heap.size w wr from⟨(HQ.out.congr (f:=stepG r f b) fun j hj=>by unfold midG;rw[if_pos (by omega)]).rowN hpos,HQ.out.b⟩);clear HQ;go_wp2_with fail
     go_ret
     exact⟨G,rfl,HF.out⟩
theorem rstep_any (h:RuR w v r) (hs:∀s,s∈r.sets→OkR s) (hu:BolR w u r.m f) (b:Nat) (hb:b<256):
  Calls Tryz.prog 41 #[v,u,.int .u8 (b:Int)] w fun e w'=>∃G,e= .returned (.slice (some ⟨G,0,none⟩) r.m r.m)∧BolR w' (.slice (some ⟨G,0,none⟩) r.m r.m) r.m (stepG r f b)∧Below w.heap.size w w':=
 (rstep_new h hs hu b hb).mono fun _ _ ⟨G,h1,h2,h3⟩=>⟨G,h1,h2.read,h3⟩
end
end Go.Proofs.YtjeomlickkpebaaGreatDoor
namespace Go.Proofs.YtjeomlickkpebaaGreatDoor
open Go.RowKit
def RusW (w:World) (v:Value) (rs:List RuN):Prop:=
 ∃us:List Value,us.length=rs.length∧RowZ (fun _=>True) w v rs.length us∧∀(i:Nat) (r:RuN) (u:Value),rs[i]? =some r→us[i]? =some u→∃p,u= .pointer p∧RuR w u r
theorem RusW.below {w w':World} {v:Value} {rs:List RuN} (h:RusW w v rs) (hb:Below w.heap.size w w'):RusW w' v rs:=by
 obtain⟨us,h1,h2,h3⟩:=h;refine⟨us,h1,h2.keep (keep_below _ hb) fun _ _ h=>h,fun i r u hr hu=> ?_⟩;obtain⟨p,h4,h5⟩:=h3 i r u hr hu;exact⟨p,h4,h5.below hb⟩
theorem RusW.form {w:World} {v:Value} {rs:List RuN} (h:RusW w v rs):∃ao cap,v= .slice ao rs.length cap∧rs.length≤cap:=by
 obtain⟨us,h1,⟨ao,cap,hv,hn,_⟩,_⟩:=h;exact⟨ao,cap,hv,hn⟩
theorem RusW.get {w:World} {v:Value} {rs:List RuN} {i:Nat} {r:RuN} (h:RusW w v rs) (hi:rs[i]? =some r):∃g o cap p,v= .slice (some ⟨g,o,none⟩) rs.length cap∧w.cell? ⟨g,o+i,none⟩=some (.pointer p)∧RuR w (.pointer p) r:=by
 obtain⟨us,h1,⟨ao,cap,hv,hn,hc⟩,h3⟩:=h;have hk:=(List.getElem?_eq_some_iff.1 hi).1;obtain⟨u,hu⟩:∃u,us[i]? =some u:=⟨_,List.getElem?_eq_getElem (by omega)⟩;obtain⟨p,rfl,h5⟩:=h3 i r u hi hu;obtain⟨g,o,ha,_,hg⟩:=hc i _ hu;exact⟨g,o,cap,p,by rw[hv,ha],hg,h5⟩
end Go.Proofs.YtjeomlickkpebaaGreatDoor
namespace Go.Proofs.YtjeomlickkpebaaGreatDoor
open Go.RowKit
theorem catG_snoc:∀(l:List Nd) (n:Nd) (a:Nat) (p:Gl),catG (l++ [n]) a p=seqG (catG l a p) (glN n (a+(setsL l).length))
 | [],n,a,p=>by rw[List.nil_append,catG,catG,catG,setsL];rfl
 | m::l,n,a,p=>by
  rw[List.cons_append,catG,catG,catG_snoc l n,setsL,List.length_append,Nat.add_assoc]
theorem altG_snoc:∀(l:List Nd) (n:Nd) (a:Nat) (p:Gl),altG (l++ [n]) a p=eitherG (altG l a p) (glN n (a+(setsL l).length))
 | [],n,a,p=>by rw[List.nil_append,altG,altG,altG,setsL];rfl
 | m::l,n,a,p=>by
  rw[List.cons_append,altG,altG,altG_snoc l n,setsL,List.length_append,Nat.add_assoc]
theorem setsL_snoc {l:List Nd} {i:Nat} {m:Nd} (h:l[i]? =some m):setsL (l.take (i+1))=setsL (l.take i)++setsN m:=by
 rw[List.take_add_one,h,setsL_app];show _++setsL [m]=_;rw[setsL,setsL,List.append_nil]
theorem setsL_take_le (l:List Nd) (i:Nat):(setsL (l.take i)).length≤(setsL l).length:=by
 have h:=congrArg setsL (List.take_append_drop i l);rw[setsL_app] at h;have:=congrArg List.length h;rw[List.length_append] at this;omega
theorem glN_eq (n:Nd) (a:Nat):glN n a=if n.kind=1 then ⟨false,oneF a,oneF a,noF2⟩ else if n.kind=2 then catG n.kids a emptyG else if n.kind=3 then altG n.kids a failG else if n.kind=4 then loopG true (oneG n.kids a) else if n.kind=5 then loopG false (oneG n.kids a) else if n.kind=6 then maybeG (oneG n.kids a) else emptyG:=by
 cases n with
 | mk k s l=>rw[glN];rfl
theorem setsN_kids (n:Nd) (h:¬n.kind=1):setsN n=setsL n.kids:=by rw[setsN_eq,if_neg h]
abbrev boxP (w:World) (b:Nat) (a f l:Value):Prop:=box3 109 w b a f l
structure LayF (X:Nat→Prop) (w0 w:World) (R:Nat) (sv0 sv bv lv:Value) (S:List St4) (m:Nat) (E:Nat→Nat→Bool) (b:Nat) (n:Nd) (u:Value):Prop where
 r:RulW (fun k=>X k∨b≤k∧k<b+3) w R sv bv lv S m E
 x:boxN 77 w b n.kind n.set u
 p:boxP w (b+1) (.bool false) (.slice none 0 0) (.slice none 0 0)
 nv:blkM w (b+2) (noneB m)
 pos:0<m
 ks:KidsW (fun k=>k<b∧¬OwnR R sv bv k) w n.kids u
 g:Gone (OwnR R sv0 bv) (OwnR R sv bv) w0 w
 at_:b=w0.heap.size
 nb:∀k,b≤k→k<b+3→¬OwnR R sv bv k
section
variable {X:Nat→Prop} {w0 w w':World} {R m b c:Nat} {sv0 sv bv lv sv' u a f l:Value} {S S':List St4} {E E':Nat→Nat→Bool} {n:Nd}
theorem box3.go {T:TypeId} {own own':Nat→Prop} (h:box3 T w c a f l) (ho:¬own c) (hg:Gone own own' w w'):box3 T w' c a f l∧¬own' c:=⟨h.keep hg.keep ho,hg.still h.lt ho⟩
theorem KidsW.goN {N:Nat} {own own':Nat→Prop} {ks:List Nd} (h:KidsW (fun k=>k<N∧¬own k) w ks u) (hN:N≤w.heap.size) (hg:Gone own own' w w'):KidsW (fun k=>k<N∧¬own' k) w' ks u:=by
 have h1:=KidsW.keep (ok':=fun k=>k<N∧¬own k) h (hg.keep.mono fun _ _ ho=>ho.2) fun _ _ hp=>hp;exact h1.mono fun k _ hp=>⟨hp.1,hg.still (by omega) hp.2⟩
theorem LayF.sz (h:LayF X w0 w R sv0 sv bv lv S m E b n u):b+3≤w.heap.size:=h.nv.lt
theorem LayF.go (h:LayF X w0 w R sv0 sv bv lv S m E b n u) (hr:RulW (fun k=>X k∨b≤k∧k<b+3) w' R sv' bv lv S' m E') (hg:Gone (OwnR R sv bv) (OwnR R sv' bv) w w'):LayF X w0 w' R sv0 sv' bv lv S' m E' b n u:=
 ⟨hr,h.x.keep hg.keep (h.nb b (Nat.le_refl _) (by omega)),(h.p.go (h.nb (b+1) (by omega) (by omega)) hg).1,h.nv.keep hg.keep (h.nb (b+2) (by omega) (by omega)),h.pos,h.ks.goN (by have:=h.sz;omega) hg,h.g.trans hg,h.at_,fun k h1 h2=>hg.still (by have:=h.sz;omega) (h.nb k h1 h2)⟩
theorem LayF.under (h:LayF X w0 w R sv0 sv bv lv S m E b n u) (hb:Below w.heap.size w w'):LayF X w0 w' R sv0 sv bv lv S m E b n u:=h.go (h.r.under hb) (Gone.of_below hb)
theorem LayF.start (h:RulW X w0 R sv bv lv S m E) (hu:KidsW (fun k=>¬OwnR R sv bv k) w0 n.kids u) (hm:0<m):
  LayF X w0 (((w0.alloc (.cells #[.int .i64 n.kind,.int .u64 (n.set.1:Int),.int .u64 (n.set.2.1:Int),.int .u64 (n.set.2.2.1:Int),.int .u64 (n.set.2.2.2:Int),u] 77)).alloc (.cells #[.bool false,.slice none 0 0,.slice none 0 0] 109)).alloc (.cells (boolC (noneB m)).toArray 4)) R sv sv bv lv S m E w0.heap.size n u ∧
  w0.heap.size+3=(((w0.alloc (.cells #[.int .i64 n.kind,.int .u64 (n.set.1:Int),.int .u64 (n.set.2.1:Int),.int .u64 (n.set.2.2.1:Int),.int .u64 (n.set.2.2.2:Int),u] 77)).alloc (.cells #[.bool false,.slice none 0 0,.slice none 0 0] 109)).alloc (.cells (boolC (noneB m)).toArray 4)).heap.size:=by
 have hb1:=alloc_under w0 (.cells #[.int .i64 n.kind,.int .u64 (n.set.1:Int),.int .u64 (n.set.2.1:Int),.int .u64 (n.set.2.2.1:Int),.int .u64 (n.set.2.2.2:Int),u] 77);have hx:=boxN.new 77 w0 n.kind n.set u;have hs1:=alloc_size w0 (.cells #[.int .i64 n.kind,.int .u64 (n.set.1:Int),.int .u64 (n.set.2.1:Int),.int .u64 (n.set.2.2.1:Int),.int .u64 (n.set.2.2.2:Int),u] 77);generalize w0.alloc (.cells #[.int .i64 n.kind,.int .u64 (n.set.1:Int),.int .u64 (n.set.2.1:Int),.int .u64 (n.set.2.2.1:Int),.int .u64 (n.set.2.2.2:Int),u] 77)=W1 at hb1 hx hs1 ⊢;have hb2:=alloc_under W1 (.cells #[.bool false,.slice none 0 0,.slice none 0 0] 109);have hp:=box3.new 109 W1 (.bool false) (.slice none 0 0) (.slice none 0 0);have hs2:=alloc_size W1 (.cells #[.bool false,.slice none 0 0,.slice none 0 0] 109);generalize W1.alloc (.cells #[.bool false,.slice none 0 0,.slice none 0 0] 109)=W2 at hb2 hp hs2 ⊢;have hb3:=alloc_under W2 (.cells (boolC (noneB m)).toArray 4);have hs3:=alloc_size W2 (.cells (boolC (noneB m)).toArray 4);have hn:=blkM_new W2 m;have hbel:Below w0.heap.size w0 W2:=hb1.trans (hb2.mono hb1.size);have hbel3:=hbel.trans (hb3.mono hbel.size);have hno:=h.ownlt;refine⟨⟨(h.mono (X':=fun k=>X k∨w0.heap.size≤k∧k<w0.heap.size+3) fun k hk e=>e.elim id fun e=>by omega).under hbel3,(hx.below hb2).below hb3,?_,?_,hm,?_,Gone.of_below hbel3,rfl,fun k h1 _=>hno k h1⟩,by rw[hs3,hs2,hs1]⟩
 ·rw[hs1] at hp;exact hp.under hb3
 ·rw[hs2,hs1] at hn;exact hn
 ·exact (KidsW.mono hu (ok':=fun k=>k<w0.heap.size∧¬OwnR R sv bv k) fun k hk hp=>⟨hk,hp⟩).goN (Nat.le_refl _) (Gone.of_below hbel3)
def AccO (R:Nat) (sv bv:Value) (b:Nat):Nat→Prop:=fun k=>OwnR R sv bv k∨k≤b+1∨k=b+3
theorem LayF.nrow (h:LayF X w0 w R sv0 sv bv lv S m E b n u):BolO (AccO R sv bv b) w (.slice (some ⟨b+1+1,0,none⟩) m m) m noF:=
 BolO.of_blk h.nv (noneB_len m) h.pos (fun e=>by
  rcases e with e | e | e
  ·exact h.nb (b+2) (by omega) (by omega) e
  ·omega
  ·omega) fun i _=>noneB_get m i
theorem BolO.acc {g:Nat→Bool} (h:BolO (AccO R sv bv b) w a m g) (hg:Gone (OwnR R sv bv) (OwnR R sv' bv) w w'):BolO (AccO R sv' bv b) w' a m g:=h.go (hg.wide _)
theorem LayF.more (h:LayF X w0 w R sv0 sv bv lv S m E b n u) (hs:w.heap.size=b+3) (hb:Below w.heap.size w w'):LayF (fun k=>X k∨k=b+3) w0 w' R sv0 sv bv lv S m E b n u:=
 have h1:=h.under hb
 ⟨(h.r.mono (X':=fun k=>(X k∨k=b+3)∨b≤k∧k<b+3) fun k hk e=>by
   rcases e with (e | e) | e
   ·exact .inl e
   ·omega
   ·exact .inr e).under hb,h1.x,h1.p,h1.nv,h1.pos,h1.ks,h1.g,h1.at_,h1.nb⟩
theorem LayF.newX (h:LayF X w0 w R sv0 sv bv lv S m E b n u) (hX:∀k,w0.heap.size≤k→¬X k):∀k,w.heap.size≤k→¬(X k∨b≤k∧k<b+3):=fun k hk e=>by
 have:=h.sz;have:=h.at_;rcases e with e | e
 ·exact hX k (by omega) e
 ·omega
theorem LayF.newX3 (h:LayF (fun k=>X k∨k=b+3) w0 w R sv0 sv bv lv S m E b n u) (hX:∀k,w0.heap.size≤k→¬X k) (hc:b+3<w.heap.size):∀k,w.heap.size≤k→¬((X k∨k=b+3)∨b≤k∧k<b+3):=fun k hk e=>by
 have:=h.sz;have:=h.at_;rcases e with (e | e) | e
 ·exact hX k (by omega) e
 ·omega
 ·omega
theorem LayF.store {i:Nat} {y:Value} (h:LayF (fun k=>X k∨k=b+3) w0 w R sv0 sv bv lv S m E b n u):LayF (fun k=>X k∨k=b+3) w0 (w.setCell ⟨b+3,i,none⟩ y) R sv0 sv bv lv S m E b n u:=by
 have hk:KeepW (fun k=>k≠b+3) w (w.setCell ⟨b+3,i,none⟩ y):=keep_set (b+3) i none y w fun h=>h rfl;have h2:=h.at_
 exact⟨h.r.aside (.inl (.inr rfl)),h.x.keep hk (by omega),h.p.keep hk (by omega),h.nv.keep hk (by omega),h.pos,KidsW.keep (ok':=fun k=>k<b∧¬OwnR R sv bv k) h.ks (hk.mono fun k _ hp e=>by omega) fun _ _ hp=>hp,
  ⟨⟨h.g.keep.os,h.g.keep.tape,h.g.keep.output,Nat.le_trans h.g.keep.size hk.size,fun k hk1 hk2=>(hk.same k (by have:=h.g.keep.size;omega) (by omega)).trans (h.g.keep.same k hk1 hk2)⟩,h.g.new⟩,h.at_,h.nb⟩
theorem BolO.store {i:Nat} {y:Value} {g:Nat→Bool} (h:BolO (AccO R sv bv b) w a m g):BolO (AccO R sv bv b) (w.setCell ⟨b+3,i,none⟩ y) a m g:=
 h.go ⟨(keep_set (ok:=fun k=>k≠b+3) (b+3) i none y w fun h=>h rfl).mono fun _ _ ho e=>ho (.inr (.inr e)),fun _ e=> .inl e⟩
def setP (w:World) (c:Nat) (x f l:Value):World:=((w.setCell ⟨c,0,none⟩ x).setCell ⟨c,1,none⟩ f).setCell ⟨c,2,none⟩ l
theorem box3.setP {x y z:Value} (h:boxP w c a f l):boxP (setP w c x y z) c x y z:=((h.set0 x).set1 y).set2 z
theorem keep_setP (w:World) (c:Nat) (x y z:Value):KeepW (fun k=>k≠c) w (setP w c x y z):=
 ((keep_set c 0 none x w fun h=>h rfl).trans (keep_set c 1 none y _ fun h=>h rfl)).trans (keep_set c 2 none z _ fun h=>h rfl)
def Acc1 (R:Nat) (sv bv:Value) (b:Nat):Nat→Prop:=fun k=>OwnR R sv bv k∨k≤b+1
theorem BolO.acc1 {g:Nat→Bool} (h:BolO (AccO R sv bv b) w a m g):BolO (Acc1 R sv bv b) w a m g:=h.mono fun _ _ e=>e.imp id .inl
theorem BolO.go1 {g:Nat→Bool} (h:BolO (Acc1 R sv bv b) w a m g) (hg:Gone (OwnR R sv bv) (OwnR R sv' bv) w w'):BolO (Acc1 R sv' bv b) w' a m g:=h.go (hg.wide _)
theorem LayF.fin {fV lV:Value} {gf gl:Nat→Bool} {z:Bool} (h:LayF X w0 w R sv0 sv bv lv S m E b n u) (hf:BolO (Acc1 R sv bv b) w fV m gf) (hl:BolO (Acc1 R sv bv b) w lV m gl):
  boxP (setP w (b+1) (.bool z) fV lV) (b+1) (.bool z) fV lV∧RulW X (setP w (b+1) (.bool z) fV lV) R sv bv lv S m E∧Gone (OwnR R sv0 bv) (OwnR R sv bv) w0 (setP w (b+1) (.bool z) fV lV) ∧
  BolO (fun k=>OwnR R sv bv k∨k<w0.heap.size) (setP w (b+1) (.bool z) fV lV) fV m gf∧BolO (fun k=>OwnR R sv bv k∨k<w0.heap.size) (setP w (b+1) (.bool z) fV lV) lV m gl:=by
 have hk:=keep_setP w (b+1) (.bool z) fV lV;have h2:=h.at_;have hg:Gone (Acc1 R sv bv b) (Acc1 R sv bv b) w (setP w (b+1) (.bool z) fV lV):=⟨hk.mono fun k _ ho e=>ho (.inr (by omega)),fun _ e=> .inl e⟩;have hrow:∀ {y:Value} {g:Nat→Bool},BolO (Acc1 R sv bv b) w y m g→BolO (fun k=>OwnR R sv bv k∨k<w0.heap.size) (setP w (b+1) (.bool z) fV lV) y m g:=fun hy=>(hy.go hg).mono fun k _ e=>e.imp id fun e=>by omega
 refine⟨h.p.setP,?_,⟨⟨hk.os.trans h.g.keep.os,hk.tape.trans h.g.keep.tape,hk.output.trans h.g.keep.output,Nat.le_trans h.g.keep.size hk.size,fun k hk1 hk2=>(hk.same k (by have:=h.g.keep.size;omega) (by omega)).trans (h.g.keep.same k hk1 hk2)⟩,h.g.new⟩,hrow hf,hrow hl⟩;exact (((h.r.aside (c:=b+1) (i:=0) (y:= .bool z) (.inr (by omega))).aside (c:=b+1) (i:=1) (y:=fV) (.inr (by omega))).aside (c:=b+1) (i:=2) (y:=lV) (.inr (by omega))).mono fun k _ e=> .inl e
theorem LayF.kid {i:Nat} {k:Nd} (h:LayF X w0 w R sv0 sv bv lv S m E b n u) (hi:n.kids[i]? =some k):
  ∃g o cap ku kl kc,u= .slice (some ⟨g,o,none⟩) n.kids.length cap∧n.kids.length≤cap∧ku= .slice kl k.kids.length kc∧NodeW (fun k=>¬OwnR R sv bv k) w k (nodeV k ku)∧∀(j:Nat) x,j<6→(nodeC k ku)[j]? =some x→w.cell? ⟨g,o+(i*6+j),none⟩=some x:=by
 obtain⟨g,o,cap,ku,hv,hn,hs,hk,hc⟩:=h.ks.at_ hi;obtain⟨kl,kc,hku,_⟩:=hk.form;exact⟨g,o,cap,ku,kl,kc,hv,hn,hku,⟨hs,ku,rfl,hk.mono fun k _ hp=>hp.2⟩,hc⟩
theorem LayF.moreC (h:LayF X w0 w R sv0 sv bv lv S m E b n u) (hb:Below w.heap.size w w'):LayF (fun k=>X k∨k=w.heap.size) w0 w' R sv0 sv bv lv S m E b n u:=
 have h1:=h.under hb
 ⟨(h.r.mono (X':=fun k=>(X k∨k=w.heap.size)∨b≤k∧k<b+3) fun k hk e=>by
   rcases e with (e | e) | e
   ·exact .inl e
   ·omega
   ·exact .inr e).under hb,h1.x,h1.p,h1.nv,h1.pos,h1.ks,h1.g,h1.at_,h1.nb⟩
theorem LayF.lessC (h:LayF (fun k=>X k∨k=c) w0 w R sv0 sv bv lv S m E b n u):LayF X w0 w R sv0 sv bv lv S m E b n u:=
 ⟨h.r.mono fun _ _ e=>e.imp .inl id,h.x,h.p,h.nv,h.pos,h.ks,h.g,h.at_,h.nb⟩
theorem LayF.storeC {i:Nat} {y:Value} (h:LayF (fun k=>X k∨k=c) w0 w R sv0 sv bv lv S m E b n u) (hc:b+3≤c):LayF (fun k=>X k∨k=c) w0 (w.setCell ⟨c,i,none⟩ y) R sv0 sv bv lv S m E b n u:=by
 have hk:KeepW (fun k=>k≠c) w (w.setCell ⟨c,i,none⟩ y):=keep_set c i none y w fun h=>h rfl;have h2:=h.at_
 exact⟨h.r.aside (.inl (.inr rfl)),h.x.keep hk (by omega),h.p.keep hk (by omega),h.nv.keep hk (by omega),h.pos,KidsW.keep (ok':=fun k=>k<b∧¬OwnR R sv bv k) h.ks (hk.mono fun k _ hp e=>by omega) fun _ _ hp=>hp,
  ⟨⟨h.g.keep.os,h.g.keep.tape,h.g.keep.output,Nat.le_trans h.g.keep.size hk.size,fun k hk1 hk2=>(hk.same k (by have:=h.g.keep.size;omega) (by omega)).trans (h.g.keep.same k hk1 hk2)⟩,h.g.new⟩,h.at_,h.nb⟩
end
def LayP (X:Nat→Prop) (R:Nat) (sv bv lv:Value) (S:List St4) (m:Nat) (E:Nat→Nat→Bool) (n:Nd) (w w':World) (e:Ending):Prop:=
 ∃sv' fV lV,e= .returned (.agg #[.bool (glN n S.length).null,fV,lV])∧RulW X w' R sv' bv lv (S++setsN n) m (orF2 E (glN n S.length).fol)∧Gone (OwnR R sv bv) (OwnR R sv' bv) w w' ∧
  BolO (fun k=>OwnR R sv' bv k∨k<w.heap.size) w' fV m (glN n S.length).first∧BolO (fun k=>OwnR R sv' bv k∨k<w.heap.size) w' lV m (glN n S.length).last
theorem layP_mk {X:Nat→Prop} {R m:Nat} {sv sv' bv lv fV lV:Value} {S S':List St4} {E:Nat→Nat→Bool} {n:Nd} {w w':World} {g:Gl} (hg:glN n S.length=g) (hS:S++setsN n=S') (hR:RulW X w' R sv' bv lv S' m (orF2 E g.fol)) (hG:Gone (OwnR R sv bv) (OwnR R sv' bv) w w')
  (hf:BolO (fun k=>OwnR R sv' bv k∨k<w.heap.size) w' fV m g.first) (hl:BolO (fun k=>OwnR R sv' bv k∨k<w.heap.size) w' lV m g.last):LayP X R sv bv lv S m E n w w' (.returned (.agg #[.bool g.null,fV,lV])):=by
 subst hg hS;exact⟨_,_,_,rfl,hR,hG,hf,hl⟩
def LayW (n:Nd):Prop:=∀(X:Nat→Prop) (w:World) (R:Nat) (sv bv lv:Value) (S:List St4) (m:Nat) (E:Nat→Nat→Bool) (x:Value),RulW X w R sv bv lv S m E→(∀k,w.heap.size≤k→¬X k)→NodeW (fun k=>¬OwnR R sv bv k) w n x→0<S.length∧S.length+(setsN n).length≤m→m≤100000 →
 Calls Tryz.prog 49 #[.pointer (some ⟨R,0,none⟩),x,.int .i64 (m:Int)] w fun e w'=>LayP X R sv bv lv S m E n w w' e
end Go.Proofs.YtjeomlickkpebaaGreatDoor
namespace Go.Proofs.YtjeomlickkpebaaGreatDoor
open Go.RowKit
structure PaI (X:Nat→Prop) (w0 w:World) (R:Nat) (sv0 sv bv lv:Value) (S:List St4) (m:Nat) (E:Nat→Nat→Bool) (b:Nat) (n:Nd) (u:Value) (z:Bool) (fV lV:Value) (gf gl:Nat→Bool):Prop where
 l:LayF (fun k=>X k∨k=b+3) w0 w R sv0 sv bv lv S m E b n u
 bx:boxP w (b+3) (.bool z) fV lV
 f:BolO (AccO R sv bv b) w fV m gf
 la:BolO (AccO R sv bv b) w lV m gl
 no:¬OwnR R sv bv (b+3)
structure KiI (w:World) (R:Nat) (sv bv:Value) (b m c:Nat) (z:Bool) (fV lV:Value) (gf gl:Nat→Bool):Prop where
 bx:boxP w c (.bool z) fV lV
 f:BolO (AccO R sv bv b) w fV m gf
 la:BolO (AccO R sv bv b) w lV m gl
 no:¬OwnR R sv bv c
 ne:b+3<c
section
variable {X:Nat→Prop} {w0 w w':World} {R m b c:Nat} {sv0 sv sv' bv lv u fV lV kf kl:Value} {S S':List St4} {E E':Nat→Nat→Bool} {n:Nd} {z kz:Bool} {gf gl qf ql:Nat→Bool}
theorem PaI.go (h:PaI X w0 w R sv0 sv bv lv S m E b n u z fV lV gf gl) (hr:RulW (fun k=>(X k∨k=b+3)∨b≤k∧k<b+3) w' R sv' bv lv S' m E') (hg:Gone (OwnR R sv bv) (OwnR R sv' bv) w w'):PaI X w0 w' R sv0 sv' bv lv S' m E' b n u z fV lV gf gl:=
 ⟨h.l.go hr hg,(h.bx.go h.no hg).1,h.f.acc hg,h.la.acc hg,(h.bx.go h.no hg).2⟩
theorem PaI.under (h:PaI X w0 w R sv0 sv bv lv S m E b n u z fV lV gf gl) (hb:Below w.heap.size w w'):PaI X w0 w' R sv0 sv bv lv S m E b n u z fV lV gf gl:=h.go (h.l.r.under hb) (Gone.of_below hb)
theorem PaI.congr (h:PaI X w0 w R sv0 sv bv lv S m E b n u z fV lV gf gl) (he:∀i j,E i j=E' i j):PaI X w0 w R sv0 sv bv lv S m E' b n u z fV lV gf gl:=by
 have:E=E':=funext fun i=>funext fun j=>he i j;rw[←this];exact h
theorem PaI.new3 (h:PaI X w0 w R sv0 sv bv lv S m E b n u z fV lV gf gl) (hX:∀k,w0.heap.size≤k→¬X k):∀k,w.heap.size≤k→¬((X k∨k=b+3)∨b≤k∧k<b+3):=h.l.newX3 hX h.bx.lt
theorem PaI.newA (h:PaI X w0 w R sv0 sv bv lv S m E b n u z fV lV gf gl):∀k,w.heap.size≤k→¬AccO R sv bv b k:=fun k hk e=>by
 have:=h.bx.lt;rcases e with e | e | e
 ·exact h.l.r.ownlt k hk e
 ·omega
 ·omega
theorem PaI.set0 (h:PaI X w0 w R sv0 sv bv lv S m E b n u z fV lV gf gl) (y:Bool):PaI X w0 (w.setCell ⟨b+3,0,none⟩ (.bool y)) R sv0 sv bv lv S m E b n u y fV lV gf gl:=
 ⟨h.l.store,h.bx.set0 _,h.f.store,h.la.store,h.no⟩
theorem PaI.set1 (h:PaI X w0 w R sv0 sv bv lv S m E b n u z fV lV gf gl) (hf:BolO (AccO R sv bv b) w kf m qf):PaI X w0 (w.setCell ⟨b+3,1,none⟩ kf) R sv0 sv bv lv S m E b n u z kf lV qf gl:=
 ⟨h.l.store,h.bx.set1 _,hf.store,h.la.store,h.no⟩
theorem PaI.set2 (h:PaI X w0 w R sv0 sv bv lv S m E b n u z fV lV gf gl) (hl:BolO (AccO R sv bv b) w kl m ql):PaI X w0 (w.setCell ⟨b+3,2,none⟩ kl) R sv0 sv bv lv S m E b n u z fV kl gf ql:=
 ⟨h.l.store,h.bx.set2 _,h.f.store,hl.store,h.no⟩
theorem KiI.go (h:KiI w R sv bv b m c z fV lV gf gl) (hg:Gone (OwnR R sv bv) (OwnR R sv' bv) w w'):KiI w' R sv' bv b m c z fV lV gf gl:=
 ⟨(h.bx.go h.no hg).1,h.f.acc hg,h.la.acc hg,(h.bx.go h.no hg).2,h.ne⟩
theorem KiI.under (h:KiI w R sv bv b m c z fV lV gf gl) (hb:Below w.heap.size w w'):KiI w' R sv bv b m c z fV lV gf gl:=h.go (Gone.of_below hb)
theorem KiI.store {i:Nat} {y:Value} (h:KiI w R sv bv b m c z fV lV gf gl):KiI (w.setCell ⟨b+3,i,none⟩ y) R sv bv b m c z fV lV gf gl:=
 ⟨h.bx.keep (ok:=fun k=>k≠b+3) (keep_set (b+3) i none y w fun h=>h rfl) (by have:=h.ne;omega),h.f.store,h.la.store,h.no,h.ne⟩
theorem KiI.new (hw:PaI X w0 w R sv0 sv bv lv S m E b n u z fV lV gf gl) (hf:BolO (AccO R sv bv b) w kf m qf) (hl:BolO (AccO R sv bv b) w kl m ql):KiI (w.alloc (.cells #[.bool kz,kf,kl] 109)) R sv bv b m w.heap.size kz kf kl qf ql:=
 have hb:=alloc_under w (.cells #[.bool kz,kf,kl] 109)
 ⟨box3.new _ _ _ _ _,hf.under hb,hl.under hb,hw.l.r.ownlt _ (Nat.le_refl _),hw.bx.lt⟩
theorem rows_of (hw:PaI X w0 w R sv0 sv bv lv S m E b n u z fV lV gf gl) (hf:BolO (fun k=>OwnR R sv' bv k∨k<w.heap.size) w' kf m qf):BolO (AccO R sv' bv b) w' kf m qf:=by
 have:=hw.bx.lt;exact hf.mono fun k _ e=>e.imp id fun e=>by omega
theorem bol_form {own:Nat→Prop} {v:Value} {g:Nat→Bool} (h:BolO own w v m g):∃ao cap,v= .slice ao m cap:=by
 obtain⟨_,gg,cc,hh,_⟩:=h;exact⟨_,_,hh⟩
theorem PaI.cells (h:PaI X w0 w R sv0 sv bv lv S m E b n u z fV lV gf gl):((w.cell? ⟨b+3,0,none⟩=some (.bool z)∧w.cell? ⟨b+3,1,none⟩=some fV∧w.cell? ⟨b+3,2,none⟩=some lV)∧w.frozen? ⟨b+3,0,none⟩=false∧w.frozen? ⟨b+3,1,none⟩=false∧w.frozen? ⟨b+3,2,none⟩=false)∧b+3<w.heap.size:=⟨h.bx.cells,h.bx.lt⟩
theorem KiI.cells (h:KiI w R sv bv b m c z fV lV gf gl):(w.cell? ⟨c,0,none⟩=some (.bool z)∧w.cell? ⟨c,1,none⟩=some fV∧w.cell? ⟨c,2,none⟩=some lV)∧c<w.heap.size:=⟨h.bx.cells.1,h.bx.lt⟩
theorem por_any (h:PaI X w0 w R sv0 sv bv lv S m E b n u z fV lV gf gl) {p q:Nat→Bool} {pv qv:Value} (hp:BolO (AccO R sv bv b) w pv m p) (hq:BolO (AccO R sv bv b) w qv m q) (hm:m≤100000):
  Calls Tryz.prog 60 #[pv,qv] w fun e w'=>∃G,e= .returned (.slice (some ⟨G,0,none⟩) m m)∧BolO (AccO R sv bv b) w' (.slice (some ⟨G,0,none⟩) m m) m (orF p q)∧Below w.heap.size w w':=
 (ror_any hp hq hm h.newA).mono fun _ _ ⟨G,h1,_,h2,h3⟩=>⟨G,h1,h2,h3⟩
end
end Go.Proofs.YtjeomlickkpebaaGreatDoor
