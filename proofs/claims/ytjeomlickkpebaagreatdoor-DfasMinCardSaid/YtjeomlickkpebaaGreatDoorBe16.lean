/-
  Texts of this proof, one behind the other; each begins with its own remark.
-/
import Derived.Test.YtjeomlickkpebaaGreatDoorBe15
namespace Go.Proofs.YtjeomlickkpebaaGreatDoor
open Go.RowKit
abbrev Col:=Nat→Nat
def xA (c:Col) (w:World):Prop:=∀k,w.heap.size≤k→c k=0
structure StepC (S:Nat→Prop) (c c':Col) (w w':World):Prop where
 keep:KeepW (fun k=>¬S (c k)) w w'
 same:∀k,k<w.heap.size→c' k=c k
 fresh:xA c' w'
section
variable {S S':Nat→Prop} {c c' c'':Col} {w w' w'':World} {A B:Nat} {T:TypeId} {v:Value} {us:List Value}
theorem xA.below (h:xA c w) (hb:Below w.heap.size w w'):xA c w':=fun k hk=>h k (Nat.le_trans hb.size hk)
theorem StepC.below (hf:xA c w) (hb:Below w.heap.size w w'):StepC S c c w w':=⟨keep_below _ hb,fun _ _=>rfl,hf.below hb⟩
theorem StepC.trans (h:StepC S c c' w w') (g:StepC S c' c'' w' w''):StepC S c c'' w w'' where
 keep:=⟨g.keep.os.trans h.keep.os,g.keep.tape.trans h.keep.tape,g.keep.output.trans h.keep.output,Nat.le_trans h.keep.size g.keep.size,fun k hk ho=>
  (g.keep.same k (Nat.lt_of_lt_of_le hk h.keep.size) (by rw[h.same k hk];exact ho)).trans (h.keep.same k hk ho)⟩
 same:=fun k hk=>(g.same k (Nat.lt_of_lt_of_le hk h.keep.size)).trans (h.same k hk)
 fresh:=g.fresh
theorem StepC.mono (h:StepC S c c' w w') (hm:∀a,S a→S' a):StepC S' c c' w w':=⟨h.keep.mono fun _ _ hk hs=>hk (hm _ hs),h.same,h.fresh⟩
theorem StepC.under {n:Nat} (h:StepC S c c' w w') {w0:World} (hb:Below n w0 w) (hn:n≤w.heap.size) (hc:∀k,k<n→¬S (c k)):Below n w0 w':=KeepW.below hb h.keep hn hc
structure RowC (c:Col) (A:Nat) (T:TypeId) (w:World) (v:Value) (us:List Value):Prop where
 own:w.ownsRow 0 T 1 v us.length us
 col:∀k,v.ownBlock=some k→c k=A
theorem RowC.nil (c:Col) (A:Nat) (T:TypeId) (w:World):RowC c A T w (.slice none 0 0) []:=⟨World.ownsRow_nil _ _ _ _,fun k e=>by cases e⟩
theorem RowC.lt (h:RowC c A T w v us):∀k,v.ownBlock=some k→k<w.heap.size:=fun k e=>(World.ownsRow.lt h.own k e).2
theorem RowC.step (h:RowC c A T w v us) (hs:StepC S c c' w w') (hA:¬S A):RowC c' A T w' v us:=
 ⟨zF h.own hs.keep fun k e=>by rw[h.col k e];exact hA,fun k e=>by rw[hs.same k (h.lt k e)];exact h.col k e⟩
theorem RowC.form (h:RowC c A T w v us):∃ao cap,v= .slice ao us.length cap∧us.length≤cap:=by
 obtain⟨ao,cap,hv,hn,_⟩:=Zc h.own;exact⟨ao,cap,hv,hn⟩
theorem RowC.rowZ (h:RowC c A T w v us):jO (fun k=>c k=A) w v us.length us:=by
 obtain⟨hl,⟨rfl,h0⟩ | ⟨g,cap,cur,rfl,h3,hg,hn,_,_,hx⟩⟩:=h.own
 ·have:us= []:=List.eq_nil_of_length_eq_zero h0;subst this;exact jO.nil _ _
 ·refine⟨_,cap,rfl,hn,fun j u hu=>⟨g,0,rfl,h.col g rfl,?_⟩⟩;rw[Nat.zero_add,cell_of_row _ _ _ cur T (0,0) hg];rw[←hx,List.getElem?_take] at hu;split at hu
  ·rw[←Array.getElem?_toList];exact hu
  ·cases hu
theorem RowC.push {z:Value} {b X:Nat} {u:Value} (hf:xA c w) (h:RowC c A T w v us) (t ty:TypeId) (ht:Tryz.prog.underlying t=some (.slice T)) (hi:(Tryz.prog.info? T).map (fun i=>(i.zero,i.size,i.bytes))=some (some z,1,b)) (hz:z.cells.size=1) (hb:b≤1000)
  (hX:w.cell? ⟨X,0,none⟩=some u) (hu:u.oneCell'=true) (hs:us.length≤100000):
  ∃ao cap w' c',(Builtin.append_ #[t,t] ty #[v,.slice (some ⟨X,0,none⟩) 1 1]).run Tryz.prog w= .ok (.slice ao (us.length+1) cap) w'∧RowC c' A T w' (.slice ao (us.length+1) cap) (us++ [u])∧StepC (fun a=>a=A) c c' w w':=by
 obtain⟨i0,hi1,hz0,hz1,hz2⟩:=xJ hi;have hn:∀(j:Nat) (x:Value),[u][j]? =some x→w.cell? ((⟨X,0,none⟩:Addr).add j)=some x:=fun j x hx=>by
  have hj:=(List.getElem?_eq_some_iff.1 hx).1;have:j=0:=by simpa using hj
  subst this;rw[Zr];simp at hx;rw[←hx];exact hX
 obtain⟨v',w',hr,hown',hgr,_,hat⟩:=run_append_own_at (P:=Tryz.prog) w 0 t ty T i0 z 1 b ht hi1 hz0 hz1 hz2 hz (by decide) v us.length us h.own ⟨X,0,none⟩ 1 1 [u] rfl hn (fun x hx=>by rw[List.mem_singleton.1 hx];exact hu) (by unfold maxLen;omega) (by
  have:(us.length+1)*b≤100001*1000:=Nat.mul_le_mul (by omega) hb;omega) (Nat.zero_le _)
 have hkeep:KeepW (fun k=>¬c k=A) w w':=⟨hgr.os,hgr.tape,hgr.output,hgr.size,fun k hk hne=>hgr.block k hk fun e=>hne (h.col k (by rw[←e]))⟩;have hlen:(us++ [u]).length=us.length+1:=by rw[List.length_append];rfl
 obtain⟨ao,cap,rfl,_⟩:=Zc hown';refine⟨ao,cap,w',fun k=>if k=w.heap.size∧(Value.slice ao (us.length+1) cap).ownBlock=some k then A else c k,hr,⟨by rw[hlen];exact hown',fun k e=> ?_⟩,hkeep,fun k hk=>if_neg (by omega),fun k hk=> ?_⟩
 ·rcases hat with hat | hat
  ·have h2:=h.col k (by rw[←hat];exact e);have h3:=h.lt k (by rw[←hat];exact e);rw[if_neg (by omega)];exact h2
  ·have:k=w.heap.size:=(by rw[hat] at e;exact (Option.some.inj e).symm);exact if_pos ⟨this,e⟩
 ·rw[if_neg]
  ·exact hf k (Nat.le_trans hgr.size hk)
  ·rintro⟨rfl,e⟩;have:=(World.ownsRow.lt hown' _ e).2;omega
def pale (c:Col) (A:Nat):Col:=fun k=>if c k=A then 0 else c k
theorem jF {k:Nat} (h:c k=0):pale c A k=0:=by unfold pale;split<;>simp[h]
theorem zDB {k:Nat} (h:c k=A):pale c A k=0:=if_pos h
theorem zu {k:Nat} (h:c k=B) (hB:B≠A):pale c A k=B:=by unfold pale;rw[if_neg (by omega)];exact h
theorem xA.pale (h:xA c w):xA (pale c A) w:=fun k hk=>jF (h k hk)
theorem RowC.pale (h:RowC c B T w v us) (hB:B≠A):RowC (pale c A) B T w v us:=⟨h.own,fun k e=>zu (h.col k e) hB⟩
theorem RowC.done (h:RowC c A T w v us):jO (fun k=>Go.Proofs.YtjeomlickkpebaaGreatDoor.pale c A k=0) w v us.length us:=h.rowZ.mono fun _ _ e=>zDB e
def QP (c:Col) (w:World) (v:Value) (m:Nat) (f:Nat→Bool):Prop:=BolO (fun k=>c k≠0) w v m f
variable {m:Nat} {f:Nat→Bool}
theorem QP.step (h:QP c w v m f) (hs:StepC S c c' w w') (h0:¬S 0):QP c' w' v m f:=
 BolO.go h ⟨hs.keep.mono fun k _ hk e=>by
  have:c k=0:=Classical.byContradiction hk;rw[this] at e;exact h0 e,fun k e=>by
  by_cases hk:k<w.heap.size
  ·left;rw[←hs.same k hk];exact e
  ·right;omega⟩
theorem QP.pale (h:QP c w v m f):QP (pale c A) w v m f:=BolO.mono h fun _ _ e e2=>e (jF e2)
theorem QP.read (h:QP c w v m f):BolO (fun _=>False) w v m f:=BolO.mono h fun _ _ e=>e.elim
theorem QP.of (hf:xA c w) (h:BolO (fun k=>k<w.heap.size) w' v m f):QP c w' v m f:=BolO.mono h fun k _ e=>by
 by_cases hk:k<w.heap.size
 ·exact hk
 ·exact absurd (hf k (by omega)) e
def yO (c:Col) (w:World) (v:Value) (cs:List Value):Prop:=jO (fun k=>c k=0) w v cs.length cs
theorem yO.step {cs:List Value} (h:yO c w v cs) (hs:StepC S c c' w w') (h0:¬S 0):yO c' w' v cs:=by
 obtain⟨ao,cap,hv,hn,hc⟩:=h;refine⟨ao,cap,hv,hn,fun j u hu=> ?_⟩;obtain⟨g,o,ha,ho,hg⟩:=hc j u hu;exact⟨g,o,ha,by show c' g=0;rw[hs.same g (rlt hg)];exact ho,hs.keep.cell hg (by rw[ho];exact h0)⟩
theorem yO.pale {cs:List Value} (h:yO c w v cs):yO (pale c A) w v cs:=jO.mono h fun _ _ e=>jF e
theorem RowC.cel (h:RowC c A T w v us):yO (Go.Proofs.YtjeomlickkpebaaGreatDoor.pale c A) w v us:=h.done
theorem yO.read {cs:List Value} (h:yO c w v cs):jO (fun _=>True) w v cs.length cs:=jO.mono h fun _ _ _=>trivial
end
def Qg (w:World) (v:Value) (rs:List RuN):Prop:=
 ∃us:List Value,us.length=rs.length∧jO (fun _=>True) w v rs.length us∧∀(i:Nat) (r:RuN) (u:Value),rs[i]? =some r→us[i]? =some u→∃p,u= .pointer p∧RuR w u r
theorem Qg.below {w w':World} {v:Value} {rs:List RuN} (h:Qg w v rs) (hb:Below w.heap.size w w'):Qg w' v rs:=by
 obtain⟨us,h1,h2,h3⟩:=h;refine⟨us,h1,h2.keep (keep_below _ hb) fun _ _ h=>h,fun i r u hr hu=> ?_⟩;obtain⟨p,h4,h5⟩:=h3 i r u hr hu;exact⟨p,h4,h5.below hb⟩
theorem Qg.form {w:World} {v:Value} {rs:List RuN} (h:Qg w v rs):∃ao cap,v= .slice ao rs.length cap∧rs.length≤cap:=by
 obtain⟨us,h1,⟨ao,cap,hv,hn,_⟩,_⟩:=h;exact⟨ao,cap,hv,hn⟩
theorem Qg.get {w:World} {v:Value} {rs:List RuN} {i:Nat} {r:RuN} (h:Qg w v rs) (hi:rs[i]? =some r):∃g o cap p,v= .slice (some ⟨g,o,none⟩) rs.length cap∧w.cell? ⟨g,o+i,none⟩=some (.pointer p)∧RuR w (.pointer p) r:=by
 obtain⟨us,h1,⟨ao,cap,hv,hn,hc⟩,h3⟩:=h;have hk:=(List.getElem?_eq_some_iff.1 hi).1;obtain⟨u,hu⟩:∃u,us[i]? =some u:=⟨_,List.getElem?_eq_getElem (by omega)⟩;obtain⟨p,rfl,h5⟩:=h3 i r u hi hu;obtain⟨g,o,ha,_,hg⟩:=hc i _ hu;exact⟨g,o,cap,p,by rw[hv,ha],hg,h5⟩
structure PaI (X:Nat→Prop) (w0 w:World) (R:Nat) (sv0 sv bv lv:Value) (S:List St4) (m:Nat) (E:Nat→Nat→Bool) (b:Nat) (n:Nd) (u:Value) (z:Bool) (fV lV:Value) (gf gl:Nat→Bool):Prop where
 l:LayF (fun k=>X k∨k=b+3) w0 w R sv0 sv bv lv S m E b n u
 bx:zHH w (b+3) (.bool z) fV lV
 f:BolO (Zb R sv bv b) w fV m gf
 la:BolO (Zb R sv bv b) w lV m gl
 no:¬zq R sv bv (b+3)
structure KiI (w:World) (R:Nat) (sv bv:Value) (b m c:Nat) (z:Bool) (fV lV:Value) (gf gl:Nat→Bool):Prop where
 bx:zHH w c (.bool z) fV lV
 f:BolO (Zb R sv bv b) w fV m gf
 la:BolO (Zb R sv bv b) w lV m gl
 no:¬zq R sv bv c
 ne:b+3<c
section
variable {X:Nat→Prop} {w0 w w':World} {R m b c:Nat} {sv0 sv sv' bv lv u fV lV kf kl:Value} {S S':List St4} {E E':Nat→Nat→Bool} {n:Nd} {z kz:Bool} {gf gl qf ql:Nat→Bool}
theorem PaI.go (h:PaI X w0 w R sv0 sv bv lv S m E b n u z fV lV gf gl) (hr:qF (fun k=>(X k∨k=b+3)∨b≤k∧k<b+3) w' R sv' bv lv S' m E') (hg:Gone (zq R sv bv) (zq R sv' bv) w w'):PaI X w0 w' R sv0 sv' bv lv S' m E' b n u z fV lV gf gl:=
 ⟨h.l.go hr hg,(h.bx.go h.no hg).1,h.f.acc hg,h.la.acc hg,(h.bx.go h.no hg).2⟩
theorem PaI.under (h:PaI X w0 w R sv0 sv bv lv S m E b n u z fV lV gf gl) (hb:Below w.heap.size w w'):PaI X w0 w' R sv0 sv bv lv S m E b n u z fV lV gf gl:=h.go (h.l.r.under hb) (Gone.of_below hb)
theorem PaI.congr (h:PaI X w0 w R sv0 sv bv lv S m E b n u z fV lV gf gl) (he:∀i j,E i j=E' i j):PaI X w0 w R sv0 sv bv lv S m E' b n u z fV lV gf gl:=by
 have:E=E':=funext fun i=>funext fun j=>he i j;rw[←this];exact h
theorem PaI.new3 (h:PaI X w0 w R sv0 sv bv lv S m E b n u z fV lV gf gl) (hX:∀k,w0.heap.size≤k→¬X k):∀k,w.heap.size≤k→¬((X k∨k=b+3)∨b≤k∧k<b+3):=h.l.newX3 hX h.bx.lt
theorem PaI.newA (h:PaI X w0 w R sv0 sv bv lv S m E b n u z fV lV gf gl):∀k,w.heap.size≤k→¬Zb R sv bv b k:=fun k hk e=>by
 have:=h.bx.lt;rcases e with e | e | e
 ·exact h.l.r.ownlt k hk e
 ·omega
 ·omega
theorem PaI.set0 (h:PaI X w0 w R sv0 sv bv lv S m E b n u z fV lV gf gl) (y:Bool):PaI X w0 (w.setCell ⟨b+3,0,none⟩ (.bool y)) R sv0 sv bv lv S m E b n u y fV lV gf gl:=
 ⟨h.l.store,h.bx.set0 _,h.f.store,h.la.store,h.no⟩
theorem PaI.set1 (h:PaI X w0 w R sv0 sv bv lv S m E b n u z fV lV gf gl) (hf:BolO (Zb R sv bv b) w kf m qf):PaI X w0 (w.setCell ⟨b+3,1,none⟩ kf) R sv0 sv bv lv S m E b n u z kf lV qf gl:=
 ⟨h.l.store,h.bx.set1 _,hf.store,h.la.store,h.no⟩
theorem PaI.set2 (h:PaI X w0 w R sv0 sv bv lv S m E b n u z fV lV gf gl) (hl:BolO (Zb R sv bv b) w kl m ql):PaI X w0 (w.setCell ⟨b+3,2,none⟩ kl) R sv0 sv bv lv S m E b n u z fV kl gf ql:=
 ⟨h.l.store,h.bx.set2 _,h.f.store,hl.store,h.no⟩
theorem KiI.go (h:KiI w R sv bv b m c z fV lV gf gl) (hg:Gone (zq R sv bv) (zq R sv' bv) w w'):KiI w' R sv' bv b m c z fV lV gf gl:=
 ⟨(h.bx.go h.no hg).1,h.f.acc hg,h.la.acc hg,(h.bx.go h.no hg).2,h.ne⟩
theorem KiI.under (h:KiI w R sv bv b m c z fV lV gf gl) (hb:Below w.heap.size w w'):KiI w' R sv bv b m c z fV lV gf gl:=h.go (Gone.of_below hb)
theorem KiI.store {i:Nat} {y:Value} (h:KiI w R sv bv b m c z fV lV gf gl):KiI (w.setCell ⟨b+3,i,none⟩ y) R sv bv b m c z fV lV gf gl:=
 ⟨h.bx.keep (ok:=fun k=>k≠b+3) (zE (b+3) i none y w fun h=>h rfl) (by have:=h.ne;omega),h.f.store,h.la.store,h.no,h.ne⟩
theorem KiI.new (hw:PaI X w0 w R sv0 sv bv lv S m E b n u z fV lV gf gl) (hf:BolO (Zb R sv bv b) w kf m qf) (hl:BolO (Zb R sv bv b) w kl m ql):KiI (w.alloc (.cells #[.bool kz,kf,kl] 109)) R sv bv b m w.heap.size kz kf kl qf ql:=
 have hb:=zA w (.cells #[.bool kz,kf,kl] 109)
 ⟨box3.new _ _ _ _ _,hf.under hb,hl.under hb,hw.l.r.ownlt _ (Nat.le_refl _),hw.bx.lt⟩
theorem rows_of (hw:PaI X w0 w R sv0 sv bv lv S m E b n u z fV lV gf gl) (hf:BolO (fun k=>zq R sv' bv k∨k<w.heap.size) w' kf m qf):BolO (Zb R sv' bv b) w' kf m qf:=by
 have:=hw.bx.lt;exact hf.mono fun k _ e=>e.imp id fun e=>by omega
theorem xP {own:Nat→Prop} {v:Value} {g:Nat→Bool} (h:BolO own w v m g):∃ao cap,v= .slice ao m cap:=by
 obtain⟨_,gg,cc,hh,_⟩:=h;exact⟨_,_,hh⟩
theorem PaI.cells (h:PaI X w0 w R sv0 sv bv lv S m E b n u z fV lV gf gl):((w.cell? ⟨b+3,0,none⟩=some (.bool z)∧w.cell? ⟨b+3,1,none⟩=some fV∧w.cell? ⟨b+3,2,none⟩=some lV)∧w.frozen? ⟨b+3,0,none⟩=false∧w.frozen? ⟨b+3,1,none⟩=false∧w.frozen? ⟨b+3,2,none⟩=false)∧b+3<w.heap.size:=⟨h.bx.cells,h.bx.lt⟩
theorem KiI.cells (h:KiI w R sv bv b m c z fV lV gf gl):(w.cell? ⟨c,0,none⟩=some (.bool z)∧w.cell? ⟨c,1,none⟩=some fV∧w.cell? ⟨c,2,none⟩=some lV)∧c<w.heap.size:=⟨h.bx.cells.1,h.bx.lt⟩
theorem vV (h:PaI X w0 w R sv0 sv bv lv S m E b n u z fV lV gf gl) {p q:Nat→Bool} {pv qv:Value} (hp:BolO (Zb R sv bv b) w pv m p) (hq:BolO (Zb R sv bv b) w qv m q) (hm:m≤100000):
  Calls Tryz.prog 60 #[pv,qv] w fun e w'=>∃G,e= .returned (.slice (some ⟨G,0,none⟩) m m)∧BolO (Zb R sv bv b) w' (.slice (some ⟨G,0,none⟩) m m) m (orF p q)∧Below w.heap.size w w':=
 (zA5 hp hq hm h.newA).mono fun _ _ ⟨G,h1,_,h2,h3⟩=>⟨G,h1,h2,h3⟩
end
end Go.Proofs.YtjeomlickkpebaaGreatDoor
