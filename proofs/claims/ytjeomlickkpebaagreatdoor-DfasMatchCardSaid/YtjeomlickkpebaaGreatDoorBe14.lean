/-
  Texts of this proof, one behind the other; each begins with its own remark.
-/
import Derived.Deep.RegionLaw
import Derived.Test.YtjeomlickkpebaaGreatDoorBe2
import Derived.Test.YtjeomlickkpebaaGreatDoorBe13
namespace Go.Proofs.YtjeomlickkpebaaGreatDoor
open Go.RowKit
theorem napp_step {w w':World} {v u v':Value} {ops:Array Oper} {o:Oper} {a:Act} {K:Act→World→Prop} {Q:Exit→Act→World→Prop} {E:Prop} (hgd:o.guard=none) (s x:Operand) (t:TypeId)
  (ho:o.op= .call ⟨ .builtin .append,#[s,x],#[t,t]⟩)
  (hs:a.eval s=v) (hx:a.eval x=u) (hr:(Builtin.append_ #[t,t] o.type #[v,u]).run Tryz.prog w= .ok v' w') (h:K (a.put o.dst v') w'):
  if Region.wanted o (yielded ops a.tmps)=true then Oper.wp Tryz.prog o a w K Q else E:=by
 have hw:Region.wanted o (yielded ops a.tmps)=true:=by simp[Region.wanted,hgd]
 rw[if_pos hw];unfold Oper.wp execOp;simp only[ho,resolve,invoke,builtin,Sem.run_bind,Sem.run_pure,Result.andThen_ok,List.map_toArray,List.map_cons,List.map_nil,hs,hx,hr];exact h
def staV (s:Sta):Value:= .agg #[.int .i64 (s.kind:Int),.int .u64 (s.set.1:Int),.int .u64 (s.set.2.1:Int),.int .u64 (s.set.2.2.1:Int),.int .u64 (s.set.2.2.2:Int),.int .i64 (s.next:Int),.int .i64 (s.also:Int),.int .i64 (s.rule:Int)]
structure NfaC (P:Nat→Prop) (w:World) (B:Nat) (q:List Sta) (first:List Int) (sv fv:Value):Prop where
 b:boxF w B sv fv
 s:OwnS w sv q
 f:OwnI 0 w fv first
 nb:¬P B
 ns:∀k,sv.ownBlock=some k→¬P k∧k≠B∧fv.ownBlock≠some k
 nf:∀k,fv.ownBlock=some k→¬P k∧k≠B
section
variable {P:Nat→Prop} {w w':World} {B:Nat} {q:List Sta} {first:List Int} {sv fv:Value}
def NfaE (P:Nat→Prop) (w:World) (B:Nat) (q:List Sta) (first:List Int) (fv:Value):Prop:=∃sv,NfaC P w B q first sv fv
theorem NfaE.asB (h:NfaE P w B q first fv):NfaB P w B q first:=by
 obtain⟨sv,h⟩:=h;exact⟨sv,fv,h.b,h.s,h.f,h.nb,h.ns,h.nf⟩
theorem NfaE.lt (h:NfaE P w B q first fv):B<w.heap.size:=by
 obtain⟨sv,h⟩:=h;exact h.b.lt
theorem NfaE.mono {P':Nat→Prop} (h:NfaE P w B q first fv) (hm:∀k,P' k→P k):NfaE P' w B q first fv:=by
 obtain⟨sv,h⟩:=h;exact⟨sv,h.b,h.s,h.f,fun x=>h.nb (hm _ x),fun k e=>⟨fun x=>(h.ns k e).1 (hm _ x),(h.ns k e).2⟩,fun k e=>⟨fun x=>(h.nf k e).1 (hm _ x),(h.nf k e).2⟩⟩
theorem NfaC.under (h:NfaC P w B q first sv fv) (hb:Below w.heap.size w w'):NfaC P w' B q first sv fv:=
 ⟨h.b.keep (keep_below (fun _=>True) hb) trivial,ownRow_keep h.s (keep_below (fun _=>True) hb) fun _ _=>trivial,h.f.below hb,h.nb,h.ns,h.nf⟩
theorem NfaE.under (h:NfaE P w B q first fv) (hb:Below w.heap.size w w'):NfaE P w' B q first fv:=by
 obtain⟨sv,h⟩:=h;exact⟨sv,h.under hb⟩
theorem NfaE.also (h:NfaE P w B q first fv) (hb:Below w.heap.size w w'):NfaE (fun k=>P k∨k=w.heap.size) w' B q first fv:=by
 obtain⟨sv,h⟩:=h;have hlt:=h.b.lt;have l2:=World.ownsRow.lt h.s;have l3:=World.ownsRow.lt h.f;have h':=h.under hb;refine⟨sv,h'.b,h'.s,h'.f,fun x=>x.elim h.nb fun e=>by omega,fun k e=>⟨fun x=>x.elim (h.ns k e).1 fun e2=> ?_,(h.ns k e).2⟩,fun k e=>⟨fun x=>x.elim (h.nf k e).1 fun e2=> ?_,(h.nf k e).2⟩⟩
 ·have:=l2 k e;omega
 ·have:=l3 k e;omega
theorem ownS_form {w:World} {v:Value} {q:List Sta} (h:OwnS w v q):∃ao cap,v= .slice ao q.length cap∧q.length≤cap:=by
 obtain⟨ao,cap,hv,hn,_⟩:=ownZ h;exact⟨ao,cap,hv,hn⟩
theorem NfaC.push {X:Nat} {s:Sta} (h:NfaC P w B q first sv fv) (hP:∀k,w.heap.size≤k→¬P k) (t ty:TypeId) (ht:Tryz.prog.underlying t=some (.slice 99)) (hX:∀(j:Nat) x,(staC s)[j]? =some x→w.cell? ⟨X,j,none⟩=some x) (hs:q.length≤100000):
  ∃ao cap w',(Builtin.append_ #[t,t] ty #[sv,.slice (some ⟨X,0,none⟩) 1 1]).run Tryz.prog w= .ok (.slice ao (q.length+1) cap) w'∧w'.cell? ⟨B,0,none⟩=some sv∧w'.frozen? ⟨B,0,none⟩=false∧B<w'.heap.size ∧
   (w'.setCell ⟨B,0,none⟩ (.slice ao (q.length+1) cap)).cell? ⟨B,0,none⟩=some (.slice ao (q.length+1) cap)∧NfaE P (w'.setCell ⟨B,0,none⟩ (.slice ao (q.length+1) cap)) B (q++ [s]) first fv∧KeepW P w (w'.setCell ⟨B,0,none⟩ (.slice ao (q.length+1) cap)):=by
 obtain⟨v',w',hr,h1,h2,h3⟩:=run_snocS t ty ht h.s hX hs;obtain⟨ao,cap,hv,_⟩:=ownS_form h1;rw[List.length_append] at hv;have hv:v'= .slice ao (q.length+1) cap:=hv;subst hv;have hBl:=h.b.lt;have hno:sv.ownBlock≠some B:=fun e=>(h.ns B e).2.1 rfl;have hb:=h.b.keep h2 hno;have hf:OwnI 0 w' fv first:=ownRow_keep h.f h2 fun k e e2=>(h.ns k e2).2.2 e;have hk:KeepW (fun k=>k≠B) w' (w'.setCell ⟨B,0,none⟩ (.slice ao (q.length+1) cap)):=keep_set B 0 none _ w' fun h=>h rfl;have hnew:∀k,(Value.slice ao (q.length+1) cap).ownBlock=some k→¬P k∧k≠B∧fv.ownBlock≠some k:=fun k e=>by
  rcases h3 k e with e | e
  ·exact h.ns k e
  ·rw[e];refine⟨hP _ (Nat.le_refl _),by omega,fun e2=> ?_⟩;have:=(World.ownsRow.lt h.f _ e2).2;omega
 refine⟨ao,cap,w',hr,hb.cells.1.1,hb.cells.2.1,hb.lt,(hb.set0 _).cells.1.1,⟨_,hb.set0 _,ownRow_keep h1 hk fun k e=>(hnew k e).2.1,ownRow_keep hf hk fun k e=>(h.nf k e).2,h.nb,hnew,h.nf⟩,?_⟩;exact (h2.mono fun k _ hp e=>(h.ns k e).1 hp).trans (hk.mono fun k _ hp e=>h.nb (by rw[←e];exact hp))
set_option maxRecDepth 4000 in
set_option maxHeartbeats 4000000 in
theorem nadd_any (h:NfaE P w B q first fv) (hP:∀k,w.heap.size≤k→¬P k) (s:Sta) (hlen:q.length≤100000):
  Calls Tryz.prog 52 #[.pointer (some ⟨B,0,none⟩),staV s] w fun e w'=>e= .returned (.int .i64 (q.length:Int))∧NfaE P w' B (q++ [s]) first fv∧KeepW P w w':=by
 have hlt:=h.lt;obtain⟨sv,hc⟩:=h;unfold staV;obtain⟨so,sc,hsv,_⟩:=ownS_form hc.s;have hb1:=alloc_under w (.cells #[.int .i64 (s.kind:Int),.int .u64 (s.set.1:Int),.int .u64 (s.set.2.1:Int),.int .u64 (s.set.2.2.1:Int),.int .u64 (s.set.2.2.2:Int),.int .i64 (s.next:Int),.int .i64 (s.also:Int),.int .i64 (s.rule:Int)] 99);have HB:=qh hb1;have HC:=qh (fun W (hb:Below w.heap.size w W)=>(hc.under hb).b.cells);have HA:=qh (fun W (X:Nat) ty (hb:Below w.heap.size w W) (hX:∀(j:Nat) x,(staC s)[j]? =some x→W.cell? ⟨X,j,none⟩=some x)=>(hc.under hb).push (fun k hk=>hP k (Nat.le_trans hb.size hk)) 66 ty Tryz.underlying66 hX hlen);have HN:=qh hlen;have hnl:(q.length:Int)≤100000:=by omega
 have hbox:∀W:World,∀(j:Nat) x,(staC s)[j]? =some x→(W.alloc (.cells (staC s).toArray 99)).cell? ⟨W.heap.size,j,none⟩=some x:=fun W j x hx=>by
  rw[cell_of_row _ _ j _ _ (0,0) (heap_alloc_new W _),List.getElem?_toArray];exact hx
 have HX:=qh hbox;have HL:=qh (fun W (hb:Below w.heap.size w W)=>Nat.lt_of_lt_of_le hlt hb.size);subst hsv;clear hc hP hlen hb1 hbox hlt;go_enter Tryz.func52,Tryz.ntmps52;go_upto_region 1 with (fail)
 obtain⟨W1,hW1⟩:∃W1,w.alloc (.cells #[.int .i64 (s.kind:Int),.int .u64 (s.set.1:Int),.int .u64 (s.set.2.1:Int),.int .u64 (s.set.2.2.1:Int),.int .u64 (s.set.2.2.2:Int),.int .i64 (s.next:Int),.int .i64 (s.also:Int),.int .i64 (s.rule:Int)] 99)=W1:=⟨_,rfl⟩;(try rw[hW1]);have x0:=hW1▸HX.out w;rw[hW1] at HB;have hXl:w.heap.size<W1.heap.size:=by rw[←hW1];rw[alloc_size];omega
 obtain⟨X,hXe⟩:∃X,w.heap.size=X:=⟨_,rfl⟩;(try rw[hXe]);rw[hXe] at x0 hXl;clear hW1;obtain⟨⟨b0,_⟩,g0,_⟩:=HC.out W1 HB.out;have hBl:=HL.out W1 HB.out;have y0:=x0 0 _ rfl;have y1:=x0 1 _ rfl;have y2:=x0 2 _ rfl;have y3:=x0 3 _ rfl;have y4:=x0 4 _ rfl;have y5:=x0 5 _ rfl;have y6:=x0 6 _ rfl;have y7:=x0 7 _ rfl;have HAS:=qh (fun (W:World) ty (hb:Below w.heap.size w W)=>HA.out (W.alloc (.cells #[.int .i64 (s.kind:Int),.int .u64 (s.set.1:Int),.int .u64 (s.set.2.1:Int),.int .u64 (s.set.2.2.1:Int),.int .u64 (s.set.2.2.2:Int),.int .i64 (s.next:Int),.int .i64 (s.also:Int),.int .i64 (s.rule:Int)] 99)) W.heap.size ty (hb.alloc (Nat.le_trans (Nat.le_of_eq rfl) hb.size) _) (HX.out W));have kb:=HB.out;have kd:=kb.drew;have kb0:=qh (kb.alloc (by show w.heap.size≤W1.heap.size;omega) (.cells #[.int .i64 (s.kind:Int),.int .u64 (s.set.1:Int),.int .u64 (s.set.2.1:Int),.int .u64 (s.set.2.2.1:Int),.int .u64 (s.set.2.2.2:Int),.int .i64 (s.next:Int),.int .i64 (s.also:Int),.int .i64 (s.rule:Int)] 99));have kd0:=qh (kd.alloc (by show w.heap.size≤W1.heap.size;omega) (.cells #[.int .i64 (s.kind:Int),.int .u64 (s.set.1:Int),.int .u64 (s.set.2.1:Int),.int .u64 (s.set.2.2.1:Int),.int .u64 (s.set.2.2.2:Int),.int .i64 (s.next:Int),.int .i64 (s.also:Int),.int .i64 (s.rule:Int)] 99));have HE:=qh (fun (W:World) (ao:Option Addr) (cp:Nat) (h1:NfaE P (W.setCell ⟨B,0,none⟩ (.slice ao (q.length+1) cp)) B (q++ [s]) first fv) (h2:KeepW P w (W.setCell ⟨B,0,none⟩ (.slice ao (q.length+1) cp)))=>And.intro h1 h2);clear x0
 go_region_law (first
  | (obtain⟨ao,cp,w5,hr,d0,f0,hl5,d1,hN5,hk5⟩:=HAS.out _ 66 kb;(refine napp_step (by rfl) (.tmp 9) (.tmp 11) 66 (by rfl) (by rfl) (by rfl) hr ?_))
  | (obtain⟨ao,cp,w5,hr,d0,f0,hl5,d1,hN5,hk5⟩:=HAS.out _ 66 kd;(refine napp_step (by rfl) (.tmp 9) (.tmp 11) 66 (by rfl) (by rfl) (by rfl) hr ?_)))
 all_goals
  obtain⟨hE1,hE2⟩:=HE.out w5 ao cp hN5 (by first | exact (keep_below _ kb0.out).trans hk5 | exact (keep_below _ kd0.out).trans hk5);have HE3:=qh (And.intro hE1 hE2);clear HE hE1 hE2 hN5 hk5 HA HAS HC HX HL;go_wp2_with fail
  go_ret
 all_goals exact⟨rfl,HE3.out⟩
theorem nfork_any (h:NfaE P w B q first fv) (hP:∀k,w.heap.size≤k→¬P k) (a b:Nat) (hlen:q.length≤100000):
  Calls Tryz.prog 70 #[.pointer (some ⟨B,0,none⟩),.int .i64 (a:Int),.int .i64 (b:Int)] w fun e w'=>e= .returned (.int .i64 (q.length:Int))∧NfaE P w' B (q++ [forkS a b]) first fv∧KeepW P w w':=by
 have H:=qh (show Calls Tryz.prog 52 #[.pointer (some ⟨B,0,none⟩),.agg #[.int .i64 1,.int .u64 0,.int .u64 0,.int .u64 0,.int .u64 0,.int .i64 (a:Int),.int .i64 (b:Int),.int .i64 0]] w fun e w'=>e= .returned (.int .i64 (q.length:Int))∧NfaE P w' B (q++ [forkS a b]) first fv∧KeepW P w w' from nadd_any h hP (forkS a b) hlen);clear h hP hlen;go_enter Tryz.func70,Tryz.ntmps70;go_wp2_with fail
 go_fit H.out;rintro e w2 ⟨rfl,h1,h2⟩;have HX:=qh (And.intro h1 h2);clear h1 h2;go_wp2_with fail
 go_ret
 exact⟨rfl,HX.out⟩
end
end Go.Proofs.YtjeomlickkpebaaGreatDoor
namespace Go.Proofs.YtjeomlickkpebaaGreatDoor
open Go.RowKit
theorem getD_set2 {l:List Bool} {a i:Nat} (b:Bool) (h:a<l.length):(l.set a b).getD i false=if i=a then b else l.getD i false:=by
 simp only[List.getD_eq_getElem?_getD,List.getElem?_set];by_cases e:a=i
 ·subst e;simp[h]
 ·rw[if_neg e,if_neg (fun x=>e x.symm)]
structure OrW (w0 w:World) (G m i:Nat) (h:Nat→Bool):Prop where
 m:∃M,blkM w G M∧M.length=m∧∀j,j<i→M.getD j false=h j
 b:Below w0.heap.size w0 w
 g:G=w0.heap.size
theorem OrW.store {w0 w:World} {G m i:Nat} {h:Nat→Bool} (hW:OrW w0 w G m i h) (hi:i<m) (b:Bool) (hb:b=h i):(∃y,w.cell? ⟨G,i,none⟩=some y)∧w.frozen? ⟨G,i,none⟩=false∧G<w.heap.size∧OrW w0 (w.setCell ⟨G,i,none⟩ (.bool b)) G m (i+1) h:=by
 obtain⟨⟨M,h1,h2,h3⟩,h4,h5⟩:=hW;have hk:KeepW (fun k=>k≠G) w (w.setCell ⟨G,i,none⟩ (.bool b)):=keep_set G i none _ w fun h=>h rfl;refine⟨⟨_,h1.at_ (by omega) false⟩,h1.frozen i,h1.lt,⟨M.set i b,h1.set i b,by rw[List.length_set];exact h2,fun j hj=> ?_⟩,KeepW.below h4 hk h4.size fun k hk=>by omega,h5⟩;rw[getD_set2 b (by omega)];split
 ·rename_i e;rw[e,hb]
 ·exact h3 j (by omega)
section
variable {own o1 o2:Nat→Prop} {w:World} {u v:Value} {m:Nat} {f g:Nat→Bool}
set_option maxRecDepth 4000 in
set_option maxHeartbeats 4000000 in
theorem ror_any (hu:BolO o1 w u m f) (hv:BolO o2 w v m g) (hm:m≤100000) (hown:∀k,w.heap.size≤k→¬own k):
  Calls Tryz.prog 60 #[u,v] w fun e w'=>∃G,e= .returned (.slice (some ⟨G,0,none⟩) m m)∧w.heap.size≤G∧BolO own w' (.slice (some ⟨G,0,none⟩) m m) m (orF f g)∧Below w.heap.size w w':=by
 have HU:=qh (fun (W:World) (hb:Below w.heap.size w W)=>And.intro (hu.under hb) (hv.under hb));obtain⟨hm0,gu,cu,rfl,hcu,_,_⟩:=hu;obtain⟨_,gv,cv,rfl,hcv,_,_⟩:=hv;have hmk:=nmake m (by omega) w;have HO:=qh hown;have HM0:=qh hm0;have H0:Hid (OrW w (w.alloc (.cells (boolC (noneB m)).toArray 4)) w.heap.size m 0 (orF f g)):=qh ⟨⟨noneB m,blkM_new w m,noneB_len m,fun j hj=>by omega⟩,alloc_under _ _,rfl⟩;clear hown hm0;go_enter Tryz.func60,Tryz.ntmps60;go_wp2_with fail
 obtain⟨W1,hW1⟩:∃W1,w.alloc (.cells (boolC (noneB m)).toArray 4)=W1:=⟨_,rfl⟩;(try rw[hW1]);rw[hW1] at H0;obtain⟨G,hG⟩:∃G,w.heap.size=G:=⟨_,rfl⟩;(try rw[hG]);rw[hG] at H0;have HG:=qh hG;clear hW1 hmk hG;go_loopw [6] (fun s6 wr=>∃i:Nat,s6= .int .i64 (i:Int)∧i≤m∧Hid (OrW w wr G m i (orF f g))) (fun s6 _=>m-(intOf s6).toNat)
 case atStart=>exact⟨0,rfl,Nat.zero_le _,H0⟩
 case round=>
  obtain⟨i,rfl,hi,HQ⟩:=hrel;clear H0;have i0:(0:Int)≤(i:Int):=by omega
  have ib:(i:Int)≤100000:=by omega
  by_cases hlt:i<m
  ·have hli:(i:Int)<(m:Int):=(by omega);obtain⟨hu2,hv2⟩:=HU.out wr HQ.out.b;obtain⟨_,gu',cu',hue,_,_,huc⟩:=hu2;injection hue with e1 e2 e3
   injection e1 with e1
   injection e1 with e1
   subst e1;obtain⟨_,gv',cv',hve,_,_,hvc⟩:=hv2;injection hve with e4 e5 e6
   injection e4 with e4
   injection e4 with e4
   subst e4;have x0:=huc i hlt;have x1:=hvc i hlt;clear e2 e3 e5 e6 huc hvc;obtain⟨⟨y,y0⟩,y1,y2,hst⟩:=HQ.out.store hlt _ rfl;have HS:=qh hst;unfold orF at HS;obtain⟨a,ha⟩:∃a,f i=a:=⟨_,rfl⟩;obtain⟨b,hb⟩:∃b,g i=b:=⟨_,rfl⟩;rw[ha] at x0;rw[hb] at x1;rw[ha,hb] at HS;clear hst ha hb;cases a with
   | true=>
    rw[Bool.true_or] at HS;go_wp2_with fail
    go_roundw
    case rel=>exact⟨i+1,by go_num,hlt,HS⟩
    case measure=>simp[intOf]<;>omega
   | false=>
    rw[Bool.false_or] at HS;go_wp2_with fail
    go_roundw
    case rel=>exact⟨i+1,by go_num,hlt,HS⟩
    case measure=>simp[intOf]<;>omega
  ·have hli:¬(i:Int)<(m:Int):=(by omega);have him:i=m:=(by omega);have HF:=qh (show w.heap.size≤G∧BolO own wr (.slice (some ⟨G,0,none⟩) m m) m (orF f g)∧Below w.heap.size w wr from by
    obtain⟨⟨M,h1,h2,h3⟩,h4,_⟩:=HQ.out;refine⟨by rw[HG.out];exact Nat.le_refl _,BolO.of_blk h1 h2 HM0.out (HO.out G (by rw[HG.out];exact Nat.le_refl _)) fun j hj=>h3 j (by omega),h4⟩)
   clear HQ him;go_wp2_with fail
   go_ret
   exact⟨G,rfl,HF.out⟩
end
section
variable {X:Nat→Prop} {w:World} {R m:Nat} {sv bv lv lastv firstv:Value} {S:List St4} {E:Nat→Nat→Bool} {l f:Nat→Bool}
def uptoF (E:Nat→Nat→Bool) (l f:Nat→Bool) (p:Nat):Nat→Nat→Bool:=fun i=>if i<p then orF (E i) (fun j=>l i&&f j) else E i
theorem upto_all (E:Nat→Nat→Bool) (l f:Nat→Bool) {p i:Nat} (h:i<p) (j:Nat):uptoF E l f p i j=crossF E l f i j:=by
 unfold uptoF crossF orF;rw[if_pos h]
theorem upto_skip (E:Nat→Nat→Bool) (l f:Nat→Bool) (p:Nat) (h:l p=false) (i j:Nat):uptoF E l f p i j=uptoF E l f (p+1) i j:=by
 unfold uptoF;by_cases h1:i<p
 ·rw[if_pos h1,if_pos (by omega)]
 ·by_cases h2:i=p
  ·subst h2;rw[if_neg h1,if_pos (by omega)];simp[orF,h]
  ·rw[if_neg h1,if_neg (by omega)]
theorem upto_step (E:Nat→Nat→Bool) (l f:Nat→Bool) (p:Nat) (h:l p=true) (i j:Nat):(if i=p then orF (uptoF E l f p p) f else uptoF E l f p i) j=uptoF E l f (p+1) i j:=by
 unfold uptoF;by_cases h1:i<p
 ·rw[if_neg (by omega),if_pos h1,if_pos (by omega)]
 ·by_cases h2:i=p
  ·subst h2;rw[if_pos rfl,if_neg h1,if_pos (by omega)];simp[orF,h]
  ·rw[if_neg h2,if_neg h1,if_neg (by omega)]
set_option maxRecDepth 4000 in
set_option maxHeartbeats 8000000 in
theorem rfollow_any (h:RulW X w R sv bv lv S m E) (hl:BolO (OwnR R sv bv) w lastv m l) (hf:BolO (OwnR R sv bv) w firstv m f) (hm:m≤100000) (hX:∀k,w.heap.size≤k→¬X k):
  Calls Tryz.prog 68 #[.pointer (some ⟨R,0,none⟩),lastv,firstv] w fun e w'=>e= .returned (.tuple #[])∧RulW X w' R sv bv lv S m (crossF E l f)∧Gone (OwnR R sv bv) (OwnR R sv bv) w w':=by
 have H0:Hid (RulW X w R sv bv lv S m (uptoF E l f 0)∧Gone (OwnR R sv bv) (OwnR R sv bv) w w∧BolO (OwnR R sv bv) w lastv m l∧BolO (OwnR R sv bv) w firstv m f):=qh ⟨h.congr fun i _ j _=>by unfold uptoF;rw[if_neg (by omega)],Gone.refl _ _,hl,hf⟩;obtain⟨hm0,gl,cl,rfl,hcl,_,_⟩:=hl;have HXX:=qh hX;clear h hf hX;go_enter Tryz.func68,Tryz.ntmps68;go_wp2_with fail
 go_loopw [6] (fun s6 wr=>∃i:Nat,s6= .int .i64 (i:Int)∧i≤m∧Hid (RulW X wr R sv bv lv S m (uptoF E l f i)∧Gone (OwnR R sv bv) (OwnR R sv bv) w wr∧BolO (OwnR R sv bv) wr (.slice (some ⟨gl,0,none⟩) m cl) m l∧BolO (OwnR R sv bv) wr firstv m f)) (fun s6 _=>m-(intOf s6).toNat)
 case atStart=>exact⟨0,rfl,Nat.zero_le _,H0⟩
 case round=>
  obtain⟨i,rfl,hi,HQ⟩:=hrel;clear H0;have i0:(0:Int)≤(i:Int):=by omega
  have ib:(i:Int)≤100000:=by omega
  by_cases hlt:i<m
  ·have hli:(i:Int)<(m:Int):=(by omega);obtain⟨_,gl',cl',hle,_,_,hlc⟩:=HQ.out.2.2.1;injection hle with e1 e2 e3
   injection e1 with e1
   injection e1 with e1
   subst e1;have x0:=hlc i hlt;clear e2 e3 hlc;rcases hli2:l i with _ | _
   ·rw[hli2] at x0;have HS:Hid (RulW X wr R sv bv lv S m (uptoF E l f (i+1))):=qh (HQ.out.1.congr fun a _ j _=>upto_skip E l f i hli2 a j);clear hli2;go_wp2_with fail
    go_roundw
    case rel=>exact⟨i+1,by go_num,hlt,qh ⟨HS.out,HQ.out.2⟩⟩
    case measure=>simp[intOf]<;>omega
   ·rw[hli2] at x0;obtain⟨gb,cb,u,hbv,hcb,b0,b1,b2,hu⟩:=HQ.out.1.row hlt;obtain⟨⟨_,r1,_⟩,_⟩:=HQ.out.1.b.cells;have hRl:=HQ.out.1.b.lt;subst hbv
    have hOR:∀W:World,Below wr.heap.size wr W→Calls Tryz.prog 60 #[u,firstv] W fun e w'=>∃G,e= .returned (.slice (some ⟨G,0,none⟩) m m)∧(∃y,w'.cell? ⟨gb,i,none⟩=some y)∧w'.frozen? ⟨gb,i,none⟩=false∧gb<w'.heap.size∧w'.cell? ⟨R,1,none⟩=some (.slice (some ⟨gb,0,none⟩) m cb) ∧
      RulW X (w'.setCell ⟨gb,i,none⟩ (.slice (some ⟨G,0,none⟩) m m)) R sv (.slice (some ⟨gb,0,none⟩) m cb) lv S m (uptoF E l f (i+1))∧Gone (OwnR R sv (.slice (some ⟨gb,0,none⟩) m cb)) (OwnR R sv (.slice (some ⟨gb,0,none⟩) m cb)) wr (w'.setCell ⟨gb,i,none⟩ (.slice (some ⟨G,0,none⟩) m m)):=fun W hb=>by
     have hW:=HQ.out.1.under hb;refine (ror_any (own:=fun k=>OwnR R sv (.slice (some ⟨gb,0,none⟩) m cb) k∨X k) (hu.under hb) (HQ.out.2.2.2.under hb) hm fun k hk e=>e.elim (hW.ownlt k hk) (HXX.out k (Nat.le_trans (Nat.le_trans HQ.out.2.1.keep.size hb.size) hk))).mono ?_;rintro e w' ⟨G,rfl,_,hB,hb2⟩;have hW2:=hW.under hb2;obtain⟨gb',cb',u',hbv',_,c0,c1,c2,_⟩:=hW2.row hlt;injection hbv' with e1 e2 e3
     injection e1 with e1
     injection e1 with e1
     subst e1;obtain⟨h5,h6⟩:=hW2.setRow hlt rfl hB;exact⟨G,rfl,⟨u',c0⟩,c1,c2,hW2.b.cells.1.2.1,h5.congr fun a _ j _=>upto_step E l f i hli2 a j,(Gone.of_below (hb.trans (hb2.mono hb.size))).trans h6⟩
    have HOR:=qh hOR;clear hOR hu hli2;go_wp2_with fail
    go_region_law (go_simp;go_at_call 60;go_must (go_fit (HOR.out _ ?_));(exact⟨rfl,rfl,rfl,Nat.le_refl _,fun _ _=>rfl⟩);rintro e w5 ⟨G,rfl,⟨y,y0⟩,y1,y2,y3,hR5,hG5⟩;have HR5:=qh (And.intro hR5 hG5);clear hR5 hG5)
    all_goals
     have H6:=qh (show RulW _ _ _ _ _ _ _ _ _∧Gone _ _ _ _∧BolO _ _ _ _ _∧BolO _ _ _ _ _ from⟨HR5.out.1,HQ.out.2.1.trans HR5.out.2,HQ.out.2.2.1.go HR5.out.2,HQ.out.2.2.2.go HR5.out.2⟩);clear HR5 HOR y0 y1 y2 y3 HQ b0 b1 b2 r1 hRl x0;go_wp2_with fail
     exact⟨⟨i+1,by go_num,hlt,H6⟩,by simp[intOf]<;>omega⟩
  ·have hli:¬(i:Int)<(m:Int):=(by omega);have HF:Hid (RulW X wr R sv bv lv S m (crossF E l f)∧Gone (OwnR R sv bv) (OwnR R sv bv) w wr):=qh ⟨HQ.out.1.congr fun a ha j _=>upto_all E l f (by omega) j,HQ.out.2.1⟩;clear HQ;go_wp2_with fail
   go_end0
   exact⟨rfl,HF.out⟩
end
end Go.Proofs.YtjeomlickkpebaaGreatDoor
