/-
  nfas.NFA: add, fork: what each returns, and leaves.
-/
import Derived.Deep.RegionLaw
import Derived.Test.YtjeomlickkpebaaGreatDoorBe12
namespace Go.Proofs.YtjeomlickkpebaaGreatDoor
open Go.RowKit
theorem xB {w w':World} {v u v':Value} {ops:Array Oper} {o:Oper} {a:Act} {K:Act→World→Prop} {Q:Exit→Act→World→Prop} {E:Prop} (hgd:o.guard=none) (s x:Operand) (t:TypeId)
  (ho:o.op= .call ⟨ .builtin .append,#[s,x],#[t,t]⟩)
  (hs:a.eval s=v) (hx:a.eval x=u) (hr:(Builtin.append_ #[t,t] o.type #[v,u]).run Tryz.prog w= .ok v' w') (h:K (a.put o.dst v') w'):
  if Region.wanted o (yielded ops a.tmps)=true then Oper.wp Tryz.prog o a w K Q else E:=by
 have hw:Region.wanted o (yielded ops a.tmps)=true:=by simp[Region.wanted,hgd]
 rw[if_pos hw];unfold Oper.wp execOp;simp only[ho,resolve,invoke,builtin,Sem.run_bind,Sem.run_pure,Result.andThen_ok,List.map_toArray,List.map_cons,List.map_nil,hs,hx,hr];exact h
def zJ3 (s:Sta):Value:= .agg #[.int .i64 (s.kind:Int),.int .u64 (s.set.1:Int),.int .u64 (s.set.2.1:Int),.int .u64 (s.set.2.2.1:Int),.int .u64 (s.set.2.2.2:Int),.int .i64 (s.next:Int),.int .i64 (s.also:Int),.int .i64 (s.rule:Int)]
structure zHI (P:Nat→Prop) (w:World) (B:Nat) (q:List Sta) (first:List Int) (sv fv:Value):Prop where
 b:QR w B sv fv
 s:zA3 w sv q
 f:Zt 0 w fv first
 nb:¬P B
 ns:∀k,sv.ownBlock=some k→¬P k∧k≠B∧fv.ownBlock≠some k
 nf:∀k,fv.ownBlock=some k→¬P k∧k≠B
section
variable {P:Nat→Prop} {w w':World} {B:Nat} {q:List Sta} {first:List Int} {sv fv:Value}
def xw (P:Nat→Prop) (w:World) (B:Nat) (q:List Sta) (first:List Int) (fv:Value):Prop:=∃sv,zHI P w B q first sv fv
theorem xw.asB (h:xw P w B q first fv):zIT P w B q first:=by
 obtain⟨sv,h⟩:=h;exact⟨sv,fv,h.b,h.s,h.f,h.nb,h.ns,h.nf⟩
theorem xw.lt (h:xw P w B q first fv):B<w.heap.size:=by
 obtain⟨sv,h⟩:=h;exact h.b.lt
theorem xw.mono {P':Nat→Prop} (h:xw P w B q first fv) (hm:∀k,P' k→P k):xw P' w B q first fv:=by
 obtain⟨sv,h⟩:=h;exact⟨sv,h.b,h.s,h.f,fun x=>h.nb (hm _ x),fun k e=>⟨fun x=>(h.ns k e).1 (hm _ x),(h.ns k e).2⟩,fun k e=>⟨fun x=>(h.nf k e).1 (hm _ x),(h.nf k e).2⟩⟩
theorem zHI.under (h:zHI P w B q first sv fv) (hb:Below w.heap.size w w'):zHI P w' B q first sv fv:=
 ⟨h.b.keep (keep_below (fun _=>True) hb) trivial,zF h.s (keep_below (fun _=>True) hb) fun _ _=>trivial,h.f.below hb,h.nb,h.ns,h.nf⟩
theorem xw.under (h:xw P w B q first fv) (hb:Below w.heap.size w w'):xw P w' B q first fv:=by
 obtain⟨sv,h⟩:=h;exact⟨sv,h.under hb⟩
theorem xw.also (h:xw P w B q first fv) (hb:Below w.heap.size w w'):xw (fun k=>P k∨k=w.heap.size) w' B q first fv:=by
 obtain⟨sv,h⟩:=h;have hlt:=h.b.lt;have l2:=World.ownsRow.lt h.s;have l3:=World.ownsRow.lt h.f;have h':=h.under hb;refine⟨sv,h'.b,h'.s,h'.f,fun x=>x.elim h.nb fun e=>by omega,fun k e=>⟨fun x=>x.elim (h.ns k e).1 fun e2=> ?_,(h.ns k e).2⟩,fun k e=>⟨fun x=>x.elim (h.nf k e).1 fun e2=> ?_,(h.nf k e).2⟩⟩
 ·have:=l2 k e;omega
 ·have:=l3 k e;omega
theorem Qu {w:World} {v:Value} {q:List Sta} (h:zA3 w v q):∃ao cap,v= .slice ao q.length cap∧q.length≤cap:=by
 obtain⟨ao,cap,hv,hn,_⟩:=Zc h;exact⟨ao,cap,hv,hn⟩
theorem zHI.push {X:Nat} {s:Sta} (h:zHI P w B q first sv fv) (hP:∀k,w.heap.size≤k→¬P k) (t ty:TypeId) (ht:Tryz.prog.underlying t=some (.slice 99)) (hX:∀(j:Nat) x,(staC s)[j]? =some x→w.cell? ⟨X,j,none⟩=some x) (hs:q.length≤100000):
  ∃ao cap w',(Builtin.append_ #[t,t] ty #[sv,.slice (some ⟨X,0,none⟩) 1 1]).run Tryz.prog w= .ok (.slice ao (q.length+1) cap) w'∧w'.cell? ⟨B,0,none⟩=some sv∧w'.frozen? ⟨B,0,none⟩=false∧B<w'.heap.size ∧
   (w'.setCell ⟨B,0,none⟩ (.slice ao (q.length+1) cap)).cell? ⟨B,0,none⟩=some (.slice ao (q.length+1) cap)∧xw P (w'.setCell ⟨B,0,none⟩ (.slice ao (q.length+1) cap)) B (q++ [s]) first fv∧KeepW P w (w'.setCell ⟨B,0,none⟩ (.slice ao (q.length+1) cap)):=by
 obtain⟨v',w',hr,h1,h2,h3⟩:=zA4 t ty ht h.s hX hs;obtain⟨ao,cap,hv,_⟩:=Qu h1;rw[List.length_append] at hv;have hv:v'= .slice ao (q.length+1) cap:=hv;subst hv;have hBl:=h.b.lt;have hno:sv.ownBlock≠some B:=fun e=>(h.ns B e).2.1 rfl;have hb:=h.b.keep h2 hno;have hf:Zt 0 w' fv first:=zF h.f h2 fun k e e2=>(h.ns k e2).2.2 e;have hk:KeepW (fun k=>k≠B) w' (w'.setCell ⟨B,0,none⟩ (.slice ao (q.length+1) cap)):=zE B 0 none _ w' fun h=>h rfl;have hnew:∀k,(Value.slice ao (q.length+1) cap).ownBlock=some k→¬P k∧k≠B∧fv.ownBlock≠some k:=fun k e=>by
  rcases h3 k e with e | e
  ·exact h.ns k e
  ·rw[e];refine⟨hP _ (Nat.le_refl _),by omega,fun e2=> ?_⟩;have:=(World.ownsRow.lt h.f _ e2).2;omega
 refine⟨ao,cap,w',hr,hb.cells.1.1,hb.cells.2.1,hb.lt,(hb.set0 _).cells.1.1,⟨_,hb.set0 _,zF h1 hk fun k e=>(hnew k e).2.1,zF hf hk fun k e=>(h.nf k e).2,h.nb,hnew,h.nf⟩,?_⟩;exact (h2.mono fun k _ hp e=>(h.ns k e).1 hp).trans (hk.mono fun k _ hp e=>h.nb (by rw[←e];exact hp))
set_option maxRecDepth 4000 in
set_option maxHeartbeats 4000000 in
theorem Xp (h:xw P w B q first fv) (hP:∀k,w.heap.size≤k→¬P k) (s:Sta) (hlen:q.length≤100000):
  Calls Tryz.prog 52 #[.pointer (some ⟨B,0,none⟩),zJ3 s] w fun e w'=>e= .returned (.int .i64 (q.length:Int))∧xw P w' B (q++ [s]) first fv∧KeepW P w w':=by
 have hlt:=h.lt;obtain⟨sv,hc⟩:=h;unfold zJ3;obtain⟨so,sc,hsv,_⟩:=Qu hc.s;have hb1:=zA w (.cells #[.int .i64 (s.kind:Int),.int .u64 (s.set.1:Int),.int .u64 (s.set.2.1:Int),.int .u64 (s.set.2.2.1:Int),.int .u64 (s.set.2.2.2:Int),.int .i64 (s.next:Int),.int .i64 (s.also:Int),.int .i64 (s.rule:Int)] 99);have HB:=qh hb1;have HC:=qh (fun W (hb:Below w.heap.size w W)=>(hc.under hb).b.cells);have HA:=qh (fun W (X:Nat) ty (hb:Below w.heap.size w W) (hX:∀(j:Nat) x,(staC s)[j]? =some x→W.cell? ⟨X,j,none⟩=some x)=>(hc.under hb).push (fun k hk=>hP k (Nat.le_trans hb.size hk)) 66 ty Tryz.underlying66 hX hlen);have HN:=qh hlen;have hnl:(q.length:Int)≤100000:=by omega
 have hbox:∀W:World,∀(j:Nat) x,(staC s)[j]? =some x→(W.alloc (.cells (staC s).toArray 99)).cell? ⟨W.heap.size,j,none⟩=some x:=fun W j x hx=>by
  rw[cell_of_row _ _ j _ _ (0,0) (heap_alloc_new W _),List.getElem?_toArray];exact hx
 have HX:=qh hbox;have HL:=qh (fun W (hb:Below w.heap.size w W)=>Nat.lt_of_lt_of_le hlt hb.size);subst hsv;clear hc hP hlen hb1 hbox hlt;go_enter Tryz.func52,Tryz.ntmps52;go_upto_region 1 with (fail)
 obtain⟨W1,hW1⟩:∃W1,w.alloc (.cells #[.int .i64 (s.kind:Int),.int .u64 (s.set.1:Int),.int .u64 (s.set.2.1:Int),.int .u64 (s.set.2.2.1:Int),.int .u64 (s.set.2.2.2:Int),.int .i64 (s.next:Int),.int .i64 (s.also:Int),.int .i64 (s.rule:Int)] 99)=W1:=⟨_,rfl⟩;(try rw[hW1]);have x0:=hW1▸HX.out w;rw[hW1] at HB;have hXl:w.heap.size<W1.heap.size:=by rw[←hW1];rw[zC];omega
 obtain⟨X,hXe⟩:∃X,w.heap.size=X:=⟨_,rfl⟩;(try rw[hXe]);rw[hXe] at x0 hXl;clear hW1;obtain⟨⟨b0,_⟩,g0,_⟩:=HC.out W1 HB.out;have hBl:=HL.out W1 HB.out;have y0:=x0 0 _ rfl;have y1:=x0 1 _ rfl;have y2:=x0 2 _ rfl;have y3:=x0 3 _ rfl;have y4:=x0 4 _ rfl;have y5:=x0 5 _ rfl;have y6:=x0 6 _ rfl;have y7:=x0 7 _ rfl;have HAS:=qh (fun (W:World) ty (hb:Below w.heap.size w W)=>HA.out (W.alloc (.cells #[.int .i64 (s.kind:Int),.int .u64 (s.set.1:Int),.int .u64 (s.set.2.1:Int),.int .u64 (s.set.2.2.1:Int),.int .u64 (s.set.2.2.2:Int),.int .i64 (s.next:Int),.int .i64 (s.also:Int),.int .i64 (s.rule:Int)] 99)) W.heap.size ty (hb.alloc (Nat.le_trans (Nat.le_of_eq rfl) hb.size) _) (HX.out W));have kb:=HB.out;have kd:=kb.drew;have kb0:=qh (kb.alloc (by show w.heap.size≤W1.heap.size;omega) (.cells #[.int .i64 (s.kind:Int),.int .u64 (s.set.1:Int),.int .u64 (s.set.2.1:Int),.int .u64 (s.set.2.2.1:Int),.int .u64 (s.set.2.2.2:Int),.int .i64 (s.next:Int),.int .i64 (s.also:Int),.int .i64 (s.rule:Int)] 99));have kd0:=qh (kd.alloc (by show w.heap.size≤W1.heap.size;omega) (.cells #[.int .i64 (s.kind:Int),.int .u64 (s.set.1:Int),.int .u64 (s.set.2.1:Int),.int .u64 (s.set.2.2.1:Int),.int .u64 (s.set.2.2.2:Int),.int .i64 (s.next:Int),.int .i64 (s.also:Int),.int .i64 (s.rule:Int)] 99));have HE:=qh (fun (W:World) (ao:Option Addr) (cp:Nat) (h1:xw P (W.setCell ⟨B,0,none⟩ (.slice ao (q.length+1) cp)) B (q++ [s]) first fv) (h2:KeepW P w (W.setCell ⟨B,0,none⟩ (.slice ao (q.length+1) cp)))=>And.intro h1 h2);clear x0
 go_region_law (first
  | (obtain⟨ao,cp,w5,hr,d0,f0,hl5,d1,hN5,hk5⟩:=HAS.out _ 66 kb;(refine xB (by rfl) (.tmp 9) (.tmp 11) 66 (by rfl) (by rfl) (by rfl) hr ?_))
  | (obtain⟨ao,cp,w5,hr,d0,f0,hl5,d1,hN5,hk5⟩:=HAS.out _ 66 kd;(refine xB (by rfl) (.tmp 9) (.tmp 11) 66 (by rfl) (by rfl) (by rfl) hr ?_)))
 all_goals
  obtain⟨hE1,hE2⟩:=HE.out w5 ao cp hN5 (by first | exact (keep_below _ kb0.out).trans hk5 | exact (keep_below _ kd0.out).trans hk5);have HE3:=qh (And.intro hE1 hE2);clear HE hE1 hE2 hN5 hk5 HA HAS HC HX HL;go_wp2_with fail
  go_ret
 all_goals exact⟨rfl,HE3.out⟩
theorem ZQ (h:xw P w B q first fv) (hP:∀k,w.heap.size≤k→¬P k) (a b:Nat) (hlen:q.length≤100000):
  Calls Tryz.prog 70 #[.pointer (some ⟨B,0,none⟩),.int .i64 (a:Int),.int .i64 (b:Int)] w fun e w'=>e= .returned (.int .i64 (q.length:Int))∧xw P w' B (q++ [zJ a b]) first fv∧KeepW P w w':=by
 have H:=qh (show Calls Tryz.prog 52 #[.pointer (some ⟨B,0,none⟩),.agg #[.int .i64 1,.int .u64 0,.int .u64 0,.int .u64 0,.int .u64 0,.int .i64 (a:Int),.int .i64 (b:Int),.int .i64 0]] w fun e w'=>e= .returned (.int .i64 (q.length:Int))∧xw P w' B (q++ [zJ a b]) first fv∧KeepW P w w' from Xp h hP (zJ a b) hlen);clear h hP hlen;go_enter Tryz.func70,Tryz.ntmps70;go_wp2_with fail
 go_fit H.out;rintro e w2 ⟨rfl,h1,h2⟩;have HX:=qh (And.intro h1 h2);clear h1 h2;go_wp2_with fail
 go_ret
 exact⟨rfl,HX.out⟩
end
end Go.Proofs.YtjeomlickkpebaaGreatDoor
