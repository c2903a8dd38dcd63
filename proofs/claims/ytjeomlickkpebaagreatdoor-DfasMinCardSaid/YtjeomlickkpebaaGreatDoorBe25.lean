/-
  Texts of this proof, one behind the other; each begins with its own remark.
-/
import Derived.Test.YtjeomlickkpebaaGreatDoorBe11
set_option maxHeartbeats 4000000
namespace Go.Proofs.YtjeomlickkpebaaGreatDoor
open Go.RowKit
theorem OutP.kids {T:TypeId} {N:Nat} {P ok:Nat→Prop} {w:World} {v:Value} {l:List Nd} (h:OutP T N P w v l) (hl:l.length≤1000000) (hP:∀k,P k→ok k) (ho:∀k,v.ownBlock=some k→ok k):zW ok w l v:=by
 obtain⟨us,h1,h2,h3⟩:=h;refine⟨l,us,v,by omega,h1,?_,(fun i n hi=> ?_),fun i n u hi hu=>(h3 i n u hi hu).2.mono fun k _ hk=>hP k hk.1⟩
 ·obtain⟨hlen,⟨rfl,h0⟩ | ⟨g,cap,cur,rfl,h4,hg,hn,_,_,hx⟩⟩:=h2
  ·rw[h0];rw[h0,Nat.zero_mul] at hlen;rw[List.eq_nil_of_length_eq_zero hlen];exact jO.nil _ _
  ·refine⟨_,cap,rfl,hn,fun j u hu=>⟨g,0,rfl,ho g rfl,?_⟩⟩;rw[Nat.zero_add,cell_of_row _ _ _ cur T (0,0) hg];rw[←hx,List.getElem?_take] at hu;split at hu
   ·rw[←Array.getElem?_toList];exact hu
   ·cases hu
 ·obtain⟨u,hu⟩:∃u,us[i]? =some u:=⟨_,List.getElem?_eq_getElem (by rw[h1];exact (List.getElem?_eq_some_iff.1 hi).1)⟩;exact (h3 i n u hi hu).1
theorem qB {w w':World} {v u v':Value} {ops:Array Oper} {rest:List Oper} {o:Oper} {a:Act} {Q:Exit→Act→World→Prop} (hgd:o.guard=none) (s x:Operand) (t:TypeId)
  (ho:o.op= .call ⟨ .builtin .append,#[s,x],#[t,t]⟩)
  (hs:a.eval s=v) (hx:a.eval x=u) (hr:(Builtin.append_ #[t,t] o.type #[v,u]).run Tryz.prog w= .ok v' w') (h:wpList Tryz.prog ops Q rest (a.put o.dst v') w'):wpList Tryz.prog ops Q (o::rest) a w:=by
 refine wpList_plain hgd fun K hK=> ?_;unfold Oper.wp execOp;simp only[ho,resolve,invoke,builtin,Sem.run_bind,Sem.run_pure,Result.andThen_ok,List.map_toArray,List.map_cons,List.map_nil,hs,hx,hr];exact hK _ _ h
theorem xr {T:TypeId} {w:World} {B:Nat} {n:Nd} {u:Value} (h:boxN T w B n.kind n.set u):∀(j:Nat) x,(nodeC n u)[j]? =some x→w.cell? ⟨B,j,none⟩=some x:=by
 obtain⟨⟨c0,c1,c2,c3,c4,c5⟩,_⟩:=h.cells;intro j x hx;have hj:j<6:=(List.getElem?_eq_some_iff.1 hx).1;have h6:j=0∨j=1∨j=2∨j=3∨j=4∨j=5:=by omega
 rcases h6 with rfl | rfl | rfl | rfl | rfl | rfl<;>(cases hx;assumption)
structure XD (w0 w:World) (A:Nat) (v6 v7:Value) (all row:List Nd):Prop where
 res:boxN 77 w A 0 noR (.slice none 0 0)
 a:OutP 77 (A+1) (fun k=>A+1≤k∧v7.ownBlock≠some k) w v6 all
 r:OutP 77 (A+1) (fun k=>A+1≤k∧v6.ownBlock≠some k) w v7 row
 ne:∀k,v6.ownBlock=some k→v7.ownBlock≠some k
 bel:Below A w0 w
 sz:A+1≤w.heap.size
section
variable {w0 w w':World} {A:Nat} {v6 v7:Value} {all row:List Nd}
theorem XD.under (h:XD w0 w A v6 v7 all row) (hb:Below w.heap.size w w'):XD w0 w' A v6 v7 all row:=
 ⟨h.res.below hb,h.a.under hb,h.r.under hb,h.ne,h.bel.trans (hb.mono (by have:=h.sz;omega)),Nat.le_trans h.sz hb.size⟩
theorem XD.rowK (h:XD w0 w A v6 v7 all row) (hl:row.length≤1000000):zW (fun k=>A+1≤k∧v6.ownBlock≠some k) w row v7:=
 h.r.kids hl (fun _ hk=>hk) fun k e=>⟨(h.r.lt k e).1,fun e6=>h.ne k e6 e⟩
theorem XD.allK (h:XD w0 w A v6 v7 all row) (hl:all.length≤1000000):zW (fun k=>A+1≤k) w all v6:=
 h.a.kids hl (fun _ hk=>hk.1) fun k e=>(h.a.lt k e).1
theorem Tryz.infoNode10:(Tryz.prog.info? 77).map (fun i=>(i.zero.map fun z=>z.cells.size,i.size,i.bytes))=some (some 6,6,64):=by kernel_rfl
theorem zFM:∃i z,Tryz.prog.info? 77=some i∧i.zero=some z∧z.cells.size=6∧i.size=6∧i.bytes=64:=by
 have h:=Tryz.infoNode10;obtain⟨i,hi⟩:∃i,Tryz.prog.info? 77=some i:=by
  rcases hx:Tryz.prog.info? 77 with _ | i
  ·rw[hx] at h;cases h
  ·exact⟨i,rfl⟩
 rw[hi] at h;simp only[Option.map_some,Option.some.injEq,Prod.mk.injEq] at h;obtain⟨h1,h2,h3⟩:=h;rcases hz:i.zero with _ | z
 ·rw[hz] at h1;cases h1
 ·rw[hz] at h1;simp only[Option.map_some,Option.some.injEq] at h1;exact⟨i,z,hi,hz,h1,h2,h3⟩
theorem XD.piece {n:Nd} {u:Value} {X:Nat} {ok:Nat→Prop} (h:XD w0 w A v6 v7 all row) (t ty:TypeId) (ht:Tryz.prog.underlying t=some (.slice 77)) (hX:∀(j:Nat) x,(nodeC n u)[j]? =some x→w.cell? ⟨X,j,none⟩=some x) (hs:OkR n.set) (hu:zW ok w n.kids u)
  (ho:∀k,k<w.heap.size→ok k→A+1≤k∧v6.ownBlock≠some k∧v7.ownBlock≠some k) (hl:row.length≤100000):
  ∃v' w1,(Builtin.append_ #[t,t] ty #[v7,.slice (some ⟨X,0,none⟩) 1 1]).run Tryz.prog w= .ok v' w1∧XD w0 w1 A v6 v' all (row++ [n]):=by
 obtain⟨i0,z,hi,hz0,hzl,hz1,hz2⟩:=zFM;obtain⟨v',w1,hr,hO,hk,hor⟩:=ka t ty i0 z ht hi hz0 hzl hz1 hz2 h.r hX hs hu (fun k hlt hk=>⟨⟨(ho k hlt hk).1,(ho k hlt hk).2.1⟩,(ho k hlt hk).2.2⟩) h.sz hl;have hAlt:=h.res.lt;have hne:∀k,k<w.heap.size→v7.ownBlock≠some k→v'.ownBlock≠some k:=fun k hlt h7 e=>by
  rcases hor k e with h5 | h5
  ·exact h7 h5
  ·omega
 have hA7:v7.ownBlock≠some A:=fun e=>by have:=(h.r.lt A e).1;omega
 refine⟨v',w1,hr,h.res.keep hk hA7,?_,hO,fun k e6=>hne k (h.a.lt k e6).2 (h.ne k e6),KeepW.below h.bel hk (by omega) (fun k hlt e=>by have:=(h.r.lt k e).1;omega),Nat.le_trans h.sz hk.size⟩;have h1:=h.a.mono (P':=fun k=>(A+1≤k∧v'.ownBlock≠some k)∧v7.ownBlock≠some k) fun k hlt hp=>⟨⟨hp.1,hne k hlt hp.2⟩,hp.2⟩;exact (h1.keep hk (fun k e=>h.ne k e) fun k _ hp=>hp.2).mono fun k _ hp=>hp.1
theorem XD.line {n:Nd} {u:Value} {X:Nat} {ok:Nat→Prop} (h:XD w0 w A v6 v7 all row) (t ty:TypeId) (ht:Tryz.prog.underlying t=some (.slice 77)) (hX:∀(j:Nat) x,(nodeC n u)[j]? =some x→w.cell? ⟨X,j,none⟩=some x) (hs:OkR n.set) (hu:zW ok w n.kids u)
  (ho:∀k,k<w.heap.size→ok k→A+1≤k∧v6.ownBlock≠some k) (hl:all.length≤100000):
  ∃v' w1,(Builtin.append_ #[t,t] ty #[v6,.slice (some ⟨X,0,none⟩) 1 1]).run Tryz.prog w= .ok v' w1∧XD w0 w1 A v' (.slice none 0 0) (all++ [n]) []:=by
 obtain⟨i0,z,hi,hz0,hzl,hz1,hz2⟩:=zFM;obtain⟨v',w1,hr,hO,hk,hor⟩:=ka (P:=fun k=>A+1≤k) t ty i0 z ht hi hz0 hzl hz1 hz2 (h.a.mono fun k _ hp=>hp.1) hX hs hu ho h.sz hl;have hAlt:=h.res.lt;have hA6:v6.ownBlock≠some A:=fun e=>by have:=(h.a.lt A e).1;omega
 exact⟨v',w1,hr,h.res.keep hk hA6,hO.mono fun k _ hp=>⟨hp,fun e=>by cases e⟩,OutP.nil _ _ _ _,(fun k _ e=>by cases e),KeepW.below h.bel hk (by omega) (fun k hlt e=>by have:=(h.a.lt k e).1;omega),Nat.le_trans h.sz hk.size⟩
end
def FrZ (w:World) (k:Nat):Prop:=∃c t,w.heap[k]? =some (.cells c t (0,0))
theorem FrZ.lt {w:World} {k:Nat} (h:FrZ w k):k<w.heap.size:=by
 obtain⟨c,t,h⟩:=h;exact (Array.getElem?_eq_some_iff.1 h).1
theorem FrZ.keep {ok:Nat→Prop} {w w':World} {k:Nat} (h:FrZ w k) (hk:KeepW ok w w') (ho:ok k):FrZ w' k:=by
 have hl:=h.lt;obtain⟨c,t,h⟩:=h;exact⟨c,t,(hk.same k hl ho).trans h⟩
theorem FrZ.under {w w':World} {k:Nat} (h:FrZ w k) (hb:Below w.heap.size w w'):FrZ w' k:=h.keep (keep_below (fun _=>True) hb) trivial
def xR (P:Nat→Prop) (w:World) (l:List Nd) (v:Value):Prop:=zW (fun k=>P k∧FrZ w k) w l v
def ve (P:Nat→Prop) (w:World) (n:Nd) (x:Value):Prop:=OkR n.set∧∃u,x=zG n u∧xR P w n.kids u
section
variable {ok ok':Nat→Prop} {w w':World} {l:List Nd} {v:Value} {n:Nd} {x:Value}
theorem xR.keep (h:xR ok w l v) (hk:KeepW ok' w w') (hm:∀k,k<w.heap.size→ok k→ok' k):xR ok w' l v:=by
 have h1:=zW.keep h hk fun k hl hp=>hm k hl hp.1;exact h1.mono fun k _ hp=>⟨hp.1,hp.2.keep hk (hm k hp.2.lt hp.1)⟩
theorem xR.mono (h:xR ok w l v) (hm:∀k,k<w.heap.size→ok k→ok' k):xR ok' w l v:=zW.mono h fun k hl hp=>⟨hm k hl hp.1,hp.2⟩
theorem xR.under (h:xR ok w l v) (hb:Below w.heap.size w w'):xR ok w' l v:=h.keep (keep_below (fun _=>True) hb) fun _ _ _=>trivial
theorem xR.nil (ok:Nat→Prop) (w:World):xR ok w [] (.slice none 0 0):=zW.nil _ _
theorem xR.form (h:xR ok w l v):∃ao cap,v= .slice ao l.length cap∧l.length≤cap∧l.length≤9223372036854775807:=zW.form h
theorem xR.W (h:xR ok w l v):zW ok w l v:=zW.mono h fun _ _ hp=>hp.1
theorem zE5 {w0:World} (h:zW (fun k=>ok k∧FrZ w0 k) w l v) (hb:Below w0.heap.size w0 w):xR ok w l v:=h.mono fun _ _ hp=>⟨hp.1,hp.2.under hb⟩
theorem ve.leaf (k:Int) (s:St4) (hs:OkR s):ve ok w (.mk k s []) (.agg #[.int .i64 k,.int .u64 (s.1:Int),.int .u64 (s.2.1:Int),.int .u64 (s.2.2.1:Int),.int .u64 (s.2.2.2:Int),.slice none 0 0]):=⟨hs,.slice none 0 0,rfl,xR.nil _ _⟩
end
def Je (T:TypeId) (N:Nat) (w:World) (v:Value) (l:List Nd):Prop:=OutP T N (fun k=>N≤k∧FrZ w k) w v l
theorem Je.nil (T:TypeId) (N:Nat) (w:World):Je T N w (.slice none 0 0) []:=OutP.nil _ _ _ _
theorem Je.lt {T:TypeId} {N:Nat} {w:World} {v:Value} {l:List Nd} (h:Je T N w v l):∀k,v.ownBlock=some k→N≤k∧k<w.heap.size:=OutP.lt h
theorem Je.keep {T:TypeId} {N:Nat} {ok:Nat→Prop} {w w':World} {v:Value} {l:List Nd} (h:Je T N w v l) (hk:KeepW ok w w') (ho:∀k,N≤k→ok k):Je T N w' v l:=by
 have h1:=OutP.keep h hk (fun k e=>ho k (OutP.lt h k e).1) fun k _ hp=>ho k hp.1;exact h1.mono fun k _ hp=>⟨hp.1,hp.2.keep hk (ho k hp.1)⟩
theorem Je.kids {T:TypeId} {N:Nat} {w:World} {v:Value} {l:List Nd} (h:Je T N w v l) (hl:l.length≤1000000):xR (fun k=>N≤k) w l v:=by
 refine OutP.kids h hl (fun k hp=>hp) fun k e=>⟨(OutP.lt h k e).1,?_⟩;obtain⟨us,_,⟨_,h2⟩,_⟩:=h;rcases h2 with ⟨rfl,_⟩ | ⟨g,cap,cur,rfl,_,hg,_⟩
 ·cases e
 ·cases e;exact⟨cur,T,hg⟩
theorem zE6 {T:TypeId} {N m:Nat} {w:World} {v u:Value} {l:List Nd} {n:Nd} {X:Nat} (t ty:TypeId) (i0:TypeInfo) (z:Value) (ht:Tryz.prog.underlying t=some (.slice T)) (hi:Tryz.prog.info? T=some i0) (hz0:i0.zero=some z) (hzl:z.cells.size=6) (hz1:i0.size=6) (hz2:i0.bytes=64)
  (hv:Je T N w v l) (hX:∀(j:Nat) x,(nodeC n u)[j]? =some x→w.cell? ⟨X,j,none⟩=some x) (hs:OkR n.set) (hu:xR (fun k=>m≤k) w n.kids u) (ho:∀k,k<w.heap.size→m≤k→N≤k∧v.ownBlock≠some k) (hN:N≤w.heap.size) (hl:l.length≤100000):
  ∃v' w',(Builtin.append_ #[t,t] ty #[v,.slice (some ⟨X,0,none⟩) 1 1]).run Tryz.prog w= .ok v' w'∧Je T N w' v' (l++ [n])∧KeepW (fun k=>v.ownBlock≠some k) w w':=by
 have hv2:OutP T N (fun k=>(N≤k∧FrZ w k)∧v.ownBlock≠some k) w v l:=by
  obtain⟨us,h0,h1,h3⟩:=hv;exact⟨us,h0,h1,fun i m x hm hx=>⟨(h3 i m x hm hx).1,(h3 i m x hm hx).2.mono fun k _ hp=>⟨⟨hp.1,hp.2⟩,hp.2⟩⟩⟩
 obtain⟨v',w',hr,hO,hk,_⟩:=ka t ty i0 z ht hi hz0 hzl hz1 hz2 hv2 hX hs (zW.mono hu (ok':=fun k=>m≤k∧FrZ w k) fun k _ hp=>hp) (fun k hlt hp=>⟨⟨⟨(ho k hlt hp.1).1,hp.2⟩,(ho k hlt hp.1).2⟩,(ho k hlt hp.1).2⟩) hN hl;exact⟨v',w',hr,hO.mono fun k _ hp=>⟨hp.1.1,hp.1.2.keep hk hp.2⟩,hk⟩
set_option maxRecDepth 4000 in
theorem zB2 {ok:Nat→Prop} (k:Int) (l:List Nd) (v:Value) (w:World) (h:zW ok w l v) (hl:l.length≤100000):
  Calls Tryz.prog 98 #[.int .i64 k,v] w fun e w'=>∃x,e= .returned x∧zV ok w' (zl k l) x∧Below w.heap.size w w':=by
 have hb (o:Obj):=zA w o;have HB:=Lib.hid hb;clear hb
 match l,h,hl with
 | [],h,_=>
  obtain⟨ao,cap,rfl,_⟩:=h.form;clear h;go_enter Tryz.func98,Tryz.ntmps98;go_wp2_with fail
  exact bodyPost_ret (v:= .agg #[.int .i64 0,.int .u64 0,.int .u64 0,.int .u64 0,.int .u64 0,.slice none 0 0]) (by simp[results,Tryz.results98,go_sem]) rfl ⟨_,rfl,zV.leaf 0 noR ok_no,HB.out _⟩
 | [n],h,_=>
  obtain⟨g,o,cap,u,rfl,hc,hs,hk,hg⟩:=h.at_ (i:=0) rfl;obtain⟨uo,uc,rfl,_⟩:=hk.form;have x0:=hg 0 _ (by decide) rfl;have x1:=hg 1 _ (by decide) rfl;have x2:=hg 2 _ (by decide) rfl;have x3:=hg 3 _ (by decide) rfl;have x4:=hg 4 _ (by decide) rfl;have x5:=hg 5 _ (by decide) rfl;simp only[Nat.zero_mul,Nat.zero_add,Nat.add_zero] at x0 x1 x2 x3 x4 x5;have HN:Hid (zV ok w n (zG n (.slice uo n.kids.length uc))):=⟨hs,_,rfl,hk⟩;have hglt:=rlt x0;rw[show [n].length=1 from rfl] at hc;rw[show [n].length=1 from rfl];clear hg hs hk h;go_enter Tryz.func98,Tryz.ntmps98;go_wp2_with fail
  exact bodyPost_ret (v:=zG n (.slice uo n.kids.length uc)) (by simp[results,Tryz.results98,go_sem,zG]) rfl ⟨_,rfl,HN.out.below (HB.out _),HB.out _⟩
 | a::b::l,h,hl=>
  obtain⟨ao,cap,hv,hcap,_⟩:=h.form;have HK:=Lib.hid h;subst hv;obtain⟨m,hm⟩:∃m,(a::b::l).length=m:=⟨_,rfl⟩;have h2:2≤m:=by rw[←hm];simp
  have h2i:(2:Int)≤(m:Int):=by omega
  have b0:((m:Int)==0)=false:=beq_eq_false_iff_ne.2 (by omega);have b1:((m:Int)==1)=false:=beq_eq_false_iff_ne.2 (by omega);rw[hm] at hl HK ⊢;obtain⟨L,hL⟩:∃L,a::b::l=L:=⟨_,rfl⟩;have HJ:=Lib.hid (show zl k (a::b::l)= .mk k noR L by rw[←hL];rfl);rw[hL] at HK HJ ⊢;clear h hm hL;go_enter Tryz.func98,Tryz.ntmps98;go_wp2_with fail
  exact bodyPost_ret (v:= .agg #[.int .i64 k,.int .u64 0,.int .u64 0,.int .u64 0,.int .u64 0,.slice ao m cap]) (by simp[results,Tryz.results98,go_sem]) rfl ⟨_,rfl,by rw[HJ.out];exact⟨ok_no,_,rfl,HK.out.under (HB.out _)⟩,HB.out _⟩
theorem YH {ok:Nat→Prop} (k:Int) (l:List Nd) (v:Value) (w:World) (h:xR ok w l v) (hl:l.length≤100000):
  Calls Tryz.prog 98 #[.int .i64 k,v] w fun e w'=>∃x,e= .returned x∧ve ok w' (zl k l) x∧Below w.heap.size w w':=
 (zB2 (ok:=fun k=>ok k∧FrZ w k) k l v w h hl).mono fun _ _ ⟨x,he,⟨hs,u,hx,hu⟩,hb⟩=>⟨x,he,⟨hs,u,hx,zE5 hu hb⟩,hb⟩
set_option maxRecDepth 4000 in
theorem jk {ok:Nat→Prop} (k:Int) (l:List Nd) (v:Value) (w:World) (h:zW ok w l v) (hl:l.length≤100000):
  Calls Tryz.prog 65 #[.int .i64 k,v] w fun e w'=>∃x,e= .returned x∧zV ok w' (zl k l) x∧Below w.heap.size w w':=by
 have hb (o:Obj):=zA w o;have HB:=Lib.hid hb;clear hb
 match l,h,hl with
 | [],h,_=>
  obtain⟨ao,cap,rfl,_⟩:=h.form;clear h;go_enter Tryz.func65,Tryz.ntmps65;go_wp2_with fail
  exact bodyPost_ret (v:= .agg #[.int .i64 0,.int .u64 0,.int .u64 0,.int .u64 0,.int .u64 0,.slice none 0 0]) (by simp[results,Tryz.results65,go_sem]) rfl ⟨_,rfl,zV.leaf 0 noR ok_no,HB.out _⟩
 | [n],h,_=>
  obtain⟨g,o,cap,u,rfl,hc,hs,hk,hg⟩:=h.at_ (i:=0) rfl;obtain⟨uo,uc,rfl,_⟩:=hk.form;have x0:=hg 0 _ (by decide) rfl;have x1:=hg 1 _ (by decide) rfl;have x2:=hg 2 _ (by decide) rfl;have x3:=hg 3 _ (by decide) rfl;have x4:=hg 4 _ (by decide) rfl;have x5:=hg 5 _ (by decide) rfl;simp only[Nat.zero_mul,Nat.zero_add,Nat.add_zero] at x0 x1 x2 x3 x4 x5;have HN:Hid (zV ok w n (zG n (.slice uo n.kids.length uc))):=⟨hs,_,rfl,hk⟩;have hglt:=rlt x0;rw[show [n].length=1 from rfl] at hc;rw[show [n].length=1 from rfl];clear hg hs hk h;go_enter Tryz.func65,Tryz.ntmps65;go_wp2_with fail
  exact bodyPost_ret (v:=zG n (.slice uo n.kids.length uc)) (by simp[results,Tryz.results65,go_sem,zG]) rfl ⟨_,rfl,HN.out.below (HB.out _),HB.out _⟩
 | a::b::l,h,hl=>
  obtain⟨ao,cap,hv,hcap,_⟩:=h.form;have HK:=Lib.hid h;subst hv;obtain⟨m,hm⟩:∃m,(a::b::l).length=m:=⟨_,rfl⟩;have h2:2≤m:=by rw[←hm];simp
  have h2i:(2:Int)≤(m:Int):=by omega
  have b0:((m:Int)==0)=false:=beq_eq_false_iff_ne.2 (by omega);have b1:((m:Int)==1)=false:=beq_eq_false_iff_ne.2 (by omega);rw[hm] at hl HK ⊢;obtain⟨L,hL⟩:∃L,a::b::l=L:=⟨_,rfl⟩;have HJ:=Lib.hid (show zl k (a::b::l)= .mk k noR L by rw[←hL];rfl);rw[hL] at HK HJ ⊢;clear h hm hL;go_enter Tryz.func65,Tryz.ntmps65;go_wp2_with fail
  exact bodyPost_ret (v:= .agg #[.int .i64 k,.int .u64 0,.int .u64 0,.int .u64 0,.int .u64 0,.slice ao m cap]) (by simp[results,Tryz.results65,go_sem]) rfl ⟨_,rfl,by rw[HJ.out];exact⟨ok_no,_,rfl,HK.out.under (HB.out _)⟩,HB.out _⟩
end Go.Proofs.YtjeomlickkpebaaGreatDoor
