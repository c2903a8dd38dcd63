/-
  Texts of this proof, one behind the other; each begins with its own remark.
-/
import Derived.Deep.Cut
import Derived.Deep.DeepFit
import Derived.Test.YtjeomlickkpebaaGreatDoorBe2
import Derived.Test.YtjeomlickkpebaaGreatDoorBe9
import Derived.Test.YtjeomlickkpebaaGreatDoorBe11
namespace Go.Proofs.YtjeomlickkpebaaGreatDoor
open Go.RowKit
def boolC (l:List Bool):List Value:=l.map Value.bool
def blkM (w:World) (G:Nat) (l:List Bool):Prop:=w.heap[G]? =some (.cells (boolC l).toArray 4 (0,0))
section
variable {w:World} {G:Nat} {l:List Bool}
theorem blkM.lt (h:blkM w G l):G<w.heap.size:=(Array.getElem?_eq_some_iff.1 h).1
theorem blkM.at_ (h:blkM w G l) {i:Nat} (hi:i<l.length) (d:Bool):w.cell? ⟨G,i,none⟩=some (.bool (l.getD i d)):=by
 rw[cell_of_row w G i _ _ (0,0) h,List.getElem?_toArray,boolC,List.getElem?_map,List.getElem?_eq_getElem hi];simp[List.getD,List.getElem?_eq_getElem hi]
theorem blkM.frozen (h:blkM w G l) (i:Nat):w.frozen? ⟨G,i,none⟩=false:=frozen_of_row w G i _ _ h
theorem blkM.set (h:blkM w G l) (i:Nat) (b:Bool):blkM (w.setCell ⟨G,i,none⟩ (.bool b)) G (l.set i b):=by
 unfold blkM at h ⊢;rw[heap_setCell_same w G i _ _ _ h];unfold boolC;congr 2;rw[List.map_set];simp
end
section
variable {w0:World} {v:Value} {q:List Sta} {first:List Int}
set_option maxHeartbeats 1000000 in
theorem nmark_any (h0:NfaR w0 v q first) (hq:∀(i:Nat) (s:Sta),q[i]? =some s→StOk q.length s):∀(f G:Nat) (l:List Bool) (a:Nat) (w:World) (cap:Nat),q.length≤cap→w0.heap.size≤G→Below w0.heap.size w0 w→blkM w G l→l.length=q.length→a<q.length→openB l≤f →
  Calls Tryz.prog 62 #[v,.slice (some ⟨G,0,none⟩) q.length cap,.int .i64 (a:Int)] w fun e w'=>e= .returned (.tuple #[])∧blkM w' G (markF f q l a)∧Below w0.heap.size w0 w':=by
 intro f
 induction f with
 | zero=>
  intro G l a w cap hcap hG hb hM hl ha hf;have hx:=hM.at_ (i:=a) (by omega) true;rw[open_zero l a (by omega)] at hx;have HM:=qh (And.intro hM hb);rw[markF];clear hM hb h0 hq;have h1:(a:Int)<(q.length:Int):=by omega
  have h2:(0:Int)≤(a:Int):=by omega
  go_enter Tryz.func62,Tryz.ntmps62;go_wp2_with fail
  (try simp only[Exit.inBlock,Exit.then]);refine bodyPost_ret (results_none rfl _ _ _) rfl ?_;exact⟨rfl,HM.out⟩
 | succ f ih=>
  intro G l a w cap hcap hG hb hM hl ha hf;have hx:=hM.at_ (i:=a) (by omega) true;have h1:(a:Int)<(q.length:Int):=by omega
  have h2:(0:Int)≤(a:Int):=by omega
  rw[markF];by_cases hs:l.getD a true=true
  ·rw[if_pos hs];rw[hs] at hx;have HM:=qh (And.intro hM hb);clear hM hb h0 hq hs;go_enter Tryz.func62,Tryz.ntmps62;go_wp2_with fail
   (try simp only[Exit.inBlock,Exit.then]);refine bodyPost_ret (results_none rfl _ _ _) rfl ?_;exact⟨rfl,HM.out⟩
  rw[if_neg hs];have hs':l.getD a true=false:=by simpa using hs
  rw[hs'] at hx;have hcnt:=open_set l a hs';obtain⟨s,hsa⟩:∃s,q[a]? =some s:=⟨_,List.getElem?_eq_getElem ha⟩;obtain⟨o1,o2,_⟩:=hq a s hsa;have hfz:=hM.frozen a;have hGl:=hM.lt;have hM1:=hM.set a true;have hk1:KeepW (fun k=>k≠G) w (w.setCell ⟨G,a,none⟩ (.bool true)):=keep_set G a none _ w fun h=>h rfl;have hb1:Below w0.heap.size w0 (w.setCell ⟨G,a,none⟩ (.bool true)):=KeepW.below hb hk1 hb.size fun k hk=>by omega
  obtain⟨W1,hW1⟩:∃W1,w.setCell ⟨G,a,none⟩ (.bool true)=W1:=⟨_,rfl⟩;have hR1:=h0.below (w':=w.setCell ⟨G,a,none⟩ (.bool true)) hb1;have HI:=qh (nis_any hR1 (a:Int) 1);rw[show isP q (a:Int) 1=(s.kind==1) by unfold isP lookS;rw[if_pos (by omega),Int.toNat_natCast,hsa]] at HI;have HX:=qh (show blkM W1 G (l.set a true)∧Below w0.heap.size w0 W1 from by rw[←hW1];exact⟨hM1,hb1⟩);rw[hsa];show Calls _ _ _ _ fun e w'=>e= .returned (.tuple #[])∧blkM w' G (if s.kind=1 then markF f q (markF f q (l.set a true) s.next) s.also else l.set a true)∧Below w0.heap.size w0 w';by_cases hk:s.kind=1
  ·rw[if_pos hk];rw[hk] at HI;obtain⟨B,g,o,cp,rfl,c0,hn,hc⟩:=hR1.sta hsa;have c5:=hc 5 _ (by decide) rfl;have c6:=hc 6 _ (by decide) rfl;have i5:o+(a*8+5)=o+a*8+5:=(by omega);have i6:o+(a*8+6)=o+a*8+6:=(by omega);rw[i5] at c5;rw[i6] at c6;have H1:=qh (ih G (l.set a true) s.next W1 cap hcap hG HX.out.2 HX.out.1 (by rw[List.length_set];exact hl) o1 (by omega));have hm1:=mark_ok q hq f (l.set a true) s.next (by rw[List.length_set];exact hl) o1 (by omega);have hm1l:=hm1.len;have hm1c:=hm1.cnt;rw[List.length_set] at hm1l;have H2:=qh (fun W (x:blkM W G (markF f q (l.set a true) s.next)∧Below w0.heap.size w0 W)=>ih G (markF f q (l.set a true) s.next) s.also W cap hcap hG x.2 x.1 (by rw[hm1l];exact hl) o2 (by omega));have HC:=qh (fun W (x:Below w0.heap.size w0 W)=>by
    obtain⟨B',g',o',cp',hv',c0',hn',hc'⟩:=(h0.below x).sta hsa;cases hv';have c6':=hc' 6 _ (by decide) rfl;have i6:o'+(a*8+6)=o'+a*8+6:=(by omega);rw[i6] at c6';exact (show ∃g' o' cp',W.cell? ⟨B,0,none⟩=some (.slice (some ⟨g',o',none⟩) q.length cp')∧W.cell? ⟨g',o'+a*8+6,none⟩=some (.int .i64 (s.also:Int)) from⟨_,_,_,c0',c6'⟩))
   obtain⟨nx,hnx⟩:∃nx:Nat,s.next=nx:=⟨_,rfl⟩;obtain⟨al,hal⟩:∃al:Nat,s.also=al:=⟨_,rfl⟩;rw[hnx] at c5 H1 H2;rw[hal] at c6 HC H2;rw[hnx,hal];rw[hW1] at HI c0 c5 c6;clear hM hb h0 hq hs hs' hcnt hsa o1 o2 hM1 hk1 hb1 hR1 ih hc hm1 hm1l hm1c hnx hal i5 i6 hk;go_enter Tryz.func62,Tryz.ntmps62;go_upto_region 2 with (fail)
   (try rw[hW1]);clear hW1 hx hfz;go_wp2_with fail
   go_fit HI.out;rintro e w1 ⟨rfl,rfl⟩;go_wp2_with fail
   go_fit H1.out;rintro e w2 ⟨rfl,hM2,hb2⟩;have HX2:=qh (And.intro hM2 hb2);obtain⟨g2,o2,cp2,d0,d6⟩:=HC.out w2 hb2;clear hM2 hb2;go_wp2_with fail
   go_fit (H2.out _ HX2.out);rintro e w3 ⟨rfl,hM3,hb3⟩;have HX3:=qh (And.intro hM3 hb3);clear hM3 hb3;go_wp2_with fail
   go_end0
   exact⟨rfl,HX3.out⟩
  ·rw[if_neg hk];rw[show (s.kind==1)=false from beq_eq_false_iff_ne.2 hk] at HI;rw[hW1] at HI;clear hM hb h0 hq hs hs' hcnt hsa o1 o2 hM1 hk1 hb1 hR1 ih hk;go_enter Tryz.func62,Tryz.ntmps62;go_upto_region 2 with (fail)
   (try rw[hW1]);clear hW1 hx hfz;go_wp2_with fail
   go_fit HI.out;rintro e w1 ⟨rfl,rfl⟩;go_wp2_with fail
   go_end0
   exact⟨rfl,HX.out⟩
end
end Go.Proofs.YtjeomlickkpebaaGreatDoor
namespace Go.Proofs.YtjeomlickkpebaaGreatDoor
open Go.RowKit
theorem OutP.kids {T:TypeId} {N:Nat} {P ok:Nat→Prop} {w:World} {v:Value} {l:List Nd} (h:OutP T N P w v l) (hl:l.length≤1000000) (hP:∀k,P k→ok k) (ho:∀k,v.ownBlock=some k→ok k):KidsW ok w l v:=by
 obtain⟨us,h1,h2,h3⟩:=h;refine⟨l,us,v,by omega,h1,?_,(fun i n hi=> ?_),fun i n u hi hu=>(h3 i n u hi hu).2.mono fun k _ hk=>hP k hk.1⟩
 ·obtain⟨hlen,⟨rfl,h0⟩ | ⟨g,cap,cur,rfl,h4,hg,hn,_,_,hx⟩⟩:=h2
  ·rw[h0];rw[h0,Nat.zero_mul] at hlen;rw[List.eq_nil_of_length_eq_zero hlen];exact RowZ.nil _ _
  ·refine⟨_,cap,rfl,hn,fun j u hu=>⟨g,0,rfl,ho g rfl,?_⟩⟩;rw[Nat.zero_add,cell_of_row _ _ _ cur T (0,0) hg];rw[←hx,List.getElem?_take] at hu;split at hu
   ·rw[←Array.getElem?_toList];exact hu
   ·cases hu
 ·obtain⟨u,hu⟩:∃u,us[i]? =some u:=⟨_,List.getElem?_eq_getElem (by rw[h1];exact (List.getElem?_eq_some_iff.1 hi).1)⟩;exact (h3 i n u hi hu).1
theorem wpList_runR {w w':World} {v u v':Value} {ops:Array Oper} {rest:List Oper} {o:Oper} {a:Act} {Q:Exit→Act→World→Prop} (hgd:o.guard=none) (s x:Operand) (t:TypeId)
  (ho:o.op= .call ⟨ .builtin .append,#[s,x],#[t,t]⟩)
  (hs:a.eval s=v) (hx:a.eval x=u) (hr:(Builtin.append_ #[t,t] o.type #[v,u]).run Tryz.prog w= .ok v' w') (h:wpList Tryz.prog ops Q rest (a.put o.dst v') w'):wpList Tryz.prog ops Q (o::rest) a w:=by
 refine wpList_plain hgd fun K hK=> ?_;unfold Oper.wp execOp;simp only[ho,resolve,invoke,builtin,Sem.run_bind,Sem.run_pure,Result.andThen_ok,List.map_toArray,List.map_cons,List.map_nil,hs,hx,hr];exact hK _ _ h
theorem boxN_node {T:TypeId} {w:World} {B:Nat} {n:Nd} {u:Value} (h:boxN T w B n.kind n.set u):∀(j:Nat) x,(nodeC n u)[j]? =some x→w.cell? ⟨B,j,none⟩=some x:=by
 obtain⟨⟨c0,c1,c2,c3,c4,c5⟩,_⟩:=h.cells;intro j x hx;have hj:j<6:=(List.getElem?_eq_some_iff.1 hx).1;have h6:j=0∨j=1∨j=2∨j=3∨j=4∨j=5:=by omega
 rcases h6 with rfl | rfl | rfl | rfl | rfl | rfl<;>(cases hx;assumption)
structure RwsW (w0 w:World) (A:Nat) (v6 v7:Value) (all row:List Nd):Prop where
 res:boxN 77 w A 0 noR (.slice none 0 0)
 a:OutP 77 (A+1) (fun k=>A+1≤k∧v7.ownBlock≠some k) w v6 all
 r:OutP 77 (A+1) (fun k=>A+1≤k∧v6.ownBlock≠some k) w v7 row
 ne:∀k,v6.ownBlock=some k→v7.ownBlock≠some k
 bel:Below A w0 w
 sz:A+1≤w.heap.size
section
variable {w0 w w':World} {A:Nat} {v6 v7:Value} {all row:List Nd}
theorem RwsW.under (h:RwsW w0 w A v6 v7 all row) (hb:Below w.heap.size w w'):RwsW w0 w' A v6 v7 all row:=
 ⟨h.res.below hb,h.a.under hb,h.r.under hb,h.ne,h.bel.trans (hb.mono (by have:=h.sz;omega)),Nat.le_trans h.sz hb.size⟩
theorem RwsW.rowK (h:RwsW w0 w A v6 v7 all row) (hl:row.length≤1000000):KidsW (fun k=>A+1≤k∧v6.ownBlock≠some k) w row v7:=
 h.r.kids hl (fun _ hk=>hk) fun k e=>⟨(h.r.lt k e).1,fun e6=>h.ne k e6 e⟩
theorem RwsW.allK (h:RwsW w0 w A v6 v7 all row) (hl:all.length≤1000000):KidsW (fun k=>A+1≤k) w all v6:=
 h.a.kids hl (fun _ hk=>hk.1) fun k e=>(h.a.lt k e).1
theorem Tryz.infoNode10:(Tryz.prog.info? 77).map (fun i=>(i.zero.map fun z=>z.cells.size,i.size,i.bytes))=some (some 6,6,64):=by kernel_rfl
theorem info10:∃i z,Tryz.prog.info? 77=some i∧i.zero=some z∧z.cells.size=6∧i.size=6∧i.bytes=64:=by
 have h:=Tryz.infoNode10;obtain⟨i,hi⟩:∃i,Tryz.prog.info? 77=some i:=by
  rcases hx:Tryz.prog.info? 77 with _ | i
  ·rw[hx] at h;cases h
  ·exact⟨i,rfl⟩
 rw[hi] at h;simp only[Option.map_some,Option.some.injEq,Prod.mk.injEq] at h;obtain⟨h1,h2,h3⟩:=h;rcases hz:i.zero with _ | z
 ·rw[hz] at h1;cases h1
 ·rw[hz] at h1;simp only[Option.map_some,Option.some.injEq] at h1;exact⟨i,z,hi,hz,h1,h2,h3⟩
theorem RwsW.piece {n:Nd} {u:Value} {X:Nat} {ok:Nat→Prop} (h:RwsW w0 w A v6 v7 all row) (t ty:TypeId) (ht:Tryz.prog.underlying t=some (.slice 77)) (hX:∀(j:Nat) x,(nodeC n u)[j]? =some x→w.cell? ⟨X,j,none⟩=some x) (hs:OkR n.set) (hu:KidsW ok w n.kids u)
  (ho:∀k,k<w.heap.size→ok k→A+1≤k∧v6.ownBlock≠some k∧v7.ownBlock≠some k) (hl:row.length≤100000):
  ∃v' w1,(Builtin.append_ #[t,t] ty #[v7,.slice (some ⟨X,0,none⟩) 1 1]).run Tryz.prog w= .ok v' w1∧RwsW w0 w1 A v6 v' all (row++ [n]):=by
 obtain⟨i0,z,hi,hz0,hzl,hz1,hz2⟩:=info10;obtain⟨v',w1,hr,hO,hk,hor⟩:=run_outP t ty i0 z ht hi hz0 hzl hz1 hz2 h.r hX hs hu (fun k hlt hk=>⟨⟨(ho k hlt hk).1,(ho k hlt hk).2.1⟩,(ho k hlt hk).2.2⟩) h.sz hl;have hAlt:=h.res.lt;have hne:∀k,k<w.heap.size→v7.ownBlock≠some k→v'.ownBlock≠some k:=fun k hlt h7 e=>by
  rcases hor k e with h5 | h5
  ·exact h7 h5
  ·omega
 have hA7:v7.ownBlock≠some A:=fun e=>by have:=(h.r.lt A e).1;omega
 refine⟨v',w1,hr,h.res.keep hk hA7,?_,hO,fun k e6=>hne k (h.a.lt k e6).2 (h.ne k e6),KeepW.below h.bel hk (by omega) (fun k hlt e=>by have:=(h.r.lt k e).1;omega),Nat.le_trans h.sz hk.size⟩;have h1:=h.a.mono (P':=fun k=>(A+1≤k∧v'.ownBlock≠some k)∧v7.ownBlock≠some k) fun k hlt hp=>⟨⟨hp.1,hne k hlt hp.2⟩,hp.2⟩;exact (h1.keep hk (fun k e=>h.ne k e) fun k _ hp=>hp.2).mono fun k _ hp=>hp.1
theorem RwsW.line {n:Nd} {u:Value} {X:Nat} {ok:Nat→Prop} (h:RwsW w0 w A v6 v7 all row) (t ty:TypeId) (ht:Tryz.prog.underlying t=some (.slice 77)) (hX:∀(j:Nat) x,(nodeC n u)[j]? =some x→w.cell? ⟨X,j,none⟩=some x) (hs:OkR n.set) (hu:KidsW ok w n.kids u)
  (ho:∀k,k<w.heap.size→ok k→A+1≤k∧v6.ownBlock≠some k) (hl:all.length≤100000):
  ∃v' w1,(Builtin.append_ #[t,t] ty #[v6,.slice (some ⟨X,0,none⟩) 1 1]).run Tryz.prog w= .ok v' w1∧RwsW w0 w1 A v' (.slice none 0 0) (all++ [n]) []:=by
 obtain⟨i0,z,hi,hz0,hzl,hz1,hz2⟩:=info10;obtain⟨v',w1,hr,hO,hk,hor⟩:=run_outP (P:=fun k=>A+1≤k) t ty i0 z ht hi hz0 hzl hz1 hz2 (h.a.mono fun k _ hp=>hp.1) hX hs hu ho h.sz hl;have hAlt:=h.res.lt;have hA6:v6.ownBlock≠some A:=fun e=>by have:=(h.a.lt A e).1;omega
 exact⟨v',w1,hr,h.res.keep hk hA6,hO.mono fun k _ hp=>⟨hp,fun e=>by cases e⟩,OutP.nil _ _ _ _,(fun k _ e=>by cases e),KeepW.below h.bel hk (by omega) (fun k hlt e=>by have:=(h.a.lt k e).1;omega),Nat.le_trans h.sz hk.size⟩
end
end Go.Proofs.YtjeomlickkpebaaGreatDoor
namespace Go.Proofs.YtjeomlickkpebaaGreatDoor
open Go.RowKit
def FrZ (w:World) (k:Nat):Prop:=∃c t,w.heap[k]? =some (.cells c t (0,0))
theorem FrZ.lt {w:World} {k:Nat} (h:FrZ w k):k<w.heap.size:=by
 obtain⟨c,t,h⟩:=h;exact (Array.getElem?_eq_some_iff.1 h).1
theorem FrZ.keep {ok:Nat→Prop} {w w':World} {k:Nat} (h:FrZ w k) (hk:KeepW ok w w') (ho:ok k):FrZ w' k:=by
 have hl:=h.lt;obtain⟨c,t,h⟩:=h;exact⟨c,t,(hk.same k hl ho).trans h⟩
theorem FrZ.under {w w':World} {k:Nat} (h:FrZ w k) (hb:Below w.heap.size w w'):FrZ w' k:=h.keep (keep_below (fun _=>True) hb) trivial
def KidsF (P:Nat→Prop) (w:World) (l:List Nd) (v:Value):Prop:=KidsW (fun k=>P k∧FrZ w k) w l v
def NodeF (P:Nat→Prop) (w:World) (n:Nd) (x:Value):Prop:=OkR n.set∧∃u,x=nodeV n u∧KidsF P w n.kids u
section
variable {ok ok':Nat→Prop} {w w':World} {l:List Nd} {v:Value} {n:Nd} {x:Value}
theorem KidsF.keep (h:KidsF ok w l v) (hk:KeepW ok' w w') (hm:∀k,k<w.heap.size→ok k→ok' k):KidsF ok w' l v:=by
 have h1:=KidsW.keep h hk fun k hl hp=>hm k hl hp.1;exact h1.mono fun k _ hp=>⟨hp.1,hp.2.keep hk (hm k hp.2.lt hp.1)⟩
theorem KidsF.mono (h:KidsF ok w l v) (hm:∀k,k<w.heap.size→ok k→ok' k):KidsF ok' w l v:=KidsW.mono h fun k hl hp=>⟨hm k hl hp.1,hp.2⟩
theorem KidsF.under (h:KidsF ok w l v) (hb:Below w.heap.size w w'):KidsF ok w' l v:=h.keep (keep_below (fun _=>True) hb) fun _ _ _=>trivial
theorem KidsF.nil (ok:Nat→Prop) (w:World):KidsF ok w [] (.slice none 0 0):=KidsW.nil _ _
theorem KidsF.form (h:KidsF ok w l v):∃ao cap,v= .slice ao l.length cap∧l.length≤cap∧l.length≤9223372036854775807:=KidsW.form h
theorem KidsF.W (h:KidsF ok w l v):KidsW ok w l v:=KidsW.mono h fun _ _ hp=>hp.1
theorem kidsF_of {w0:World} (h:KidsW (fun k=>ok k∧FrZ w0 k) w l v) (hb:Below w0.heap.size w0 w):KidsF ok w l v:=h.mono fun _ _ hp=>⟨hp.1,hp.2.under hb⟩
theorem NodeF.keep (h:NodeF ok w n x) (hk:KeepW ok' w w') (hm:∀k,k<w.heap.size→ok k→ok' k):NodeF ok w' n x:=by
 obtain⟨h1,u,rfl,h2⟩:=h;exact⟨h1,u,rfl,h2.keep hk hm⟩
theorem NodeF.mono (h:NodeF ok w n x) (hm:∀k,k<w.heap.size→ok k→ok' k):NodeF ok' w n x:=by
 obtain⟨h1,u,rfl,h2⟩:=h;exact⟨h1,u,rfl,h2.mono hm⟩
theorem NodeF.below (h:NodeF ok w n x) (hb:Below w.heap.size w w'):NodeF ok w' n x:=h.keep (keep_below (fun _=>True) hb) fun _ _ _=>trivial
theorem NodeF.leaf (k:Int) (s:St4) (hs:OkR s):NodeF ok w (.mk k s []) (.agg #[.int .i64 k,.int .u64 (s.1:Int),.int .u64 (s.2.1:Int),.int .u64 (s.2.2.1:Int),.int .u64 (s.2.2.2:Int),.slice none 0 0]):=⟨hs,.slice none 0 0,rfl,KidsF.nil _ _⟩
end
def OutF (T:TypeId) (N:Nat) (w:World) (v:Value) (l:List Nd):Prop:=OutP T N (fun k=>N≤k∧FrZ w k) w v l
theorem OutF.nil (T:TypeId) (N:Nat) (w:World):OutF T N w (.slice none 0 0) []:=OutP.nil _ _ _ _
theorem OutF.lt {T:TypeId} {N:Nat} {w:World} {v:Value} {l:List Nd} (h:OutF T N w v l):∀k,v.ownBlock=some k→N≤k∧k<w.heap.size:=OutP.lt h
theorem OutF.keep {T:TypeId} {N:Nat} {ok:Nat→Prop} {w w':World} {v:Value} {l:List Nd} (h:OutF T N w v l) (hk:KeepW ok w w') (ho:∀k,N≤k→ok k):OutF T N w' v l:=by
 have h1:=OutP.keep h hk (fun k e=>ho k (OutP.lt h k e).1) fun k _ hp=>ho k hp.1;exact h1.mono fun k _ hp=>⟨hp.1,hp.2.keep hk (ho k hp.1)⟩
theorem OutF.below {T:TypeId} {N:Nat} {w w':World} {v:Value} {l:List Nd} (h:OutF T N w v l) (hb:Below w.heap.size w w'):OutF T N w' v l:=h.keep (keep_below (fun _=>True) hb) fun _ _=>trivial
theorem OutF.kids {T:TypeId} {N:Nat} {w:World} {v:Value} {l:List Nd} (h:OutF T N w v l) (hl:l.length≤1000000):KidsF (fun k=>N≤k) w l v:=by
 refine OutP.kids h hl (fun k hp=>hp) fun k e=>⟨(OutP.lt h k e).1,?_⟩;obtain⟨us,_,⟨_,h2⟩,_⟩:=h;rcases h2 with ⟨rfl,_⟩ | ⟨g,cap,cur,rfl,_,hg,_⟩
 ·cases e
 ·cases e;exact⟨cur,T,hg⟩
theorem run_outF {T:TypeId} {N m:Nat} {w:World} {v u:Value} {l:List Nd} {n:Nd} {X:Nat} (t ty:TypeId) (i0:TypeInfo) (z:Value) (ht:Tryz.prog.underlying t=some (.slice T)) (hi:Tryz.prog.info? T=some i0) (hz0:i0.zero=some z) (hzl:z.cells.size=6) (hz1:i0.size=6) (hz2:i0.bytes=64)
  (hv:OutF T N w v l) (hX:∀(j:Nat) x,(nodeC n u)[j]? =some x→w.cell? ⟨X,j,none⟩=some x) (hs:OkR n.set) (hu:KidsF (fun k=>m≤k) w n.kids u) (ho:∀k,k<w.heap.size→m≤k→N≤k∧v.ownBlock≠some k) (hN:N≤w.heap.size) (hl:l.length≤100000):
  ∃v' w',(Builtin.append_ #[t,t] ty #[v,.slice (some ⟨X,0,none⟩) 1 1]).run Tryz.prog w= .ok v' w'∧OutF T N w' v' (l++ [n])∧KeepW (fun k=>v.ownBlock≠some k) w w':=by
 have hv2:OutP T N (fun k=>(N≤k∧FrZ w k)∧v.ownBlock≠some k) w v l:=by
  obtain⟨us,h0,h1,h3⟩:=hv;exact⟨us,h0,h1,fun i m x hm hx=>⟨(h3 i m x hm hx).1,(h3 i m x hm hx).2.mono fun k _ hp=>⟨⟨hp.1,hp.2⟩,hp.2⟩⟩⟩
 obtain⟨v',w',hr,hO,hk,_⟩:=run_outP t ty i0 z ht hi hz0 hzl hz1 hz2 hv2 hX hs (KidsW.mono hu (ok':=fun k=>m≤k∧FrZ w k) fun k _ hp=>hp) (fun k hlt hp=>⟨⟨⟨(ho k hlt hp.1).1,hp.2⟩,(ho k hlt hp.1).2⟩,(ho k hlt hp.1).2⟩) hN hl;exact⟨v',w',hr,hO.mono fun k _ hp=>⟨hp.1.1,hp.1.2.keep hk hp.2⟩,hk⟩
end Go.Proofs.YtjeomlickkpebaaGreatDoor
namespace Go.Proofs.YtjeomlickkpebaaGreatDoor
open Go.RowKit
set_option maxRecDepth 4000 in
set_option maxHeartbeats 4000000 in
theorem pjoin_any {ok:Nat→Prop} (k:Int) (l:List Nd) (v:Value) (w:World) (h:KidsW ok w l v) (hl:l.length≤100000):
  Calls Tryz.prog 98 #[.int .i64 k,v] w fun e w'=>∃x,e= .returned x∧NodeW ok w' (joinR k l) x∧Below w.heap.size w w':=by
 have hb (o:Obj):=alloc_under w o;have HB:=Lib.hid hb;clear hb
 match l,h,hl with
 | [],h,_=>
  obtain⟨ao,cap,rfl,_⟩:=h.form;clear h;go_enter Tryz.func98,Tryz.ntmps98;go_wp2_with fail
  exact bodyPost_ret (v:= .agg #[.int .i64 0,.int .u64 0,.int .u64 0,.int .u64 0,.int .u64 0,.slice none 0 0]) (by simp[results,Tryz.results98,go_sem]) rfl ⟨_,rfl,NodeW.leaf 0 noR ok_no,HB.out _⟩
 | [n],h,_=>
  obtain⟨g,o,cap,u,rfl,hc,hs,hk,hg⟩:=h.at_ (i:=0) rfl;obtain⟨uo,uc,rfl,_⟩:=hk.form;have x0:=hg 0 _ (by decide) rfl;have x1:=hg 1 _ (by decide) rfl;have x2:=hg 2 _ (by decide) rfl;have x3:=hg 3 _ (by decide) rfl;have x4:=hg 4 _ (by decide) rfl;have x5:=hg 5 _ (by decide) rfl;simp only[Nat.zero_mul,Nat.zero_add,Nat.add_zero] at x0 x1 x2 x3 x4 x5;have HN:Hid (NodeW ok w n (nodeV n (.slice uo n.kids.length uc))):=⟨hs,_,rfl,hk⟩;have hglt:=rlt x0;rw[show [n].length=1 from rfl] at hc;rw[show [n].length=1 from rfl];clear hg hs hk h;go_enter Tryz.func98,Tryz.ntmps98;go_wp2_with fail
  exact bodyPost_ret (v:=nodeV n (.slice uo n.kids.length uc)) (by simp[results,Tryz.results98,go_sem,nodeV]) rfl ⟨_,rfl,HN.out.below (HB.out _),HB.out _⟩
 | a::b::l,h,hl=>
  obtain⟨ao,cap,hv,hcap,_⟩:=h.form;have HK:=Lib.hid h;subst hv;obtain⟨m,hm⟩:∃m,(a::b::l).length=m:=⟨_,rfl⟩;have h2:2≤m:=by rw[←hm];simp
  have h2i:(2:Int)≤(m:Int):=by omega
  have b0:((m:Int)==0)=false:=beq_eq_false_iff_ne.2 (by omega);have b1:((m:Int)==1)=false:=beq_eq_false_iff_ne.2 (by omega);rw[hm] at hl HK ⊢;obtain⟨L,hL⟩:∃L,a::b::l=L:=⟨_,rfl⟩;have HJ:=Lib.hid (show joinR k (a::b::l)= .mk k noR L by rw[←hL];rfl);rw[hL] at HK HJ ⊢;clear h hm hL;go_enter Tryz.func98,Tryz.ntmps98;go_wp2_with fail
  exact bodyPost_ret (v:= .agg #[.int .i64 k,.int .u64 0,.int .u64 0,.int .u64 0,.int .u64 0,.slice ao m cap]) (by simp[results,Tryz.results98,go_sem]) rfl ⟨_,rfl,by rw[HJ.out];exact⟨ok_no,_,rfl,HK.out.under (HB.out _)⟩,HB.out _⟩
theorem pjoin_f {ok:Nat→Prop} (k:Int) (l:List Nd) (v:Value) (w:World) (h:KidsF ok w l v) (hl:l.length≤100000):
  Calls Tryz.prog 98 #[.int .i64 k,v] w fun e w'=>∃x,e= .returned x∧NodeF ok w' (joinR k l) x∧Below w.heap.size w w':=
 (pjoin_any (ok:=fun k=>ok k∧FrZ w k) k l v w h hl).mono fun _ _ ⟨x,he,⟨hs,u,hx,hu⟩,hb⟩=>⟨x,he,⟨hs,u,hx,kidsF_of hu hb⟩,hb⟩
end Go.Proofs.YtjeomlickkpebaaGreatDoor
namespace Go.Proofs.YtjeomlickkpebaaGreatDoor
open Go.RowKit
set_option maxRecDepth 4000 in
set_option maxHeartbeats 4000000 in
theorem rjoin_any {ok:Nat→Prop} (k:Int) (l:List Nd) (v:Value) (w:World) (h:KidsW ok w l v) (hl:l.length≤100000):
  Calls Tryz.prog 65 #[.int .i64 k,v] w fun e w'=>∃x,e= .returned x∧NodeW ok w' (joinR k l) x∧Below w.heap.size w w':=by
 have hb (o:Obj):=alloc_under w o;have HB:=Lib.hid hb;clear hb
 match l,h,hl with
 | [],h,_=>
  obtain⟨ao,cap,rfl,_⟩:=h.form;clear h;go_enter Tryz.func65,Tryz.ntmps65;go_wp2_with fail
  exact bodyPost_ret (v:= .agg #[.int .i64 0,.int .u64 0,.int .u64 0,.int .u64 0,.int .u64 0,.slice none 0 0]) (by simp[results,Tryz.results65,go_sem]) rfl ⟨_,rfl,NodeW.leaf 0 noR ok_no,HB.out _⟩
 | [n],h,_=>
  obtain⟨g,o,cap,u,rfl,hc,hs,hk,hg⟩:=h.at_ (i:=0) rfl;obtain⟨uo,uc,rfl,_⟩:=hk.form;have x0:=hg 0 _ (by decide) rfl;have x1:=hg 1 _ (by decide) rfl;have x2:=hg 2 _ (by decide) rfl;have x3:=hg 3 _ (by decide) rfl;have x4:=hg 4 _ (by decide) rfl;have x5:=hg 5 _ (by decide) rfl;simp only[Nat.zero_mul,Nat.zero_add,Nat.add_zero] at x0 x1 x2 x3 x4 x5;have HN:Hid (NodeW ok w n (nodeV n (.slice uo n.kids.length uc))):=⟨hs,_,rfl,hk⟩;have hglt:=rlt x0;rw[show [n].length=1 from rfl] at hc;rw[show [n].length=1 from rfl];clear hg hs hk h;go_enter Tryz.func65,Tryz.ntmps65;go_wp2_with fail
  exact bodyPost_ret (v:=nodeV n (.slice uo n.kids.length uc)) (by simp[results,Tryz.results65,go_sem,nodeV]) rfl ⟨_,rfl,HN.out.below (HB.out _),HB.out _⟩
 | a::b::l,h,hl=>
  obtain⟨ao,cap,hv,hcap,_⟩:=h.form;have HK:=Lib.hid h;subst hv;obtain⟨m,hm⟩:∃m,(a::b::l).length=m:=⟨_,rfl⟩;have h2:2≤m:=by rw[←hm];simp
  have h2i:(2:Int)≤(m:Int):=by omega
  have b0:((m:Int)==0)=false:=beq_eq_false_iff_ne.2 (by omega);have b1:((m:Int)==1)=false:=beq_eq_false_iff_ne.2 (by omega);rw[hm] at hl HK ⊢;obtain⟨L,hL⟩:∃L,a::b::l=L:=⟨_,rfl⟩;have HJ:=Lib.hid (show joinR k (a::b::l)= .mk k noR L by rw[←hL];rfl);rw[hL] at HK HJ ⊢;clear h hm hL;go_enter Tryz.func65,Tryz.ntmps65;go_wp2_with fail
  exact bodyPost_ret (v:= .agg #[.int .i64 k,.int .u64 0,.int .u64 0,.int .u64 0,.int .u64 0,.slice ao m cap]) (by simp[results,Tryz.results65,go_sem]) rfl ⟨_,rfl,by rw[HJ.out];exact⟨ok_no,_,rfl,HK.out.under (HB.out _)⟩,HB.out _⟩
end Go.Proofs.YtjeomlickkpebaaGreatDoor
