/-
  Texts of this proof, one behind the other; each begins with its own remark.
-/
import Derived.Great.BuildSlice
import Derived.Test.YtjeomlickkpebaaGreatDoorBe38
namespace Go.Proofs.YtjeomlickkpebaaGreatDoor
open Go.RowKit
abbrev eA39_0:Array Edge:=#[⟨4,.data⟩,⟨11,.data⟩,⟨10,.chain⟩]
abbrev JU:Array Edge:=#[⟨0,.data⟩,⟨0,.phase⟩,⟨1,.phase⟩,⟨2,.phase⟩,⟨3,.phase⟩,⟨4,.phase⟩,⟨5,.phase⟩,⟨6,.phase⟩,⟨7,.phase⟩,⟨8,.phase⟩,⟨9,.phase⟩,⟨10,.phase⟩,⟨11,.phase⟩,⟨12,.phase⟩]
abbrev JV:Array Edge:=#[⟨13,.data⟩,⟨0,.phase⟩,⟨1,.phase⟩,⟨2,.phase⟩,⟨3,.phase⟩,⟨4,.phase⟩,⟨5,.phase⟩,⟨6,.phase⟩,⟨7,.phase⟩,⟨8,.phase⟩,⟨9,.phase⟩,⟨10,.phase⟩,⟨11,.phase⟩,⟨12,.phase⟩]
abbrev JW:Array Edge:=#[⟨14,.data⟩,⟨12,.data⟩,⟨12,.chain⟩,⟨0,.phase⟩,⟨1,.phase⟩,⟨2,.phase⟩,⟨3,.phase⟩,⟨4,.phase⟩,⟨5,.phase⟩,⟨6,.phase⟩,⟨7,.phase⟩,⟨8,.phase⟩,⟨9,.phase⟩,⟨10,.phase⟩,⟨11,.phase⟩,⟨12,.phase⟩]
theorem XJ {arr:Array Value} (h:arr.size=257) (W:World):(Instr.buildSlice 61 1 #[(0,.agg arr)]).run Tryz.prog W= .ok (.slice (some ⟨W.heap.size,0,none⟩) 1 1) (W.alloc (.cells arr 92)):=by
 obtain⟨ie,h1,h2,h3,_⟩:=xJ Tryz.infoStD;refine run_buildSlice W 61 92 1 #[(0,.agg arr)] arr ie _ Tryz.underlying61 h1 h2 (by rw[h3];decide) (by rw[h3];decide) ?_;rw[h3];have hz:((Value.agg zx.toArray).cells).size=257:=by show zx.toArray.size=257;rw[List.size_toArray,qG]
 have:=Great.fill_whole (s:=257) (by decide) [.agg arr] ((Array.range (1*257)).map ((Value.agg zx.toArray).cells[· %(Value.agg zx.toArray).cells.size]!)) (fun v hv=>by rw[List.mem_singleton.1 hv];exact h) (by rw[Array.size_map,Array.size_range];rfl);have e:([Value.agg arr].flatMap fun v=>v.cells.toList).toArray=arr:=by
  show (arr.toList++ []).toArray=arr;rw[List.append_nil]
 rw[e] at this;exact this
theorem xS {w:World} {arr:Array Value} {ops:Array Oper} {o:Oper} {a:Act} {K:Act→World→Prop} {Q:Exit→Act→World→Prop} {E:Prop} (h:arr.size=257) (hgd:o.guard=none) (x:Operand)
  (ho:o.op= .buildSlice 61 1 #[(0,x)]) (hx:a.eval x= .agg arr) (hk:K (a.put o.dst (.slice (some ⟨w.heap.size,0,none⟩) 1 1)) (w.alloc (.cells arr 92))):
  if Region.wanted o (yielded ops a.tmps)=true then Oper.wp Tryz.prog o a w K Q else E:=by
 have hw:Region.wanted o (yielded ops a.tmps)=true:=by simp[Region.wanted,hgd]
 rw[if_pos hw];unfold Oper.wp execOp;simp only[ho,Sem.run_bind,Sem.run_pure,Result.andThen_ok,List.map_toArray,List.map_cons,List.map_nil,hx,XJ h];exact hk
structure DfC (c:Col) (w:World) (D:Nat) (sv:Value) (q:List (List Int×Int)):Prop where
 box:w.heap[D]? =some (.cells #[sv] 63 (0,0))
 cD:c D=2
 own:w.ownsRow 0 92 257 sv q.length (vN q)
 col:∀k,sv.ownBlock=some k→c k=2
 ne:sv.ownBlock≠some D
 wide:zIZ q
section
variable {S:Nat→Prop} {c c':Col} {w w':World} {D:Nat} {sv:Value} {q:List (List Int×Int)} {s:List Int×Int}
theorem DfC.lt (h:DfC c w D sv q):D<w.heap.size:=(Array.getElem?_eq_some_iff.1 h.box).1
theorem DfC.cell (h:DfC c w D sv q):w.cell? ⟨D,0,none⟩=some sv∧w.frozen? ⟨D,0,none⟩=false:=by
 have:=h.box;exact⟨by rw[cell_of_row w D 0 _ _ (0,0) this];rfl,frozen_of_row w D 0 _ _ this⟩
theorem DfC.form (h:DfC c w D sv q):∃ao cap,sv= .slice ao q.length cap∧q.length≤cap:=by
 obtain⟨ao,cap,hv,hn,_⟩:=Zc h.own;exact⟨ao,cap,hv,hn⟩
theorem DfC.step (h:DfC c w D sv q) (hs:StepC S c c' w w') (h2:¬S 2):DfC c' w' D sv q:=
 ⟨(hs.keep.same D h.lt (by rw[h.cD];exact h2)).trans h.box,by rw[hs.same _ h.lt];exact h.cD,zF h.own hs.keep fun k e=>by rw[h.col k e];exact h2,fun k e=>by rw[hs.same k (World.ownsRow.lt h.own k e).2];exact h.col k e,h.ne,h.wide⟩
theorem DfC.push (hf:xA c w) (h:DfC c w D sv q) (hs:s.1.length=256) (hq:q.length≤100000):
  ∃ao cap w2,(Builtin.append_ #[61,61] 61 #[sv,.slice (some ⟨w.heap.size,0,none⟩) 1 1]).run Tryz.prog (w.alloc (.cells (staD s).toArray 92))= .ok (.slice ao (q.length+1) cap) w2∧D<w2.heap.size∧w2.frozen? ⟨D,0,none⟩=false∧w2.cell? ⟨D,0,none⟩=some sv ∧
   ∃c',StepC (fun a=>a=2) c c' w (w2.setCell ⟨D,0,none⟩ (.slice ao (q.length+1) cap))∧DfC c' (w2.setCell ⟨D,0,none⟩ (.slice ao (q.length+1) cap)) D (.slice ao (q.length+1) cap) (q++ [s]):=by
 have hba:=zA w (.cells (staD s).toArray 92);have hsa:=zC w (.cells (staD s).toArray 92);have hcx:∀(j:Nat) x,(staD s)[j]? =some x→(w.alloc (.cells (staD s).toArray 92)).cell? ⟨w.heap.size,j,none⟩=some x:=fun j x hx=>by
  rw[cell_of_row _ _ j _ _ (0,0) (heap_alloc_new w _),List.getElem?_toArray];exact hx
 have hA:=h.step (S:=fun _=>False) (StepC.below hf hba) (fun e=>e);obtain⟨W,hW⟩:∃W,w.alloc (.cells (staD s).toArray 92)=W:=⟨_,rfl⟩;rw[hW] at hba hsa hcx hA ⊢;obtain⟨i0,hi1,hz0,hz1,hz2⟩:=xJ Tryz.infoStD;obtain⟨v',w2,hr,hown',hgr,_,hat⟩:=run_append_own_at (P:=Tryz.prog) W 0 61 61 92 i0 (.agg zx.toArray) 257 2056 Tryz.underlying61 hi1 hz0 hz1 hz2 (by show zx.toArray.size=257;rw[List.size_toArray,qG]) (by decide) sv q.length (vN q) hA.own ⟨w.heap.size,0,none⟩ 1 1 (staD s) (by rw[qC hs]) (fun j x hx=>by
  rw[Zr,Nat.zero_add];exact hcx j x hx) QK (by unfold maxLen;omega) (by omega) (Nat.zero_le _)
 have hkeep:KeepW (fun k=>sv.ownBlock≠some k) W w2:=⟨hgr.os,hgr.tape,hgr.output,hgr.size,fun k hk hne=>hgr.block k hk fun e=>hne e.symm⟩;obtain⟨ao,cap,rfl,_⟩:=Zc hown';have hbox2:w2.heap[D]? =some (.cells #[sv] 63 (0,0)):=(hkeep.same D hA.lt hA.ne).trans hA.box;have hD2:D<w2.heap.size:=Nat.lt_of_lt_of_le hA.lt hkeep.size;have hneD:(Value.slice ao (q.length+1) cap).ownBlock≠some D:=fun e=>by
  rcases hat with hat | hat
  ·exact h.ne (by rw[←hat];exact e)
  ·rw[hat] at e;have:=hA.lt;have e2:W.heap.size=D:=Option.some.inj e;omega
 obtain⟨c2,hc2⟩:∃c2:Col,c2=fun k=>if k=W.heap.size∧(Value.slice ao (q.length+1) cap).ownBlock=some k then 2 else c k:=⟨_,rfl⟩;have hold:∀k,k<W.heap.size→c2 k=c k:=fun k hk=>by rw[hc2];exact if_neg (by omega)
 have hs2:StepC (fun a=>a=2) c c2 W w2:=⟨hkeep.mono fun k _ hk e=>hk (h.col k e),hold,fun k hk=>by
  rw[hc2];show (if _ then 2 else c k)=0;rw[if_neg ?_]
  ·exact hf k (by have:=hkeep.size;have:=hba.size;omega)
  ·rintro⟨rfl,e⟩;have:=(World.ownsRow.lt hown' _ e).2;omega⟩
 have hset:=zd (B:=D) (i:=0) (y:= .slice ao (q.length+1) cap) hs2.fresh;have hcD2:c2 D=2:=by rw[hold D hA.lt];exact h.cD
 rw[hcD2] at hset;refine⟨ao,cap,w2,hr,hD2,frozen_of_row w2 D 0 _ _ hbox2,by rw[cell_of_row w2 D 0 _ _ (0,0) hbox2];rfl,c2,((StepC.below hf hba).trans hs2).trans hset,?_⟩;refine⟨?_,hcD2,?_,fun k e=> ?_,hneD,fun t ht=> ?_⟩
 ·rw[heap_setCell_same w2 D 0 _ _ _ hbox2];rfl
 ·rw[List.length_append,J7];show (w2.setCell _ _).ownsRow 0 _ 257 _ _ (vN q++(staD s++ []));rw[List.append_nil];exact zF hown' (zE (ok:=fun k=>k≠D) D 0 none _ w2 fun h=>h rfl) fun k e ek=>hneD (by rw[←ek];exact e)
 ·rcases hat with hat | hat
  ·have h2:sv.ownBlock=some k:=(by rw[←hat];exact e);rw[hold k (by have:=(World.ownsRow.lt hA.own k h2).2;exact this)];exact h.col k h2
  ·have e2:k=W.heap.size:=(by rw[hat] at e;exact (Option.some.inj e).symm);rw[hc2];exact if_pos ⟨e2,e⟩
 ·rcases List.mem_append.1 ht with ht | ht
  ·exact h.wide t ht
  ·rw[List.mem_singleton.1 ht];exact hs
theorem VK:∀(q:List (List Int×Int)),(q.map (·.1)).zip (q.map (·.2))=q
 | []=>rfl
 | s::q=>by rw[List.map_cons,List.map_cons,List.zip_cons_cons,VK q]
theorem DfC.read (h:DfC c w D sv q) (hq:q.length≤2000) (hlow:∀s,s∈q→(∀x,x∈s.1→ -1≤x)∧ -1≤s.2):DfV w (.pointer (some ⟨D,0,none⟩)) ⟨q.map (·.1),q.map (·.2)⟩:=by
 have hn:(⟨q.map (·.1),q.map (·.2)⟩:Dfa).n=q.length:=List.length_map _;refine⟨by rw[hn];exact hq,by rw[hn];exact List.length_map _,fun r hr=> ?_,fun r hr x hx=> ?_,fun x hx=> ?_,.inr ⟨D,sv,rfl,h.cell.1,?_⟩⟩
 ·obtain⟨s,hs,rfl⟩:=List.mem_map.1 hr;exact h.wide s hs
 ·obtain⟨s,hs,rfl⟩:=List.mem_map.1 hr;exact (hlow s hs).1 x hx
 ·obtain⟨s,hs,rfl⟩:=List.mem_map.1 hx;exact (hlow s hs).2
 ·rw[hn];show jO _ w sv q.length (vN ((q.map (·.1)).zip (q.map (·.2))));rw[VK];exact (Zc h.own).mono fun _ _ _=>trivial
end
end Go.Proofs.YtjeomlickkpebaaGreatDoor
set_option linter.unusedSimpArgs false
namespace Go.Proofs.YtjeomlickkpebaaGreatDoor
open Go.RowKit
def JX (L:List ByteArray) (w':World) (e:Ending):Prop:=
 (∃dp k,e= .returned (.tuple #[.pointer dp,.int .i64 0])∧DfW w' (.pointer dp) (Z4 L k)∧(goL L k).1.length=k) ∨
 (e= .returned (.tuple #[.pointer none,.int .i64 70])∧∃ls:List (List Int),(∀l,l∈ls→kN (quE L) (reachP (quE L) (fiE L)) l)∧(∀(i j:Nat) a b,i<j→ls[i]? =some a→ls[j]? =some b→a≠b)∧2000<ls.length)
def QC (L:List ByteArray) (k:Nat):List (List Int×Int):=(goL L k).2.zip (((goL L k).1.take k).map fun l=>accP (quE L) l (-1))
theorem StepC.under0 {S:Nat→Prop} {c':Col} {w w':World} (h:StepC S (fun _=>0) c' w w') (h0:¬S 0):Below w.heap.size w w':=h.under (Below.refl _ _) (Nat.le_refl _) fun _ _=>h0
def zH0 (L:List ByteArray) (w wr:World) (M D:Nat) (nv:Value) (mb k:Nat):Prop:=
 ∃c lv us sv,StepC (fun a=>a≠0) (fun _=>0) c w wr∧MkC c wr M nv (goL L k).1 lv mb us∧DfC c wr D sv (QC L k)∧(∀i,c i≠3)∧c D=2
section
variable {w w':World} {M mb:Nat} {nv lv:Value} {xs:List (List Int)} {us:List Value} {c c':Col}
theorem MkC.pale (h:MkC c w M nv xs lv mb us):MkC (Go.Proofs.YtjeomlickkpebaaGreatDoor.pale c 3) w M nv xs lv mb us:=
 ⟨h.box,zu h.cM (by decide),h.row.pale (by decide),h.map,zu h.cmb (by decide),h.ne1,h.ne2,h.ne3,⟨h.el.1,fun i u l hu hl=>⟨(h.el.2 i u l hu hl).1.pale,(h.el.2 i u l hu hl).2⟩⟩,h.fresh.pale⟩
theorem StepC.paler {S:Nat→Prop} (h:StepC S c c' w w') (h3:∀i,c i≠3):StepC S c (Go.Proofs.YtjeomlickkpebaaGreatDoor.pale c' 3) w w':=
 ⟨h.keep,fun k hk=>by
  unfold Go.Proofs.YtjeomlickkpebaaGreatDoor.pale;rw[h.same k hk,if_neg (h3 k)],h.fresh.pale⟩
theorem vF (c:Col):∀i,Go.Proofs.YtjeomlickkpebaaGreatDoor.pale c 3 i≠3:=fun i=>by
 unfold Go.Proofs.YtjeomlickkpebaaGreatDoor.pale;split
 ·decide
 ·rename_i h;exact h
end
theorem inq_non {q:List Sta} {l:List Int} (h:InQ q l) (hq:q.length≤100000):KH l:=fun a ha=>by
 have:=h a ha;omega
section
variable {L:List ByteArray}
theorem vl {k:Nat} (h:k≤(goL L k).1.length):∀l,l∈(goL L k).1→kN (quE L) (reachP (quE L) (fiE L)) l:=(jc L h).good
theorem ZY (w:List Nat):∀(l:List RuN) (j:Nat),yN l w j≤((j+l.length:Nat):Int)
 | [],j=>by rw[yN];omega
 | r::l,j=>by
  rw[yN];have:=ZY w l (j+1);rw[List.length_cons];split<;>omega
theorem zBI (hE:xG L=0) {k:Nat} (hk:(goL L k).1.length=k):∀x,x∈(Z4 L k).rule→x≤100000:=fun x hx=>by
 have hx2:x∈(goL L k).1.map (fun l=>accP (quE L) l (-1)):=hx;obtain⟨l,hl,rfl⟩:=List.mem_map.1 hx2;obtain⟨u,_,rfl,_⟩:=vl (by omega) l hl;have h1:=Zm (zI L) (nodes_good L) u;have h2:=ZY u ((zI L).map zR) 0;have h3:=(jE hE).2.1;have h4:((zI L).map zR).length=L.length:=by unfold zI;rw[List.length_map,List.length_map]
 show accP (zt (zI L)).1 (xO (zt (zI L)).1 u (reachP (zt (zI L)).1 (zt (zI L)).2)) (-1)≤100000;rw[h1];omega
theorem zEH (hE:xG L=0) {l:List Int} (h:kN (quE L) (reachP (quE L) (fiE L)) l):InQ (quE L) l∧vt (quE L) l:=by
 obtain⟨hm,_⟩:=jE hE;obtain⟨u,_,rfl,_⟩:=h;have hr:=kS (quE L) hm.ok (fiE L) hm.in_;have:=Xe hm.ok u _ hr.1 hr.2.1;exact⟨this.1,this.2.1⟩
theorem YT {step:List Int→Nat→List Int} (x:List Int) (xs:List (List Int)):∀b,∃t,(rowX step Z5 xg x xs b).1=xs++t
 | 0=>⟨[],by rw[List.append_nil];rfl⟩
 | b+1=>by
  obtain⟨t,ht⟩:=YT (step:=step) x xs b;rw[rowX,QD];show ∃t,QS _ _=_;unfold QS;split
  ·exact⟨t,ht⟩
  ·split
   ·exact⟨t++ [step x b],by rw[ht,List.append_assoc]⟩
   ·exact⟨t,ht⟩
theorem zBJ {k:Nat} {x:List Int} (hx:(goL L k).1[k]? =some x) (hk:k≤(goL L k).1.length):
  QC L (k+1)=QC L k++ [((vp (quE L) x (goL L k).1 256).2,accP (quE L) x (-1))]∧(goL L (k+1)).1=(vp (quE L) x (goL L k).1 256).1:=by
 have hl:=vU k hk;have hkl:=(List.getElem?_eq_some_iff.1 hx).1;have hnx:goL L (k+1)=((vp (quE L) x (goL L k).1 256).1,(goL L k).2++ [(vp (quE L) x (goL L k).1 256).2]):=Yl hx;unfold QC;rw[hnx];dsimp only;obtain⟨t,ht⟩:=(YT (step:=fun l b=>zy (quE L) b l) x (goL L k).1 256);have hto:(vp (quE L) x (goL L k).1 256).1.take (k+1)=(goL L k).1.take k++ [x]:=by
  show (rowX (fun l b=>zy (quE L) b l) Z5 xg x (goL L k).1 256).1.take (k+1)=_;rw[ht,List.take_append_of_le_length (by omega),List.take_add_one,hx];rfl
 refine⟨?_,rfl⟩;show ((goL L k).2++ [_]).zip (((rowX (fun l b=>zy (quE L) b l) Z5 xg x (goL L k).1 256).1.take (k+1)).map _)=_;rw[show (rowX (fun l b=>zy (quE L) b l) Z5 xg x (goL L k).1 256).1.take (k+1)=(goL L k).1.take k++ [x] from hto,List.map_append,List.zip_append (by rw[List.length_map,List.length_take,hl];omega)];rfl
theorem jK {k:Nat} (hk:k≤(goL L k).1.length):(QC L k).length=k:=by
 unfold QC;rw[List.length_zip,vU k hk,List.length_map,List.length_take];omega
theorem VL {k:Nat} (hk:(goL L k).1.length=k):(⟨(QC L k).map (·.1),(QC L k).map (·.2)⟩:Dfa)=Z4 L k:=by
 have hl:=vU k (show k≤(goL L k).1.length by omega);unfold Z4 QC;rw[List.take_of_length_le (by omega)];congr 1
 ·exact List.map_fst_zip (by rw[List.length_map,hl];omega)
 ·exact List.map_snd_zip (by rw[List.length_map,hl];omega)
set_option maxRecDepth 8000 in
set_option maxHeartbeats 8000000 in
theorem zBK {w:World} {nv:Value} (h:kD w nv (quE L) (fiE L)) (hE:xG L=0) (hp:zC2 w):
  Calls Tryz.prog 26 #[nv] w fun e w'=>JX L w' e∧Below w.heap.size w w':=by
 obtain⟨hm,_,hq,_⟩:=jE hE;have hne:=start_ne hE;obtain⟨B,_,_,_,_,rfl,_⟩:=h.form;have HN:=qh (fun (W:World) (hb:Below w.heap.size w W)=>(And.intro (h.below hb) (hp.below hb):kD W (.pointer (some ⟨B,0,none⟩)) (quE L) (fiE L)∧zC2 W));have HS:=qh (Vm h hm.ok hm.in_);have HIN:=qh (fun (k:Nat) (hk:k≤(goL L k).1.length) l (hl:l∈(goL L k).1)=>zEH hE (vl hk l hl));have HOK:=qh (And.intro hm.ok hq);obtain⟨r1,r2,r3⟩:=kS (quE L) hm.ok (fiE L) hm.in_;have HR:=qh (And.intro hne (And.intro (inq_non r1 hq) (show (reachP (quE L) (fiE L)).length≤100000 from Nat.le_trans (reach_few _ _) hq)));clear h hp hm hne hq r1 r2 r3;go_enter Tryz.func26,Tryz.ntmps26;go_wp2_with fail
 go_fit HS.out;rintro e w1 ⟨r,rfl,hr,hb⟩;have HI:=qh (And.intro hr hb);obtain⟨ro,rc,rfl,hrc⟩:=hr.ints.form;clear hr hb HS;obtain⟨st,hst⟩:∃st,reachP (quE L) (fiE L)=st:=⟨_,rfl⟩;have HST:=qh hst;rw[hst] at HI HR hrc;(try rw[hst]);obtain⟨n,hn⟩:∃n,st.length=n:=⟨_,rfl⟩;have HNN:=qh hn;rw[hn] at hrc HI;(try rw[hn]);have hni:((n:Int)==0)=false:=beq_eq_false_iff_ne.2 (by
  have:=List.length_pos_iff.2 HR.out.1;omega)
 clear hst hn;have hmm:= @run_makeMap Tryz.prog;have hbA:=zA w1 (.map #[] 0);have hsA:=zC w1 (.map #[] 0);have hmA:=Jd.new w1;have hbB:=zA (w1.alloc (.map #[] 0)) (.cells #[.pointer (some ⟨B,0,none⟩),.slice none 0 0,.map (some w1.heap.size)] 103);have hsB:=zC (w1.alloc (.map #[] 0)) (.cells #[.pointer (some ⟨B,0,none⟩),.slice none 0 0,.map (some w1.heap.size)] 103);have hxB:=box3.new 103 (w1.alloc (.map #[] 0)) (.pointer (some ⟨B,0,none⟩)) (.slice none 0 0) (.map (some w1.heap.size));rw[hsA] at hxB;obtain⟨W2,hW2⟩:∃W,(w1.alloc (.map #[] 0)).alloc (.cells #[.pointer (some ⟨B,0,none⟩),.slice none 0 0,.map (some w1.heap.size)] 103)=W:=⟨_,rfl⟩;rw[hW2] at hbB hsB hxB;obtain⟨c1,hc1⟩:∃c1:Col,c1=fun k=>if k=w1.heap.size∨k=w1.heap.size+1 then 1 else 0:=⟨_,rfl⟩;have hb12:Below w1.heap.size w1 W2:=hbA.trans (hbB.mono (by omega));have hcold:∀k,k<w1.heap.size→c1 k=0:=fun k hk=>by rw[hc1];exact if_neg (by omega)
 have hsz:=HI.out.2.size;have hfr1:xA c1 W2:=fun k hk=>by rw[hc1];exact if_neg (by omega)
 have HM0:Hid (MkC c1 W2 (w1.heap.size+1) (.pointer (some ⟨B,0,none⟩)) [] (.slice none 0 0) w1.heap.size []):=qh
  ⟨hxB,by rw[hc1];exact if_pos (.inr rfl),RowC.nil _ _ _ _,hmA.keep (keep_below (fun _=>True) (hbB.mono (by omega))) trivial,by rw[hc1];exact if_pos (.inl rfl),by omega,(fun e=>by cases e),(fun e=>by cases e),⟨rfl,fun i u l hu=>by simp at hu⟩,hfr1⟩
 have HC0:Hid (yO c1 W2 (.slice ro n rc) (xK st)):=qh (by
  have h1:=HI.out.1.1;rw[show st.length=(xK st).length from (zP st).symm] at h1;exact (h1.mono fun k hk _=>hcold k hk).keep (keep_below (fun _=>True) hb12) fun _ _ _=>trivial)
 have HS0:Hid (StepC (fun a=>a≠0) (fun _=>0) c1 w W2):=qh
  ⟨keep_below _ (HI.out.2.trans (hb12.mono hsz)),fun k hk=>hcold k (by omega),hfr1⟩
 have HNU:=qh (VQ HM0.out ((HN.out _ (HS0.out.under0 (fun e=>e rfl))).2) HC0.out HR.out.2.2 HR.out.2.1 (fun x hx=>by cases hx) (by decide));clear hbA hsA hmA hbB hsB hxB hc1 hb12 hcold hfr1 HM0 HC0 HI hrc;go_wp2_with fail
 (try rw[hW2]);go_fit HNU.out;rintro e w2 ⟨rfl,c2,lv2,us2,z1,z2⟩;have hba:=zA w2 (.cells #[.slice none 0 0] 63);have hsa:=zC w2 (.cells #[.slice none 0 0] 63);have hnw:=heap_alloc_new w2 (.cells #[.slice none 0 0] 63);have HX0:Hid (zH0 L w (w2.alloc (.cells #[.slice none 0 0] 63)) (w1.heap.size+1) w2.heap.size (.pointer (some ⟨B,0,none⟩)) w1.heap.size 0):=qh (by
  have z3:=z2.pale;have sA:StepC (fun a=>a≠0) (pale c2 3) (colAt (pale c2 3) 2 w2.heap.size) w2 (w2.alloc (.cells #[.slice none 0 0] 63)):=StepC.colAt z3.fresh _;have sF:StepC (fun _=>False) (pale c2 3) (colAt (pale c2 3) 2 w2.heap.size) w2 (w2.alloc (.cells #[.slice none 0 0] 63)):=StepC.colAt z3.fresh _;have s0:StepC (fun a=>a≠0) (fun _=>0) (pale c2 3) w w2:=by
   have:=HS0.out.trans (z1.mono fun a e=>(by rw[e];decide:a≠0));exact StepC.paler this (fun i=>by decide)
  have z4:=z3.step sF (fun e=>e) (fun e=>e);refine⟨_,lv2,us2,.slice none 0 0,s0.trans sA,?_,⟨hnw,if_pos rfl,World.ownsRow_nil _ _ _ _,(fun k e=>by cases e),(fun e=>by cases e),fun s hs=>by cases hs⟩,fun i=> ?_,if_pos rfl⟩
  ·have e:QS [] st=(goL L 0).1:=by
    show QS [] st= [reachP (quE L) (fiE L)];rw[HST.out];unfold QS;have hnl:¬Z5 st=true:=fun e=>HR.out.1 (List.isEmpty_iff.1 e);have e9:xH xg [] st 0= -1:=rfl;rw[if_neg hnl,e9,if_pos (by decide)];rfl
   rw[←e];exact z4
  ·unfold colAt;split
   ·decide
   ·exact vF c2 i)
 clear z1 z2 hba hsa hnw HNU HS0 hW2;obtain⟨W3,hW3⟩:∃W,w2.alloc (.cells #[.slice none 0 0] 63)=W:=⟨_,rfl⟩;rw[hW3] at HX0;obtain⟨M,hM⟩:∃M,w1.heap.size+1=M:=⟨_,rfl⟩;rw[hM] at HX0;(try rw[hM]);obtain⟨D,hD⟩:∃D,w2.heap.size=D:=⟨_,rfl⟩;rw[hD] at HX0;obtain⟨mb,hmb⟩:∃mb,w1.heap.size=mb:=⟨_,rfl⟩;rw[hmb] at HX0;go_wp2_with fail
 (try rw[hW3]);(try rw[hD]);(try rw[hM]);clear hW3 hM hD;go_loopw [2,6] (fun s2 s6 wr=>∃k:Nat,s2= .pointer (some ⟨D,0,none⟩)∧s6= .int .i64 (k:Int)∧k≤(goL L k).1.length∧(goL L k).1.length≤2000∧Hid (zH0 L w wr M D (.pointer (some ⟨B,0,none⟩)) mb k)) (fun _ s6 _=>2001-(intOf s6).toNat)
 case atStart=>exact⟨0,rfl,rfl,Nat.zero_le _,(show 1≤2000 by decide),HX0⟩
 case round=>
  clear HX0;obtain⟨k,rfl,rfl,hk,hx2,HX⟩:=hrel;obtain⟨c,lv,us,sv,x1,x2,x3,x4,x5⟩:=HX.out;obtain⟨⟨b0,b1,b2⟩,f0,f1,f2⟩:=x2.box.cells;obtain⟨lo,lc,rfl,hlc⟩:=x2.row.form;have hul:=x2.el.1;have i0:(0:Int)≤(k:Int):=by omega
  by_cases hlt:k<(goL L k).1.length
  ·obtain⟨x,hx⟩:∃x,(goL L k).1[k]? =some x:=⟨_,List.getElem?_eq_getElem hlt⟩;have hmem:=List.mem_of_getElem? hx;obtain⟨hq1,hq2⟩:=HIN.out k hk x hmem;obtain⟨u,hu⟩:∃u,us[k]? =some u:=⟨_,List.getElem?_eq_getElem (by omega)⟩;obtain⟨hcu,hlu⟩:=x2.el.2 k u x hu hx;obtain⟨go,gcap,hlv,_,hgc⟩:=x2.row.rowZ;injection hlv with hlv1 hlv2 hlv3
   subst hlv1;obtain⟨lg,lof,rfl,_,hcell⟩:=hgc k u hu;clear hlv2 hlv3;obtain⟨row,hrow⟩:∃row,(vp (quE L) x (goL L k).1 256).2=row:=⟨_,rfl⟩;obtain⟨xs2,hxs2⟩:∃xs2,(vp (quE L) x (goL L k).1 256).1=xs2:=⟨_,rfl⟩;obtain⟨ru,hru⟩:∃ru,accP (quE L) x (-1)=ru:=⟨_,rfl⟩;obtain⟨hrn1,hrn2⟩:=zBJ hx hk;rw[hrow,hru] at hrn1;rw[hxs2] at hrn2;have hrl:row.length=256:=(by rw[←hrow];exact (QJ _ x _ 256).2);have hxl2:xs2.length≤(goL L k).1.length+256:=(by rw[←hxs2];exact (QJ _ x _ 256).1);have hkx:k+1≤xs2.length:=by
    obtain⟨t,ht⟩:=YT (step:=fun l b=>zy (quE L) b l) x (goL L k).1 256;rw[←hxs2];show _≤(rowX (fun l b=>zy (quE L) b l) Z5 xg x (goL L k).1 256).1.length;rw[ht,List.length_append];omega
   obtain⟨arr,harr⟩:∃arr,(staD (row,ru)).toArray=arr:=⟨_,rfl⟩;have hfresh:=x2.fresh;have has:arr.size=257:=(by rw[←harr,List.size_toArray,qC hrl]);have hcall:∀W,Below wr.heap.size wr W→Calls Tryz.prog 46 #[.pointer (some ⟨M,0,none⟩),u] W fun e w'=>e= .returned (.agg arr)∧Hid (∃c2 lv2 us2,StepC (fun a=>a=1) c c2 wr w'∧MkC c2 w' M (.pointer (some ⟨B,0,none⟩)) xs2 lv2 mb us2∧∀i,c2 i≠3):=fun W hW=>by
    have sW:=StepC.below (S:=fun a=>a=1) hfresh hW
    have key:=KR (q:=quE L) (first:=fiE L) (x2.under hW) (HN.out W ((x1.trans (StepC.below hfresh hW)).under0 (fun e=>e rfl))).1 (fun k _=>x4 k) HOK.out.1
     (fun c' W' hs=>HN.out W' ((x1.trans ((StepC.below hfresh hW).trans (hs.mono fun a e=>(by rw[e];decide:a≠0)))).under0 (fun e=>e rfl)))
     (hcu.step sW (by decide)) (l:=x) (by
      have:=(HIN.out k hk x hmem).1;exact Nat.le_trans (show x.length≤100000 from by
       obtain⟨w0,_,e,_⟩:=vl hk x hmem;have h9:=HOK.out.2;rw[e];cases hw0:w0.reverse with
       | nil=>
        have:w0= []:=(by simpa using hw0);subst this;exact Nat.le_trans (reach_few _ _) h9
       | cons b t=>
        have:w0=t.reverse++ [b]:=by
         have:=congrArg List.reverse hw0
         simpa using this
        subst this;rw[jz];exact Nat.le_trans (Ym _ _ _) h9) (Nat.le_refl _)) (fun b=>⟨inq_non (K6 _ HOK.out.1 b x hq2).1 HOK.out.2,Nat.le_trans (Ym _ _ _) HOK.out.2⟩)
     (fun y hy=>inq_non (HIN.out k hk y hy).1 HOK.out.2) (by omega)
    rw[hrow,hxs2,hru] at key;refine key.mono ?_;rintro e w' ⟨rfl,c2,lv2,us2,y1,y2⟩;exact⟨by rw[harr],qh ⟨pale c2 3,lv2,us2,(sW.trans y1).paler x4,y2.pale,vF c2⟩⟩
   have hadd:∀w',(∃c2 lv2 us2,StepC (fun a=>a=1) c c2 wr w'∧MkC c2 w' M (.pointer (some ⟨B,0,none⟩)) xs2 lv2 mb us2∧∀i,c2 i≠3) →
     w'.cell? ⟨D,0,none⟩=some sv∧D<w'.heap.size∧w'.frozen? ⟨D,0,none⟩=false∧∃ao cap w8,(Builtin.append_ #[61,61] 61 #[sv,.slice (some ⟨w'.heap.size,0,none⟩) 1 1]).run Tryz.prog (w'.alloc (.cells arr 92))= .ok (.slice ao (k+1) cap) w8∧D<w8.heap.size∧w8.frozen? ⟨D,0,none⟩=false∧w8.cell? ⟨D,0,none⟩=some sv ∧
      Hid (zH0 L w (w8.setCell ⟨D,0,none⟩ (.slice ao (k+1) cap)) M D (.pointer (some ⟨B,0,none⟩)) mb (k+1)):=fun w' ⟨c2,lv2,us2,y1,y2,y3⟩=>by
    have z1:=x3.step y1 (by decide);obtain⟨ao,cap,w8,p1,p2,p3,p4,c3,p5,p6⟩:=z1.push (s:=(row,ru)) y2.fresh hrl (by rw[jK hk];omega);rw[jK hk,harr] at p1;rw[jK hk] at p5 p6;refine⟨z1.cell.1,z1.lt,z1.cell.2,ao,cap,w8,p1,p2,p3,p4,qh ?_⟩;have q2:=(y2.step p5 (by decide) (by decide)).pale;rw[←hrn2] at q2;rw[←hrn1] at p6;refine⟨pale c3 3,lv2,us2,.slice ao (k+1) cap,((x1.trans (y1.mono fun a e=>(by rw[e];decide:a≠0))).trans ((p5.paler y3).mono fun a e=>(by rw[e];decide:a≠0))),q2,?_,vF c3,?_⟩
    ·exact⟨p6.box,zu p6.cD (by decide),p6.own,fun k e=>zu (p6.col k e) (by decide),p6.ne,p6.wide⟩
    ·exact zu p6.cD (by decide)
   obtain⟨so,sc,rfl,hsc⟩:=x3.form;rw[jK hk] at hsc hadd;have d0:=x3.cell;rw[jK hk] at d0;obtain⟨d1,d2⟩:=d0;have hDl:=x3.lt;have HCALL:=qh hcall;have HADD:=qh hadd;have kb:=Below.refl wr.heap.size wr;have kd:=kb.drew;have hbs:=XJ has;obtain⟨BS,hBS⟩:∃BS,Instr.buildSlice 61 1 #[(0,Value.agg arr)]=BS:=⟨_,rfl⟩;rw[hBS] at hbs;obtain⟨m,hm⟩:∃m,(goL L k).1.length=m:=⟨_,rfl⟩;rw[hul,hm] at hlc b1;rw[hm] at hlt hx2 hxl2;have hkm:k<m:=hlt;have HN2:=qh (And.intro hrn2 (And.intro hxl2 hkx));clear x1 x2 x3 x4 x5 HX hcall hadd hcu hq1 hq2 hmem hx hu hgc hrn1 hrow hxs2 hru hfresh hul hm harr hrl hlu;go_wp2_with fail
   refine wp_region_any (by kernel_rfl) ?_;(try (change wpAny _ _ _ _ _ _ _ (World.drew _)));refine tK 0 ⟨some 26,.move (.tmp 2),30,_,#[],none⟩ ?v1000 rfl (.inl ⟨by rfl,?h1000⟩) ?_;case h1000=>(intro w;go_simp;(try with_reducible rfl))
   (try simp only[Act.put,pA1,pA2,pA3]);refine tK 1 ⟨some 27,.move (.tmp 2),30,_,#[],none⟩ ?v1001 rfl (.inl ⟨by rfl,?h1001⟩) ?_;case h1001=>(intro w;go_simp;(try with_reducible rfl))
   (try simp only[Act.put,pA1,pA2,pA3]);refine tK 2 ⟨some 28,.nilCheck (.tmp 27),0,_,#[⟨1,.data⟩],none⟩ ?v1002 rfl (.inl ⟨by rfl,?h1002⟩) ?_;case h1002=>(intro w;go_simp;(try with_reducible rfl))
   (try simp only[Act.put,pA1,pA2,pA3]);refine tK 3 ⟨some 29,.fieldAddr 63 (.tmp 28) 0,0,_,#[⟨2,.data⟩],none⟩ ?v1003 rfl (.inl ⟨by rfl,?h1003⟩) ?_;case h1003=>(intro w;go_simp;(try with_reducible rfl))
   (try simp only[Act.put,pA1,pA2,pA3]);refine tK 5 ⟨some 31,.fieldAddr 103 (.tmp 5) 1,0,_,#[],none⟩ ?v1004 rfl (.inl ⟨by rfl,?h1004⟩) ?_;case h1004=>(intro w;go_simp;(try with_reducible rfl))
   (try simp only[Act.put,pA1,pA2,pA3]);refine tK 7 ⟨some 33,.move (.tmp 6),3,_,#[],none⟩ ?v1005 rfl (.inl ⟨by rfl,?h1005⟩) ?_;case h1005=>(intro w;go_simp;(try with_reducible rfl))
   (try simp only[Act.put,pA1,pA2,pA3]);refine rD [4,6] (aC ⟨some 30,.load 61 (.tmp 29),61,_,#[⟨3,.data⟩],none⟩ rfl (fun K hK=> ?_) (aC ⟨some 32,.load 38 (.tmp 31),38,_,#[⟨5,.data⟩],none⟩ rfl (fun K hK=> ?_) aN))
   ·skip;go_simp;refine hK _ _ ?_;clear hK K;(try simp only[Act.put,pA1,pA2,pA3]);refine rD [6] (aC ⟨some 32,.load 38 (.tmp 31),38,_,#[⟨5,.data⟩],none⟩ rfl (fun K hK=> ?_) aN);go_simp;refine hK _ _ ?_;clear hK K;(try simp only[Act.put,pA1,pA2,pA3]);refine tK 8 ⟨some 34,.indexAddr 38 (.tmp 32) (.tmp 33),0,_,#[⟨6,.data⟩,⟨7,.data⟩],none⟩ ?v1006 rfl (.inl ⟨by rfl,?h1006⟩) ?_;case h1006=>(intro w;go_simp;(try with_reducible rfl))
    (try simp only[Act.put,pA1,pA2,pA3]);refine rD [9] (aC ⟨some 35,.load 39 (.tmp 34),39,_,#[⟨8,.data⟩],none⟩ rfl (fun K hK=> ?_) aN);go_simp;refine hK _ _ ?_;clear hK K;(try simp only[Act.put,pA1,pA2,pA3]);refine rD [10] (aC ⟨some 36,.call ⟨.value (.func 46),#[.tmp 5,.tmp 35],#[103,39]⟩,92,_,#[⟨9,.data⟩],none⟩ rfl (fun K hK=> ?_) aN);go_simp;go_at_call 46;go_fit (HCALL.out _ kd);rintro e w5 ⟨rfl,HJ⟩;obtain⟨d1,hDl,d2,ao,cap,w8,hrun,p2,p3,p4,HK⟩:=HADD.out _ HJ.out;(try dsimp only);refine hK _ _ ?_;clear hK K;(try simp only[Act.put,pA1,pA2,pA3]);refine rD [11] (aC ⟨some 37,.buildSlice 61 1 #[(0,.tmp 36)],61,_,#[⟨10,.data⟩],none⟩ rfl (fun K hK=> ?_) aN);refine xS has (by rfl) (.tmp 36) (by rfl) (by rfl) ?_;refine hK _ _ ?_;clear hK K;(try simp only[Act.put,pA1,pA2,pA3]);refine rD [12] (aC ⟨some 38,.call ⟨.builtin .append,#[.tmp 30,.tmp 37],#[61,61]⟩,61,_,eA39_0,none⟩ rfl (fun K hK=> ?_) aN);refine zw (by rfl) (.tmp 30) (.tmp 37) 61 (by rfl) (by rfl) (by rfl) hrun ?_;refine hK _ _ ?_;clear hK K;(try simp only[Act.put,pA1,pA2,pA3]);refine tK 13 ⟨some 39,.nilCheck (.tmp 26),0,_,JU,none⟩ ?v1007 rfl (.inl ⟨by rfl,?h1007⟩) ?_;case h1007=>(intro w;go_simp;(try with_reducible rfl))
    (try simp only[Act.put,pA1,pA2,pA3]);refine tK 14 ⟨some 40,.fieldAddr 63 (.tmp 39) 0,0,_,JV,none⟩ ?v1008 rfl (.inl ⟨by rfl,?h1008⟩) ?_;case h1008=>(intro w;go_simp;(try with_reducible rfl))
    (try simp only[Act.put,pA1,pA2,pA3]);refine rD [15] (aC ⟨none,.store 61 (.tmp 40) (.tmp 38),0,_,JW,none⟩ rfl (fun K hK=> ?_) aN);go_simp;refine hK _ _ ?_;clear hK K;(try simp only[Act.put,pA1,pA2,pA3]);refine wpAny_done (by kernel_rfl) ?_ _;clear HCALL HADD hbs;obtain⟨WF,hWF⟩:∃W,w8.setCell ⟨D,0,none⟩ (.slice ao (k+1) cap)=W:=⟨_,rfl⟩;rw[hWF] at HK;(try rw[hWF]);clear hWF hrun p2 p3 p4 d1 d2 hDl kb kd;obtain⟨c9,lv9,us9,sv9,t1,t2,t3,t4,t5⟩:=HK.out;obtain⟨⟨r0,r1,r2⟩,g0,g1,g2⟩:=t2.box.cells;obtain⟨ro9,rc9,rfl,hrc9⟩:=t2.row.form;have hul9:=t2.el.1;rw[HN2.out.1] at hul9;obtain⟨m9,hm9⟩:∃m9,xs2.length=m9:=⟨_,rfl⟩;have HM9:=qh hm9;rw[hul9,hm9] at r1 hrc9;have hx29:=HN2.out.2.1;rw[hm9] at hx29;clear t1 t2 t3 t4 t5 hul9 hm9;by_cases hbig:2000<m9
    ·have hbi:(m9:Int)>2000:=(by omega);have hF:Hid (JX L WF (.returned (.tuple #[.pointer none,.int .i64 70]))∧Below w.heap.size w WF):=qh (by
      obtain⟨c9,lv9,us9,sv9,t1,t2,t3,t4,t5⟩:=HK.out;have hle:k+1≤(goL L (k+1)).1.length:=(by rw[HN2.out.1,HM9.out];omega);have hgi:=jc L hle;refine⟨.inr ⟨rfl,(goL L (k+1)).1,hgi.good,fun i j a b hij hi hj e=> ?_,by rw[HN2.out.1,HM9.out];exact hbig⟩,t1.under0 (fun e=>e rfl)⟩;have:=hgi.unlike i j a b hij hi hj;rw[e] at this;exact absurd (show xg b b=true from decide_eq_true rfl) (by rw[this];decide))
     go_wp2_with fail
     go_ret2
     exact hF.out
    ·have hbi:¬(m9:Int)>2000:=(by omega);go_wp2_with fail
     go_roundw
     case rel=>exact⟨k+1,rfl,by go_num,by rw[HN2.out.1,HM9.out];have:=HN2.out.2.2;rw[HM9.out] at this;omega,by rw[HN2.out.1,HM9.out];omega,HK⟩
     case measure=>simp[intOf]<;>omega
   ·skip;go_simp;refine hK _ _ ?_;clear hK K;(try simp only[Act.put,pA1,pA2,pA3]);refine tK 8 ⟨some 34,.indexAddr 38 (.tmp 32) (.tmp 33),0,_,#[⟨6,.data⟩,⟨7,.data⟩],none⟩ ?v1009 rfl (.inl ⟨by rfl,?h1009⟩) ?_;case h1009=>(intro w;go_simp;(try with_reducible rfl))
    (try simp only[Act.put,pA1,pA2,pA3]);refine rD [4,9] (aC ⟨some 30,.load 61 (.tmp 29),61,_,#[⟨3,.data⟩],none⟩ rfl (fun K hK=> ?_) (aC ⟨some 35,.load 39 (.tmp 34),39,_,#[⟨8,.data⟩],none⟩ rfl (fun K hK=> ?_) aN))
    ·skip;go_simp;refine hK _ _ ?_;clear hK K;(try simp only[Act.put,pA1,pA2,pA3]);refine rD [9] (aC ⟨some 35,.load 39 (.tmp 34),39,_,#[⟨8,.data⟩],none⟩ rfl (fun K hK=> ?_) aN);go_simp;refine hK _ _ ?_;clear hK K;(try simp only[Act.put,pA1,pA2,pA3]);refine rD [10] (aC ⟨some 36,.call ⟨.value (.func 46),#[.tmp 5,.tmp 35],#[103,39]⟩,92,_,#[⟨9,.data⟩],none⟩ rfl (fun K hK=> ?_) aN);go_simp;go_at_call 46;go_fit (HCALL.out _ kd);rintro e w5 ⟨rfl,HJ⟩;obtain⟨d1,hDl,d2,ao,cap,w8,hrun,p2,p3,p4,HK⟩:=HADD.out _ HJ.out;(try dsimp only);refine hK _ _ ?_;clear hK K;(try simp only[Act.put,pA1,pA2,pA3]);refine rD [11] (aC ⟨some 37,.buildSlice 61 1 #[(0,.tmp 36)],61,_,#[⟨10,.data⟩],none⟩ rfl (fun K hK=> ?_) aN);refine xS has (by rfl) (.tmp 36) (by rfl) (by rfl) ?_;refine hK _ _ ?_;clear hK K;(try simp only[Act.put,pA1,pA2,pA3]);refine rD [12] (aC ⟨some 38,.call ⟨.builtin .append,#[.tmp 30,.tmp 37],#[61,61]⟩,61,_,eA39_0,none⟩ rfl (fun K hK=> ?_) aN);refine zw (by rfl) (.tmp 30) (.tmp 37) 61 (by rfl) (by rfl) (by rfl) hrun ?_;refine hK _ _ ?_;clear hK K;(try simp only[Act.put,pA1,pA2,pA3]);refine tK 13 ⟨some 39,.nilCheck (.tmp 26),0,_,JU,none⟩ ?v1010 rfl (.inl ⟨by rfl,?h1010⟩) ?_;case h1010=>(intro w;go_simp;(try with_reducible rfl))
     (try simp only[Act.put,pA1,pA2,pA3]);refine tK 14 ⟨some 40,.fieldAddr 63 (.tmp 39) 0,0,_,JV,none⟩ ?v1011 rfl (.inl ⟨by rfl,?h1011⟩) ?_;case h1011=>(intro w;go_simp;(try with_reducible rfl))
     (try simp only[Act.put,pA1,pA2,pA3]);refine rD [15] (aC ⟨none,.store 61 (.tmp 40) (.tmp 38),0,_,JW,none⟩ rfl (fun K hK=> ?_) aN);go_simp;refine hK _ _ ?_;clear hK K;(try simp only[Act.put,pA1,pA2,pA3]);refine wpAny_done (by kernel_rfl) ?_ _;clear HCALL HADD hbs;obtain⟨WF,hWF⟩:∃W,w8.setCell ⟨D,0,none⟩ (.slice ao (k+1) cap)=W:=⟨_,rfl⟩;rw[hWF] at HK;(try rw[hWF]);clear hWF hrun p2 p3 p4 d1 d2 hDl kb kd;obtain⟨c9,lv9,us9,sv9,t1,t2,t3,t4,t5⟩:=HK.out;obtain⟨⟨r0,r1,r2⟩,g0,g1,g2⟩:=t2.box.cells;obtain⟨ro9,rc9,rfl,hrc9⟩:=t2.row.form;have hul9:=t2.el.1;rw[HN2.out.1] at hul9;obtain⟨m9,hm9⟩:∃m9,xs2.length=m9:=⟨_,rfl⟩;have HM9:=qh hm9;rw[hul9,hm9] at r1 hrc9;have hx29:=HN2.out.2.1;rw[hm9] at hx29;clear t1 t2 t3 t4 t5 hul9 hm9;by_cases hbig:2000<m9
     ·have hbi:(m9:Int)>2000:=(by omega);have hF:Hid (JX L WF (.returned (.tuple #[.pointer none,.int .i64 70]))∧Below w.heap.size w WF):=qh (by
       obtain⟨c9,lv9,us9,sv9,t1,t2,t3,t4,t5⟩:=HK.out;have hle:k+1≤(goL L (k+1)).1.length:=(by rw[HN2.out.1,HM9.out];omega);have hgi:=jc L hle;refine⟨.inr ⟨rfl,(goL L (k+1)).1,hgi.good,fun i j a b hij hi hj e=> ?_,by rw[HN2.out.1,HM9.out];exact hbig⟩,t1.under0 (fun e=>e rfl)⟩;have:=hgi.unlike i j a b hij hi hj;rw[e] at this;exact absurd (show xg b b=true from decide_eq_true rfl) (by rw[this];decide))
      go_wp2_with fail
      go_ret2
      exact hF.out
     ·have hbi:¬(m9:Int)>2000:=(by omega);go_wp2_with fail
      go_roundw
      case rel=>exact⟨k+1,rfl,by go_num,by rw[HN2.out.1,HM9.out];have:=HN2.out.2.2;rw[HM9.out] at this;omega,by rw[HN2.out.1,HM9.out];omega,HK⟩
      case measure=>simp[intOf]<;>omega
    ·skip;go_simp;refine hK _ _ ?_;clear hK K;(try simp only[Act.put,pA1,pA2,pA3]);refine rD [4,10] (aC ⟨some 30,.load 61 (.tmp 29),61,_,#[⟨3,.data⟩],none⟩ rfl (fun K hK=> ?_) (aC ⟨some 36,.call ⟨.value (.func 46),#[.tmp 5,.tmp 35],#[103,39]⟩,92,_,#[⟨9,.data⟩],none⟩ rfl (fun K hK=> ?_) aN))
     ·skip;go_simp;refine hK _ _ ?_;clear hK K;(try simp only[Act.put,pA1,pA2,pA3]);refine rD [10] (aC ⟨some 36,.call ⟨.value (.func 46),#[.tmp 5,.tmp 35],#[103,39]⟩,92,_,#[⟨9,.data⟩],none⟩ rfl (fun K hK=> ?_) aN);go_simp;go_at_call 46;go_fit (HCALL.out _ kd);rintro e w5 ⟨rfl,HJ⟩;obtain⟨d1,hDl,d2,ao,cap,w8,hrun,p2,p3,p4,HK⟩:=HADD.out _ HJ.out;(try dsimp only);refine hK _ _ ?_;clear hK K;(try simp only[Act.put,pA1,pA2,pA3]);refine rD [11] (aC ⟨some 37,.buildSlice 61 1 #[(0,.tmp 36)],61,_,#[⟨10,.data⟩],none⟩ rfl (fun K hK=> ?_) aN);refine xS has (by rfl) (.tmp 36) (by rfl) (by rfl) ?_;refine hK _ _ ?_;clear hK K;(try simp only[Act.put,pA1,pA2,pA3]);refine rD [12] (aC ⟨some 38,.call ⟨.builtin .append,#[.tmp 30,.tmp 37],#[61,61]⟩,61,_,eA39_0,none⟩ rfl (fun K hK=> ?_) aN);refine zw (by rfl) (.tmp 30) (.tmp 37) 61 (by rfl) (by rfl) (by rfl) hrun ?_;refine hK _ _ ?_;clear hK K;(try simp only[Act.put,pA1,pA2,pA3]);refine tK 13 ⟨some 39,.nilCheck (.tmp 26),0,_,JU,none⟩ ?v1012 rfl (.inl ⟨by rfl,?h1012⟩) ?_;case h1012=>(intro w;go_simp;(try with_reducible rfl))
      (try simp only[Act.put,pA1,pA2,pA3]);refine tK 14 ⟨some 40,.fieldAddr 63 (.tmp 39) 0,0,_,JV,none⟩ ?v1013 rfl (.inl ⟨by rfl,?h1013⟩) ?_;case h1013=>(intro w;go_simp;(try with_reducible rfl))
      (try simp only[Act.put,pA1,pA2,pA3]);refine rD [15] (aC ⟨none,.store 61 (.tmp 40) (.tmp 38),0,_,JW,none⟩ rfl (fun K hK=> ?_) aN);go_simp;refine hK _ _ ?_;clear hK K;(try simp only[Act.put,pA1,pA2,pA3]);refine wpAny_done (by kernel_rfl) ?_ _;clear HCALL HADD hbs;obtain⟨WF,hWF⟩:∃W,w8.setCell ⟨D,0,none⟩ (.slice ao (k+1) cap)=W:=⟨_,rfl⟩;rw[hWF] at HK;(try rw[hWF]);clear hWF hrun p2 p3 p4 d1 d2 hDl kb kd;obtain⟨c9,lv9,us9,sv9,t1,t2,t3,t4,t5⟩:=HK.out;obtain⟨⟨r0,r1,r2⟩,g0,g1,g2⟩:=t2.box.cells;obtain⟨ro9,rc9,rfl,hrc9⟩:=t2.row.form;have hul9:=t2.el.1;rw[HN2.out.1] at hul9;obtain⟨m9,hm9⟩:∃m9,xs2.length=m9:=⟨_,rfl⟩;have HM9:=qh hm9;rw[hul9,hm9] at r1 hrc9;have hx29:=HN2.out.2.1;rw[hm9] at hx29;clear t1 t2 t3 t4 t5 hul9 hm9;by_cases hbig:2000<m9
      ·have hbi:(m9:Int)>2000:=(by omega);have hF:Hid (JX L WF (.returned (.tuple #[.pointer none,.int .i64 70]))∧Below w.heap.size w WF):=qh (by
        obtain⟨c9,lv9,us9,sv9,t1,t2,t3,t4,t5⟩:=HK.out;have hle:k+1≤(goL L (k+1)).1.length:=(by rw[HN2.out.1,HM9.out];omega);have hgi:=jc L hle;refine⟨.inr ⟨rfl,(goL L (k+1)).1,hgi.good,fun i j a b hij hi hj e=> ?_,by rw[HN2.out.1,HM9.out];exact hbig⟩,t1.under0 (fun e=>e rfl)⟩;have:=hgi.unlike i j a b hij hi hj;rw[e] at this;exact absurd (show xg b b=true from decide_eq_true rfl) (by rw[this];decide))
       go_wp2_with fail
       go_ret2
       exact hF.out
      ·have hbi:¬(m9:Int)>2000:=(by omega);go_wp2_with fail
       go_roundw
       case rel=>exact⟨k+1,rfl,by go_num,by rw[HN2.out.1,HM9.out];have:=HN2.out.2.2;rw[HM9.out] at this;omega,by rw[HN2.out.1,HM9.out];omega,HK⟩
       case measure=>simp[intOf]<;>omega
     ·skip;go_simp;go_at_call 46;go_fit (HCALL.out _ kd);rintro e w5 ⟨rfl,HJ⟩;obtain⟨d1,hDl,d2,ao,cap,w8,hrun,p2,p3,p4,HK⟩:=HADD.out _ HJ.out;(try dsimp only);refine hK _ _ ?_;clear hK K;(try simp only[Act.put,pA1,pA2,pA3]);refine rD [4,11] (aC ⟨some 30,.load 61 (.tmp 29),61,_,#[⟨3,.data⟩],none⟩ rfl (fun K hK=> ?_) (aC ⟨some 37,.buildSlice 61 1 #[(0,.tmp 36)],61,_,#[⟨10,.data⟩],none⟩ rfl (fun K hK=> ?_) aN))
      ·skip;go_simp;refine hK _ _ ?_;clear hK K;(try simp only[Act.put,pA1,pA2,pA3]);refine rD [11] (aC ⟨some 37,.buildSlice 61 1 #[(0,.tmp 36)],61,_,#[⟨10,.data⟩],none⟩ rfl (fun K hK=> ?_) aN);refine xS has (by rfl) (.tmp 36) (by rfl) (by rfl) ?_;refine hK _ _ ?_;clear hK K;(try simp only[Act.put,pA1,pA2,pA3]);refine rD [12] (aC ⟨some 38,.call ⟨.builtin .append,#[.tmp 30,.tmp 37],#[61,61]⟩,61,_,eA39_0,none⟩ rfl (fun K hK=> ?_) aN);refine zw (by rfl) (.tmp 30) (.tmp 37) 61 (by rfl) (by rfl) (by rfl) hrun ?_;refine hK _ _ ?_;clear hK K;(try simp only[Act.put,pA1,pA2,pA3]);refine tK 13 ⟨some 39,.nilCheck (.tmp 26),0,_,JU,none⟩ ?v1014 rfl (.inl ⟨by rfl,?h1014⟩) ?_;case h1014=>(intro w;go_simp;(try with_reducible rfl))
       (try simp only[Act.put,pA1,pA2,pA3]);refine tK 14 ⟨some 40,.fieldAddr 63 (.tmp 39) 0,0,_,JV,none⟩ ?v1015 rfl (.inl ⟨by rfl,?h1015⟩) ?_;case h1015=>(intro w;go_simp;(try with_reducible rfl))
       (try simp only[Act.put,pA1,pA2,pA3]);refine rD [15] (aC ⟨none,.store 61 (.tmp 40) (.tmp 38),0,_,JW,none⟩ rfl (fun K hK=> ?_) aN);go_simp;refine hK _ _ ?_;clear hK K;(try simp only[Act.put,pA1,pA2,pA3]);refine wpAny_done (by kernel_rfl) ?_ _;clear HCALL HADD hbs;obtain⟨WF,hWF⟩:∃W,w8.setCell ⟨D,0,none⟩ (.slice ao (k+1) cap)=W:=⟨_,rfl⟩;rw[hWF] at HK;(try rw[hWF]);clear hWF hrun p2 p3 p4 d1 d2 hDl kb kd;obtain⟨c9,lv9,us9,sv9,t1,t2,t3,t4,t5⟩:=HK.out;obtain⟨⟨r0,r1,r2⟩,g0,g1,g2⟩:=t2.box.cells;obtain⟨ro9,rc9,rfl,hrc9⟩:=t2.row.form;have hul9:=t2.el.1;rw[HN2.out.1] at hul9;obtain⟨m9,hm9⟩:∃m9,xs2.length=m9:=⟨_,rfl⟩;have HM9:=qh hm9;rw[hul9,hm9] at r1 hrc9;have hx29:=HN2.out.2.1;rw[hm9] at hx29;clear t1 t2 t3 t4 t5 hul9 hm9;by_cases hbig:2000<m9
       ·have hbi:(m9:Int)>2000:=(by omega);have hF:Hid (JX L WF (.returned (.tuple #[.pointer none,.int .i64 70]))∧Below w.heap.size w WF):=qh (by
         obtain⟨c9,lv9,us9,sv9,t1,t2,t3,t4,t5⟩:=HK.out;have hle:k+1≤(goL L (k+1)).1.length:=(by rw[HN2.out.1,HM9.out];omega);have hgi:=jc L hle;refine⟨.inr ⟨rfl,(goL L (k+1)).1,hgi.good,fun i j a b hij hi hj e=> ?_,by rw[HN2.out.1,HM9.out];exact hbig⟩,t1.under0 (fun e=>e rfl)⟩;have:=hgi.unlike i j a b hij hi hj;rw[e] at this;exact absurd (show xg b b=true from decide_eq_true rfl) (by rw[this];decide))
        go_wp2_with fail
        go_ret2
        exact hF.out
       ·have hbi:¬(m9:Int)>2000:=(by omega);go_wp2_with fail
        go_roundw
        case rel=>exact⟨k+1,rfl,by go_num,by rw[HN2.out.1,HM9.out];have:=HN2.out.2.2;rw[HM9.out] at this;omega,by rw[HN2.out.1,HM9.out];omega,HK⟩
        case measure=>simp[intOf]<;>omega
      ·skip;refine xS has (by rfl) (.tmp 36) (by rfl) (by rfl) ?_;refine hK _ _ ?_;clear hK K;(try simp only[Act.put,pA1,pA2,pA3]);refine rD [4] (aC ⟨some 30,.load 61 (.tmp 29),61,_,#[⟨3,.data⟩],none⟩ rfl (fun K hK=> ?_) aN);go_simp;refine hK _ _ ?_;clear hK K;(try simp only[Act.put,pA1,pA2,pA3]);refine rD [12] (aC ⟨some 38,.call ⟨.builtin .append,#[.tmp 30,.tmp 37],#[61,61]⟩,61,_,eA39_0,none⟩ rfl (fun K hK=> ?_) aN);refine zw (by rfl) (.tmp 30) (.tmp 37) 61 (by rfl) (by rfl) (by rfl) hrun ?_;refine hK _ _ ?_;clear hK K;(try simp only[Act.put,pA1,pA2,pA3]);refine tK 13 ⟨some 39,.nilCheck (.tmp 26),0,_,JU,none⟩ ?v1016 rfl (.inl ⟨by rfl,?h1016⟩) ?_;case h1016=>(intro w;go_simp;(try with_reducible rfl))
       (try simp only[Act.put,pA1,pA2,pA3]);refine tK 14 ⟨some 40,.fieldAddr 63 (.tmp 39) 0,0,_,JV,none⟩ ?v1017 rfl (.inl ⟨by rfl,?h1017⟩) ?_;case h1017=>(intro w;go_simp;(try with_reducible rfl))
       (try simp only[Act.put,pA1,pA2,pA3]);refine rD [15] (aC ⟨none,.store 61 (.tmp 40) (.tmp 38),0,_,JW,none⟩ rfl (fun K hK=> ?_) aN);go_simp;refine hK _ _ ?_;clear hK K;(try simp only[Act.put,pA1,pA2,pA3]);refine wpAny_done (by kernel_rfl) ?_ _;clear HCALL HADD hbs;obtain⟨WF,hWF⟩:∃W,w8.setCell ⟨D,0,none⟩ (.slice ao (k+1) cap)=W:=⟨_,rfl⟩;rw[hWF] at HK;(try rw[hWF]);clear hWF hrun p2 p3 p4 d1 d2 hDl kb kd;obtain⟨c9,lv9,us9,sv9,t1,t2,t3,t4,t5⟩:=HK.out;obtain⟨⟨r0,r1,r2⟩,g0,g1,g2⟩:=t2.box.cells;obtain⟨ro9,rc9,rfl,hrc9⟩:=t2.row.form;have hul9:=t2.el.1;rw[HN2.out.1] at hul9;obtain⟨m9,hm9⟩:∃m9,xs2.length=m9:=⟨_,rfl⟩;have HM9:=qh hm9;rw[hul9,hm9] at r1 hrc9;have hx29:=HN2.out.2.1;rw[hm9] at hx29;clear t1 t2 t3 t4 t5 hul9 hm9;by_cases hbig:2000<m9
       ·have hbi:(m9:Int)>2000:=(by omega);have hF:Hid (JX L WF (.returned (.tuple #[.pointer none,.int .i64 70]))∧Below w.heap.size w WF):=qh (by
         obtain⟨c9,lv9,us9,sv9,t1,t2,t3,t4,t5⟩:=HK.out;have hle:k+1≤(goL L (k+1)).1.length:=(by rw[HN2.out.1,HM9.out];omega);have hgi:=jc L hle;refine⟨.inr ⟨rfl,(goL L (k+1)).1,hgi.good,fun i j a b hij hi hj e=> ?_,by rw[HN2.out.1,HM9.out];exact hbig⟩,t1.under0 (fun e=>e rfl)⟩;have:=hgi.unlike i j a b hij hi hj;rw[e] at this;exact absurd (show xg b b=true from decide_eq_true rfl) (by rw[this];decide))
        go_wp2_with fail
        go_ret2
        exact hF.out
       ·have hbi:¬(m9:Int)>2000:=(by omega);go_wp2_with fail
        go_roundw
        case rel=>exact⟨k+1,rfl,by go_num,by rw[HN2.out.1,HM9.out];have:=HN2.out.2.2;rw[HM9.out] at this;omega,by rw[HN2.out.1,HM9.out];omega,HK⟩
        case measure=>simp[intOf]<;>omega
  ·have hkk:(goL L k).1.length=k:=(by omega);have hF:Hid (JX L wr (.returned (.tuple #[.pointer (some ⟨D,0,none⟩),.int .i64 0]))∧Below w.heap.size w wr):=qh (by
    refine⟨.inl ⟨_,k,rfl,⟨?_,(tabL_says hkk).1,zBI hE hkk⟩,hkk⟩,x1.under0 (fun e=>e rfl)⟩;have h1:=x3.read (by rw[jK hk];omega) (fun s hs=>by
     have hok:=(tabL_says (L:=L) hkk).1;have e:=VL hkk;have hs1:s.1∈(Z4 L k).next:=(by rw[←e];exact List.mem_map.2 ⟨s,hs,rfl⟩);have hs2:s.2∈(Z4 L k).rule:=(by rw[←e];exact List.mem_map.2 ⟨s,hs,rfl⟩);exact⟨fun x hx=>(hok.into _ hs1 x hx).1,hok.low _ hs2⟩)
    rw[VL hkk] at h1;exact h1)
   have hub:us.length=k:=(by omega);rw[hub] at hlc b1;clear x1 x2 x3 x4 x5 HX;go_wp2_with fail
   go_ret2
   exact hF.out
end
theorem Tryz.sizeRowD:(Tryz.prog.info? 90).map (·.size)=some 256:=by kernel_rfl
theorem Tryz.rowD:Tryz.prog.underlying 90=some (.array 256 3):=by kernel_rfl
theorem VM {ra:Array Value} {b:Nat} {x:Value} (hb:b<256) (h:ra[b]? =some x) (W:World):(Instr.index 90 (.agg ra) (.int .i64 (b:Int))).run Tryz.prog W= .ok x W:=by
 obtain⟨i,hi,_,hs,_⟩:=xJ Tryz.infoIntN;have hag:∀W,(isAgg 3).run Tryz.prog W= .ok false W:=fun _=>by kernel_rfl
 simp[Instr.index,asIntOf,run_underlying Tryz.rowD,part,hag,sizeOf,typeInfo,hi,hs,h,hb]
theorem sta_row {r:List Int} (ru:Int):∀(j:Nat) x,(r.map (Value.int .i64))[j]? =some x→(staD (r,ru))[j]? =some x:=fun j x h=>by
 have hj:=(List.getElem?_eq_some_iff.1 h).1;unfold staD;rw[List.getElem?_append_left hj];exact h
end Go.Proofs.YtjeomlickkpebaaGreatDoor
