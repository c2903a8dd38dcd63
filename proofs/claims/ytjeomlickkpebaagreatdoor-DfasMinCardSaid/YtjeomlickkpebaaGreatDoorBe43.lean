/-
  Texts of this proof, one behind the other; each begins with its own remark.
-/
import Derived.Test.YtjeomlickkpebaaGreatDoorBe40
import Derived.Test.YtjeomlickkpebaaGreatDoorBe42
namespace Go.Proofs.YtjeomlickkpebaaGreatDoor
open Go.RowKit
abbrev eA43_0:Array Edge:=#[⟨2,.data⟩]
abbrev XU:Array Edge:=#[⟨3,.data⟩,⟨7,.data⟩]
abbrev kJ:Array Edge:=#[⟨8,.data⟩]
abbrev kK:Array Edge:=#[⟨10,.data⟩,⟨9,.data⟩,⟨0,.phase⟩,⟨1,.phase⟩,⟨2,.phase⟩,⟨3,.phase⟩,⟨4,.phase⟩,⟨5,.phase⟩,⟨6,.phase⟩,⟨7,.phase⟩,⟨8,.phase⟩,⟨9,.phase⟩,⟨10,.phase⟩]
abbrev zCC:Array Edge:=#[⟨0,.data⟩,⟨0,.phase⟩,⟨1,.phase⟩,⟨2,.phase⟩,⟨3,.phase⟩,⟨4,.phase⟩,⟨5,.phase⟩,⟨6,.phase⟩,⟨7,.phase⟩]
abbrev zCD:Array Edge:=#[⟨8,.data⟩,⟨0,.phase⟩,⟨1,.phase⟩,⟨2,.phase⟩,⟨3,.phase⟩,⟨4,.phase⟩,⟨5,.phase⟩,⟨6,.phase⟩,⟨7,.phase⟩]
abbrev zCE:Array Edge:=#[⟨9,.data⟩,⟨7,.data⟩,⟨7,.chain⟩,⟨0,.phase⟩,⟨1,.phase⟩,⟨2,.phase⟩,⟨3,.phase⟩,⟨4,.phase⟩,⟨5,.phase⟩,⟨6,.phase⟩,⟨7,.phase⟩]
def zCF (row r:List Int) (ru:Int):List Value:=staD (row++r.drop row.length,ru)
theorem zEX {row r:List Int} {ru:Int} (hr:r.length=256) (hl:row.length≤256):(zCF row r ru).length=257:=by
 unfold zCF;exact qC (by rw[List.length_append,List.length_drop,hr];omega)
theorem zEY {row r:List Int} {ru:Int} (hr:r.length=256) (hl:row.length<256) (a:Int):(zCF row r ru).set row.length (.int .i64 a)=zCF (row++ [a]) r ru:=by
 unfold zCF staD;have h1:r.drop row.length=r[row.length]::r.drop (row.length+1):=List.drop_eq_getElem_cons (by omega);rw[h1,List.set_append_left _ _ (by rw[List.length_map,List.length_append,List.length_cons];omega)];rw[List.map_append,List.map_cons,List.set_append_right _ _ (by rw[List.length_map];exact Nat.le_refl _),List.length_map,Nat.sub_self,List.set_cons_zero];rw[List.length_append,List.length_singleton];simp
theorem zEZ (r:List Int) (ru:Int):zCF [] r ru=staD (r,ru):=rfl
theorem zF0 {row r:List Int} {ru:Int} (hr:r.length=256) (hl:row.length=256):zCF row r ru=staD (row,ru):=by
 unfold zCF;rw[List.drop_eq_nil_of_le (by omega),List.append_nil]
structure MgW (w0:World) (c:Col) (w:World) (O NB D n:Nat) (mv sv:Value) (ob:Nat→Nat) (xs:List Nat) (nu:Nat→Int) (q:List (List Int×Int)):Prop where
 s0:StepC (fun a=>a≠0) (fun _=>0) c w0 w
 of:ArrF w O (n+1) (jL ob)
 cO:c O=0
 nr:ArrF w NB (n+1) nu
 cN:c NB=5
 met:RowC c 1 3 w mv (xK (kQ xs))
 df:DfC c w D sv q
section
variable {Q:Nat→Prop} {c c':Col} {w0 w w':World} {O NB D n:Nat} {mv sv:Value} {ob:Nat→Nat} {xs:List Nat} {nu:Nat→Int} {q:List (List Int×Int)}
theorem MgW.step (h:MgW w0 c w O NB D n mv sv ob xs nu q) (hs:StepC Q c c' w w') (hQ:∀a,Q a→a=3):MgW w0 c' w' O NB D n mv sv ob xs nu q:=
 ⟨h.s0.trans (hs.mono fun a e=>by rw[hQ a e];decide),h.of.keep hs.keep (by rw[h.cO];exact fun e=>absurd (hQ 0 e) (by decide)),by rw[hs.same _ h.of.lt];exact h.cO,h.nr.keep hs.keep (by rw[h.cN];exact fun e=>absurd (hQ 5 e) (by decide)),by rw[hs.same _ h.nr.lt];exact h.cN,h.met.step hs (fun e=>absurd (hQ 1 e) (by decide)),h.df.step hs (fun e=>absurd (hQ 2 e) (by decide))⟩
theorem MgW.under (h:MgW w0 c w O NB D n mv sv ob xs nu q) (hb:Below w.heap.size w w'):MgW w0 c w' O NB D n mv sv ob xs nu q:=h.step (Q:=fun _=>False) (StepC.below h.s0.fresh hb) fun _ e=>e.elim
theorem MgW.below (h:MgW w0 c w O NB D n mv sv ob xs nu q):Below w0.heap.size w0 w:=h.s0.under0 fun e=>e rfl
theorem MgW.num (h:MgW w0 c w O NB D n mv sv ob xs nu q) (i:Nat) (a:Int):StepC (fun a=>a=5) c c w (w.setCell ⟨NB,i,none⟩ (.int .i64 a))∧MgW w0 c (w.setCell ⟨NB,i,none⟩ (.int .i64 a)) O NB D n mv sv ob xs (fun j=>if j=i then a else nu j) q:=by
 have s:StepC (fun a=>a=5) c c w (w.setCell ⟨NB,i,none⟩ (.int .i64 a)):=by
  have:=zd (B:=NB) (i:=i) (y:= .int .i64 a) h.s0.fresh
  rwa [h.cN] at this
 exact⟨s,h.s0.trans (s.mono fun a e=>by rw[e];decide),h.of.keep s.keep (by rw[h.cO];decide),h.cO,h.nr.set i a,h.cN,h.met.step s (by decide),h.df.step s (by decide)⟩
theorem MgW.more (h:MgW w0 c w O NB D n mv sv ob xs nu q) (t:Nat) (hl:xs.length≤100000):
  ∃ao cap w' c',(Builtin.append_ #[39,39] 39 #[mv,.slice (some ⟨w.heap.size,0,none⟩) 1 1]).run Tryz.prog (w.alloc (.cells #[.int .i64 (t:Int)] 3))= .ok (.slice ao (xs.length+1) cap) w'∧StepC (fun a=>a=1) c c' w w'∧MgW w0 c' w' O NB D n (.slice ao (xs.length+1) cap) sv ob (xs++ [t]) nu q:=by
 have hlen:(xK (kQ xs)).length=xs.length:=by rw[zP,xt]
 obtain⟨ao,cap,w',c',hr,h2,hs⟩:=h.met.pushA (z:= .int .i64 0) (b:=8) (u:= .int .i64 (t:Int)) h.s0.fresh 39 39 Tryz.underlying39 Tryz.infoIntN rfl (by decide) rfl (by rw[hlen];exact hl);rw[hlen] at hr h2;rw[←vI] at h2;exact⟨ao,cap,w',c',hr,hs,h.s0.trans (hs.mono fun a e=>by rw[e];decide),h.of.keep hs.keep (by rw[h.cO];decide),by rw[hs.same _ h.of.lt];exact h.cO,h.nr.keep hs.keep (by rw[h.cN];decide),by rw[hs.same _ h.nr.lt];exact h.cN,h2,h.df.step hs (by decide)⟩
theorem MgW.at_ (h:MgW w0 c w O NB D n mv sv ob xs nu q) {i x:Nat} (hx:xs[i]? =some x):∃g o cap,mv= .slice (some ⟨g,o,none⟩) xs.length cap∧xs.length≤cap∧w.cell? ⟨g,o+i,none⟩=some (.int .i64 (x:Int)):=by
 obtain⟨ao,cap,hv,hn,hc⟩:=h.met.rowZ;rw[zP,xt] at hv hn;obtain⟨g,o,rfl,_,hg⟩:=hc i _ (ZO (ZZ hx));exact⟨g,o,cap,hv,hn,hg⟩
theorem MgW.form (h:MgW w0 c w O NB D n mv sv ob xs nu q):∃ao cap,mv= .slice ao xs.length cap∧xs.length≤cap:=by
 obtain⟨ao,cap,hv,hn⟩:=h.met.form;rw[zP,xt] at hv hn;exact⟨ao,cap,hv,hn⟩
end
def MgS (w0 w:World) (S O NB D n:Nat) (mv sv:Value) (ob:Nat→Nat) (xs:List Nat) (nu:Nat→Int) (q:List (List Int×Int)) (row r:List Int) (ru:Int):Prop:=
 ∃c,MgW w0 c w O NB D n mv sv ob xs nu q∧jq w S (zCF row r ru)∧c S=3
section
variable {w0 w:World} {S O NB D n:Nat} {mv sv:Value} {ob:Nat→Nat} {xs:List Nat} {nu:Nat→Int} {q:List (List Int×Int)} {row r:List Int} {ru:Int}
theorem MgS.entry (h:MgS w0 w S O NB D n mv sv ob xs nu q row r ru) (hr:r.length=256) (hl:row.length<256) (a:Int):MgS w0 (w.setCell ⟨S,row.length,none⟩ (.int .i64 a)) S O NB D n mv sv ob xs nu q (row++ [a]) r ru:=by
 obtain⟨c,h1,h2,h3⟩:=h;have s:StepC (fun a=>a=3) c c w (w.setCell ⟨S,row.length,none⟩ (.int .i64 a)):=by
  have:=zd (B:=S) (i:=row.length) (y:= .int .i64 a) h1.s0.fresh
  rwa [h3] at this
 refine⟨c,h1.step s fun _ e=>e,?_,h3⟩;rw[←zEY hr hl];exact h2.set row.length (.int .i64 a)
theorem MgS.num (h:MgS w0 w S O NB D n mv sv ob xs nu q row r ru) (i:Nat) (a:Int):MgS w0 (w.setCell ⟨NB,i,none⟩ (.int .i64 a)) S O NB D n mv sv ob xs (fun j=>if j=i then a else nu j) q row r ru:=by
 obtain⟨c,h1,h2,h3⟩:=h;obtain⟨s,h4⟩:=h1.num i a;exact⟨c,h4,h2.keep s.keep (by rw[h3];decide),h3⟩
theorem MgS.more (h:MgS w0 w S O NB D n mv sv ob xs nu q row r ru) (t:Nat) (hl:xs.length≤100000):
  ∃ao cap w',(Builtin.append_ #[39,39] 39 #[mv,.slice (some ⟨w.heap.size,0,none⟩) 1 1]).run Tryz.prog (w.alloc (.cells #[.int .i64 (t:Int)] 3))= .ok (.slice ao (xs.length+1) cap) w'∧MgS w0 w' S O NB D n (.slice ao (xs.length+1) cap) sv ob (xs++ [t]) nu q row r ru:=by
 obtain⟨c,h1,h2,h3⟩:=h;obtain⟨ao,cap,w',c',hr,s,h4⟩:=h1.more t hl;exact⟨ao,cap,w',hr,c',h4,h2.keep s.keep (by rw[h3];decide),by rw[s.same _ h2.lt];exact h3⟩
theorem MgS.drew (h:MgS w0 w S O NB D n mv sv ob xs nu q row r ru) (m:Nat):MgS w0 (w.drewN m) S O NB D n mv sv ob xs nu q row r ru:=by
 obtain⟨c,h1,h2,h3⟩:=h;have hb:=below_drewN w m;exact⟨c,h1.under hb,h2.keep (keep_below (fun _=>True) hb) trivial,h3⟩
end
end Go.Proofs.YtjeomlickkpebaaGreatDoor
set_option linter.unusedSimpArgs false
namespace Go.Proofs.YtjeomlickkpebaaGreatDoor
open Go.RowKit
theorem zX {w:World} {ops:Array Oper} {o:Oper} {a:Act} {K:Act→World→Prop} {Q:Exit→Act→World→Prop} {E:Prop} (hgd:o.guard=none) (ty:TypeId) (x:Operand) (ho:o.op= .load ty x)
  (b off:Nat) (hx:a.eval x= .pointer (some ⟨b,off,none⟩)) (cs:List Value) (hc:w.rangeAt b off cs) (hu:Tryz.prog.underlying ty=Tryz.prog.underlying 92) (hi:(Tryz.prog.info? ty).map (·.size)=some cs.length)
  (h:K (a.put o.dst (.agg cs.toArray)) w):if Region.wanted o (yielded ops a.tmps)=true then Oper.wp Tryz.prog o a w K Q else E:=by
 have hw:Region.wanted o (yielded ops a.tmps)=true:=by simp[Region.wanted,hgd]
 rw[if_pos hw];exact wp_load_mid ty x ho b off hx cs _ hc (hu.trans Tryz.underlying92) rfl hi h
def MgO (w0 w:World) (O NB D n:Nat) (d:Dfa) (ob:Nat→Nat) (mv:Value) (k m:Nat):Prop:=
 ∃c sv xs rows nu q,MgW w0 c w O NB D n mv sv ob xs nu q∧KT ob xs nu∧GoI (toN d) (qz d (mtA ob)) (xT (mtA ob)) (fun i=>i<d.n) (QM d) 0 k xs rows∧q.map (·.1)=rows∧q.map (·.2)=(xs.take k).map (ruN d)∧xs.length=m
def MgI (w0 w:World) (S O NB D n:Nat) (d:Dfa) (ob:Nat→Nat) (mv sv:Value) (x:Nat) (xs0:List Nat) (q:List (List Int×Int)) (r:List Int) (ru:Int) (b m:Nat):Prop:=
 ∃nu,MgS w0 w S O NB D n mv sv ob (ye d ob x xs0 b).1 nu q (ye d ob x xs0 b).2 r ru∧KT ob (ye d ob x xs0 b).1 nu∧(ye d ob x xs0 b).1.length=m
def zJ7 (w w':World) (d:Dfa) (e:Ending):Prop:=
 ∃D M,e= .returned (.pointer (some ⟨D,0,none⟩))∧DfW w' (.pointer (some ⟨D,0,none⟩)) M∧IsMin (d.says 0) M∧Below w.heap.size w w'
theorem zF1 {w w2:World} {O NB n:Nat} {ob:Nat→Nat} (hb:Below w.heap.size w w2) (hNB:w.heap.size≤NB) (hnr:ArrF w2 NB (n+1) (fun _=> -1)) (ho:ArrF w O (n+1) (jL ob)) {W:World}
  (hW:W=((w2.setCell ⟨NB,ob 0,none⟩ (.int .i64 0)).alloc (.cells #[.slice none 0 0] 63)).alloc (.cells #[.int .i64 0] 3)):
  ∃c,MgW w c W O NB w2.heap.size n (.slice (some ⟨w2.heap.size+1,0,none⟩) 1 1) (.slice none 0 0) ob [0] (fun j=>if j=ob 0 then 0 else -1) []:=by
 subst hW;obtain⟨c0,hc0⟩:∃c0:Col,c0=fun k=>if k=NB then 5 else 0:=⟨_,rfl⟩;have cN:c0 NB=5:=by rw[hc0];exact if_pos rfl
 have cold:∀k,k<w.heap.size→c0 k=0:=fun k hk=>by rw[hc0];exact if_neg (by omega)
 have hsz:=hb.size;have hOl:=ho.lt;have hNl:=hnr.lt;have s0:StepC (fun a=>a≠0) (fun _=>0) c0 w w2:=⟨keep_below _ hb,cold,fun k hk=>by rw[hc0];exact if_neg (by omega)⟩;have s1:StepC (fun a=>a=5) c0 c0 w2 (w2.setCell ⟨NB,ob 0,none⟩ (.int .i64 0)):=by
  have:=zd (B:=NB) (i:=ob 0) (y:= .int .i64 0) s0.fresh
  rwa [cN] at this
 have n1:=hnr.set (ob 0) 0;have z1:(w2.setCell ⟨NB,ob 0,none⟩ (.int .i64 0)).heap.size=w2.heap.size:=by show (w2.heap.modify _ _).size=_;rw[Array.size_modify]
 have o1:ArrF (w2.setCell ⟨NB,ob 0,none⟩ (.int .i64 0)) O (n+1) (jL ob):=(ho.keep (keep_below (fun _=>True) hb) trivial).keep s1.keep (by rw[cold O hOl];decide);obtain⟨W1,hW1⟩:∃W1,w2.setCell ⟨NB,ob 0,none⟩ (.int .i64 0)=W1:=⟨_,rfl⟩;rw[hW1] at s1 n1 z1 o1 ⊢;have s2:=StepC.colAt (S:=fun a=>a≠0) (A:=2) s1.fresh (.cells #[.slice none 0 0] 63);have b2:=zA W1 (.cells #[.slice none 0 0] 63);have z2:=zC W1 (.cells #[.slice none 0 0] 63);have h2:=heap_alloc_new W1 (.cells #[.slice none 0 0] 63);rw[z1] at s2 z2 h2;obtain⟨W2,hW2⟩:∃W2,W1.alloc (.cells #[.slice none 0 0] 63)=W2:=⟨_,rfl⟩;rw[hW2] at s2 b2 z2 h2 ⊢;have s3:=StepC.colAt (S:=fun a=>a≠0) (A:=1) s2.fresh (.cells #[.int .i64 0] 3);have b3:=zA W2 (.cells #[.int .i64 0] 3);have k3:=keep_below (fun _=>True) b3;have k2:=keep_below (fun _=>True) b2;have hm:=RowC.one (c:=colAt c0 2 w2.heap.size) (A:=1) (T:=3) (w:=W2) (u:= .int .i64 0);rw[z2] at s3 hm;have e0:∀k,k<w2.heap.size→colAt (colAt c0 2 w2.heap.size) 1 (w2.heap.size+1) k=c0 k:=fun k hk=>by rw[x9 (by omega),x9 hk]
 refine⟨_,((s0.trans (s1.mono fun a e=>by rw[e];decide)).trans s2).trans s3,(o1.keep k2 trivial).keep k3 trivial,by rw[e0 O (by omega)];exact cold O hOl,?_,by rw[e0 NB (by omega)];exact cN,hm,?_⟩
 ·exact (n1.keep k2 trivial).keep k3 trivial
 ·refine⟨(k3.same _ (by omega) trivial).trans h2,?_,World.ownsRow_nil _ _ _ _,(fun k e=>by cases e),(fun e=>by cases e),fun s hs=>by cases hs⟩;rw[x9 (by omega)];exact if_pos rfl
theorem zCG {w:World} {ce zD:List Value} (hz:zx=zD) (hl:ce.length=257) (h1:∀x,x∈ce→x.oneCell'=true):
  ∃W1 W2,w.alloc (.cells zD.toArray 92)=W1∧Below w.heap.size w W1∧(storeCells ⟨w.heap.size,0,none⟩ ce 0).run Tryz.prog W1.drew= .ok () W2∧jq W2 w.heap.size ce∧Below w.heap.size w W2:=by
 subst hz;have hb:=zA w (.cells zx.toArray 92);have hn:jq (w.alloc (.cells zx.toArray 92)).drew w.heap.size zx:=jq.new w zx;obtain⟨a1,a2,a3⟩:=hn.store (ds:=ce) qG hl h1;exact⟨_,_,rfl,hb,a1,a2,KeepW.below hb.drew a3 hb.size (fun k hk e=>by omega)⟩
set_option maxRecDepth 8000 in
set_option maxHeartbeats 16000000 in
theorem YZ {w:World} {v:Value} {d:Dfa} {O:Nat} {ob:Nat→Nat} (h0:DfW w v d) (ho:ArrF w O (d.n+1) (jL ob)) (hA:zCU d (mtA ob)) (hlt:∀y,y<d.n+1→ob y<d.n+1):
  Calls Tryz.prog 35 #[v,.slice (some ⟨O,0,none⟩) (d.n+1) (d.n+1),.int .i64 (d.n:Int)] w fun e w'=>zJ7 w w' d e:=by
 have h:=h0.1;have hd:=h0.ok;have HHI:=qh (fun q=>h0.high q);have hp:=hd.pos;obtain⟨DB,dg,dof,dcap,rfl,d0,hdc,hall⟩:=h.all hp;have hfew:=h.few;have HD:=qh hd;have HALL:=qh hall;have HTO:=qh (fun q b=>hd.to_in q b);have HOB:=qh ho;have HMA:=qh hA;have HLT:=qh hlt;obtain⟨n,hn⟩:∃n,d.n=n:=⟨_,rfl⟩;have HN:=qh hn;rw[hn] at d0 hdc hfew hp HALL HTO HOB HLT ⊢;have nb:(n:Int)≤2000:=by omega
 have n0:(0:Int)≤(n:Int):=by omega
 have hz:=Tryz.zeroStD;obtain⟨zD,hzD⟩:∃z,zx=z:=⟨_,rfl⟩;rw[hzD] at hz;have HZD:=qh hzD;have HD0:=qh d0;have b1:=zA w (.cells #[.int .i64 (-1)] 3);have HR:=qh (Y6 (w:=w.alloc (.cells #[.int .i64 (-1)] 3)) (XB:=w.heap.size) (n:=n+1) (by rw[cell_of_row _ _ 0 _ _ (0,0) (heap_alloc_new w _)];rfl) (by omega) (by omega));have e1:(((n+1:Nat):Int))=(n:Int)+1:=by omega
 have HB1:=qh b1;clear h h0 hd ho hA hlt hall hn hzD b1 d0;go_enter Tryz.func35,Tryz.ntmps35;go_wp2_with fail
 go_fit HR.out;rintro e w2 ⟨NB,rfl,hNB,hNR,hb⟩;have hsz1:=zC w (.cells #[.int .i64 (-1)] 3);have hb2:Below w.heap.size w w2:=HB1.out.trans (hb.mono (by omega));have hnl:=hNR.lt;obtain⟨cst,hST⟩:=zF1 hb2 (by omega) hNR HOB.out rfl;have hj0:=HLT.out 0 (by omega);have o1:=(HOB.out.keep (keep_below (fun _=>True) hb2) trivial).cell (i:=0) (by omega);have n1:=hNR.cell hj0;have n2:=hNR.frozen (ob 0);obtain⟨j0,hj⟩:∃j,ob 0=j:=⟨_,rfl⟩;have ej:jL ob 0=(j0:Int):=by unfold jL;rw[hj]
 rw[ej] at o1;have HJ:=qh hj;rw[hj] at hST n1 n2 hj0;obtain⟨D,hDD⟩:∃D,w2.heap.size=D:=⟨_,rfl⟩;obtain⟨W5,hW5⟩:∃W5,((w2.setCell ⟨NB,j0,none⟩ (.int .i64 0)).alloc (.cells #[.slice none 0 0] 63)).alloc (.cells #[.int .i64 0] 3)=W5:=⟨_,rfl⟩;rw[hW5,hDD] at hST;have H0:Hid (MgO w W5 O NB D n d ob (.slice (some ⟨D+1,0,none⟩) 1 1) 0 1):=qh ⟨cst,_,[0],[],_,[],hST,by have:=KT.start ob;rwa [HJ.out] at this,kU 0 HD.out.pos,rfl,rfl,rfl⟩;have jb:(j0:Int)<(n:Int)+1:=by omega
 clear hb2 hb hNR hST hj ej HR hNB hsz1;go_wp2_with fail
 (try rw[hDD]);(try rw[hW5]);clear o1 n1 n2 hj0 jb hnl hDD hW5;go_loopw [9,10] (fun s9 s10 wr=>∃k m:Nat,s10= .int .i64 (k:Int)∧k≤m∧m≤n∧Hid (MgO w wr O NB D n d ob s9 k m)) (fun _ s10 _=>n-(intOf s10).toNat)
 case atStart=>exact⟨0,1,rfl,Nat.zero_le _,by omega,H0⟩
 case round=>
  clear H0;obtain⟨k,m,rfl,hk,hm,HX⟩:=hrel;obtain⟨c,sv,xs,rows,nu,q,x1,x2,x3,x4,x5,x6⟩:=HX.out;have k0:(0:Int)≤(k:Int):=by omega
  by_cases hlk:k<m
  ·have hli:(k:Int)<(m:Int):=(by omega);obtain⟨x,hx⟩:∃x,xs[k]? =some x:=⟨_,List.getElem?_eq_getElem (by omega)⟩;have hxn:x<n:=(by have:=x3.good x (List.mem_of_getElem? hx);rw[←HN.out];exact this);obtain⟨mg,mo,mcap,hmv,hmc,hmx⟩:=x1.at_ hx;rw[x6] at hmv hmc;subst hmv;have hml:=x6;obtain⟨r,hr,hto,hrg⟩:=HALL.out x hxn;have kB:=keep_below (fun _=>True) x1.below;have d0:=kB.cell HD0.out trivial;obtain⟨ce,hce⟩:∃ce,staD (r,d.acc (x:Int))=ce:=⟨_,rfl⟩;have hcl:ce.length=257:=(by rw[←hce];exact qC hr);have hld:wr.rangeAt dg (dof+x*257) ce:=fun j y hy=>kB.cell (hrg j y (by rw[hce];exact hy)) trivial;obtain⟨W1,W2,hW1,hbA,hst,hbk,hbW⟩:=zCG (w:=wr) HZD.out hcl (by rw[←hce];exact QK);have kA:=keep_below (fun _=>True) hbA;have d0A:=kA.cell d0 trivial;have hmxA:=kA.cell hmx trivial;have hldA:W1.rangeAt dg (dof+x*257) ce:=fun j y hy=>kA.cell (hld j y hy) trivial;obtain⟨ac,haq⟩:∃ac,d.acc (x:Int)=ac:=⟨_,rfl⟩;rw[haq] at hce;have hS2:Hid (MgI w W2 wr.heap.size O NB D n d ob (.slice (some ⟨mg,mo,none⟩) m mcap) sv x xs q r ac 0 m):=qh ⟨nu,(by
    have s:StepC (fun a=>a=3) c (fun j=>if j=wr.heap.size then 3 else c j) wr W2:=⟨keep_below _ hbW,fun j hj=>if_neg (by omega),fun j hj=>by
     have h2:=hbk.lt;show (if j=wr.heap.size then 3 else c j)=0;rw[if_neg (by omega)];exact x1.s0.fresh j (Nat.le_trans hbW.size hj)⟩
    refine⟨fun j=>if j=wr.heap.size then 3 else c j,x1.step s (fun _ e=>e),?_,if_pos rfl⟩;show jq W2 wr.heap.size (zCF [] r ac);rw[zEZ,hce];exact hbk),x2,x6⟩
   have hrr:W2.rangeAt wr.heap.size 0 (r.map (Value.int .i64)):=fun j y hy=>by
    rw[Nat.zero_add];exact hbk.cell (by rw[←hce];exact sta_row _ j y hy)
   obtain⟨ra,hra⟩:∃ra,r.map (Value.int .i64)=ra:=⟨_,rfl⟩;have HRA:Hid (∀b:Nat,b<256→ra.toArray[b]? =some (.int .i64 (d.to (x:Int) b))):=qh fun b hb=>by
    rw[←hra,List.getElem?_toArray,List.getElem?_map,hto b hb];rfl
   have hral:ra.length=256:=(by rw[←hra,List.length_map];exact hr);rw[hra] at hrr;have hsr:(Tryz.prog.info? 90).map (·.size)=some ra.length:=(by rw[hral];exact Tryz.sizeRowD);have hsz:(Tryz.prog.info? 92).map (·.size)=some ce.length:=(by rw[hcl];exact Tryz.sizeStD);have HX9:=qh (And.intro x3 (And.intro x4 (And.intro x5 (And.intro hr (And.intro haq hx)))));have HLN:=qh hml;have mb:(m:Int)≤2000:=(by omega);have xb:(x:Int)<(n:Int):=(by omega);have x0:(0:Int)≤(x:Int):=(by omega);have HRS:=qh (And.intro hrr (And.intro hral hsr));have HS3:=qh hbk.lt;clear x1 x2 x3 x4 x5 x6 HX hx hrg kB hce hbA hbk hbW kA haq hto hr hra hral hrr hsr hml;go_wp2_with fail
   go_cut [11] from 32 to 104 (fun s11 W=>s11= .pointer (some ⟨wr.heap.size,0,none⟩)∧Hid (W=W2))
   case first=>
    refine wp_region_any (by kernel_rfl) ?_;(try (change wpAny _ _ _ _ _ _ _ (World.drew _)));refine tK 0 ⟨some 32,.move (.tmp 0),30,_,#[],none⟩ ?v1000 rfl (.inl ⟨by rfl,?h1000⟩) ?_;case h1000=>(intro w;go_simp;(try with_reducible rfl))
    (try simp only[Act.put,pA1,pA2,pA3]);refine tK 1 ⟨some 33,.nilCheck (.tmp 32),0,_,#[⟨0,.data⟩],none⟩ ?v1001 rfl (.inl ⟨by rfl,?h1001⟩) ?_;case h1001=>(intro w;go_simp;(try with_reducible rfl))
    (try simp only[Act.put,pA1,pA2,pA3]);refine tK 2 ⟨some 34,.fieldAddr 63 (.tmp 33) 0,0,_,#[⟨1,.data⟩],none⟩ ?v1002 rfl (.inl ⟨by rfl,?h1002⟩) ?_;case h1002=>(intro w;go_simp;(try with_reducible rfl))
    (try simp only[Act.put,pA1,pA2,pA3]);refine tK 4 ⟨some 36,.move (.tmp 9),39,_,#[],none⟩ ?v1003 rfl (.inl ⟨by rfl,?h1003⟩) ?_;case h1003=>(intro w;go_simp;(try with_reducible rfl))
    (try simp only[Act.put,pA1,pA2,pA3]);refine tK 5 ⟨some 37,.move (.tmp 10),3,_,#[],none⟩ ?v1004 rfl (.inl ⟨by rfl,?h1004⟩) ?_;case h1004=>(intro w;go_simp;(try with_reducible rfl))
    (try simp only[Act.put,pA1,pA2,pA3]);refine tK 6 ⟨some 38,.indexAddr 39 (.tmp 36) (.tmp 37),0,_,#[⟨4,.data⟩,⟨5,.data⟩],none⟩ ?v1005 rfl (.inl ⟨by rfl,?h1005⟩) ?_;case h1005=>(intro w;go_simp;(try with_reducible rfl))
    (try simp only[Act.put,pA1,pA2,pA3]);refine rD [3,7,10] (aC ⟨some 35,.load 61 (.tmp 34),61,_,eA43_0,none⟩ rfl (fun K hK=> ?_) (aC ⟨some 39,.load 3 (.tmp 38),3,_,#[⟨6,.data⟩],none⟩ rfl (fun K hK=> ?_) (aC ⟨some 11,.alloc 92,0,_,#[],none⟩ rfl (fun K hK=> ?_) aN)))
    ·skip;go_simp;refine hK _ _ ?_;clear hK K;(try simp only[Act.put,pA1,pA2,pA3]);refine rD [7,10] (aC ⟨some 39,.load 3 (.tmp 38),3,_,#[⟨6,.data⟩],none⟩ rfl (fun K hK=> ?_) (aC ⟨some 11,.alloc 92,0,_,#[],none⟩ rfl (fun K hK=> ?_) aN))
     ·skip;go_simp;refine hK _ _ ?_;clear hK K;(try simp only[Act.put,pA1,pA2,pA3]);refine tK 8 ⟨some 40,.indexAddr 61 (.tmp 35) (.tmp 39),0,_,XU,none⟩ ?v1006 rfl (.inl ⟨by rfl,?h1006⟩) ?_;case h1006=>(intro w;go_simp;(try with_reducible rfl))
      (try simp only[Act.put,pA1,pA2,pA3]);refine rD [9,10] (aC ⟨some 41,.load 92 (.tmp 40),92,_,kJ,none⟩ rfl (fun K hK=> ?_) (aC ⟨some 11,.alloc 92,0,_,#[],none⟩ rfl (fun K hK=> ?_) aN))
      ·skip
       (first | refine zX (by rfl) 92 (.tmp 40) (by rfl) dg (dof+x*257) (by rfl) ce hld rfl hsz ?_ | refine zX (by rfl) 92 (.tmp 40) (by rfl) dg (dof+x*257) (by rfl) ce hldA rfl hsz ?_)
       refine hK _ _ ?_;clear hK K;(try simp only[Act.put,pA1,pA2,pA3]);refine rD [10] (aC ⟨some 11,.alloc 92,0,_,#[],none⟩ rfl (fun K hK=> ?_) aN);go_simp;refine hK _ _ ?_;clear hK K;(try simp only[Act.put,pA1,pA2,pA3]);refine rD [11] (aC ⟨none,.store 92 (.tmp 11) (.tmp 41),0,_,kK,none⟩ rfl (fun K hK=> ?_) aN);go_simp;refine hK _ _ ?_;clear hK K;(try simp only[Act.put,pA1,pA2,pA3]);refine wpAny_done (by kernel_rfl) ?_ _;go_wp2
       go_meet
       exact⟨rfl,qh rfl⟩
      ·skip;go_simp;refine hK _ _ ?_;clear hK K;(try simp only[Act.put,pA1,pA2,pA3]);refine rD [9] (aC ⟨some 41,.load 92 (.tmp 40),92,_,kJ,none⟩ rfl (fun K hK=> ?_) aN)
       (first | refine zX (by rfl) 92 (.tmp 40) (by rfl) dg (dof+x*257) (by rfl) ce hld rfl hsz ?_ | refine zX (by rfl) 92 (.tmp 40) (by rfl) dg (dof+x*257) (by rfl) ce hldA rfl hsz ?_)
       refine hK _ _ ?_;clear hK K;(try simp only[Act.put,pA1,pA2,pA3]);refine rD [11] (aC ⟨none,.store 92 (.tmp 11) (.tmp 41),0,_,kK,none⟩ rfl (fun K hK=> ?_) aN);go_simp;refine hK _ _ ?_;clear hK K;(try simp only[Act.put,pA1,pA2,pA3]);refine wpAny_done (by kernel_rfl) ?_ _;go_wp2
       go_meet
       exact⟨rfl,qh rfl⟩
     ·skip;go_simp;refine hK _ _ ?_;clear hK K;(try simp only[Act.put,pA1,pA2,pA3]);refine rD [7] (aC ⟨some 39,.load 3 (.tmp 38),3,_,#[⟨6,.data⟩],none⟩ rfl (fun K hK=> ?_) aN);go_simp;refine hK _ _ ?_;clear hK K;(try simp only[Act.put,pA1,pA2,pA3]);refine tK 8 ⟨some 40,.indexAddr 61 (.tmp 35) (.tmp 39),0,_,XU,none⟩ ?v1007 rfl (.inl ⟨by rfl,?h1007⟩) ?_;case h1007=>(intro w;go_simp;(try with_reducible rfl))
      (try simp only[Act.put,pA1,pA2,pA3]);refine rD [9] (aC ⟨some 41,.load 92 (.tmp 40),92,_,kJ,none⟩ rfl (fun K hK=> ?_) aN)
      (first | refine zX (by rfl) 92 (.tmp 40) (by rfl) dg (dof+x*257) (by rfl) ce hld rfl hsz ?_ | refine zX (by rfl) 92 (.tmp 40) (by rfl) dg (dof+x*257) (by rfl) ce hldA rfl hsz ?_)
      refine hK _ _ ?_;clear hK K;(try simp only[Act.put,pA1,pA2,pA3]);refine rD [11] (aC ⟨none,.store 92 (.tmp 11) (.tmp 41),0,_,kK,none⟩ rfl (fun K hK=> ?_) aN);go_simp;refine hK _ _ ?_;clear hK K;(try simp only[Act.put,pA1,pA2,pA3]);refine wpAny_done (by kernel_rfl) ?_ _;go_wp2
      go_meet
      exact⟨rfl,qh rfl⟩
    ·skip;go_simp;refine hK _ _ ?_;clear hK K;(try simp only[Act.put,pA1,pA2,pA3]);refine rD [3,10] (aC ⟨some 35,.load 61 (.tmp 34),61,_,eA43_0,none⟩ rfl (fun K hK=> ?_) (aC ⟨some 11,.alloc 92,0,_,#[],none⟩ rfl (fun K hK=> ?_) aN))
     ·skip;go_simp;refine hK _ _ ?_;clear hK K;(try simp only[Act.put,pA1,pA2,pA3]);refine tK 8 ⟨some 40,.indexAddr 61 (.tmp 35) (.tmp 39),0,_,XU,none⟩ ?v1008 rfl (.inl ⟨by rfl,?h1008⟩) ?_;case h1008=>(intro w;go_simp;(try with_reducible rfl))
      (try simp only[Act.put,pA1,pA2,pA3]);refine rD [9,10] (aC ⟨some 41,.load 92 (.tmp 40),92,_,kJ,none⟩ rfl (fun K hK=> ?_) (aC ⟨some 11,.alloc 92,0,_,#[],none⟩ rfl (fun K hK=> ?_) aN))
      ·skip
       (first | refine zX (by rfl) 92 (.tmp 40) (by rfl) dg (dof+x*257) (by rfl) ce hld rfl hsz ?_ | refine zX (by rfl) 92 (.tmp 40) (by rfl) dg (dof+x*257) (by rfl) ce hldA rfl hsz ?_)
       refine hK _ _ ?_;clear hK K;(try simp only[Act.put,pA1,pA2,pA3]);refine rD [10] (aC ⟨some 11,.alloc 92,0,_,#[],none⟩ rfl (fun K hK=> ?_) aN);go_simp;refine hK _ _ ?_;clear hK K;(try simp only[Act.put,pA1,pA2,pA3]);refine rD [11] (aC ⟨none,.store 92 (.tmp 11) (.tmp 41),0,_,kK,none⟩ rfl (fun K hK=> ?_) aN);go_simp;refine hK _ _ ?_;clear hK K;(try simp only[Act.put,pA1,pA2,pA3]);refine wpAny_done (by kernel_rfl) ?_ _;go_wp2
       go_meet
       exact⟨rfl,qh rfl⟩
      ·skip;go_simp;refine hK _ _ ?_;clear hK K;(try simp only[Act.put,pA1,pA2,pA3]);refine rD [9] (aC ⟨some 41,.load 92 (.tmp 40),92,_,kJ,none⟩ rfl (fun K hK=> ?_) aN)
       (first | refine zX (by rfl) 92 (.tmp 40) (by rfl) dg (dof+x*257) (by rfl) ce hld rfl hsz ?_ | refine zX (by rfl) 92 (.tmp 40) (by rfl) dg (dof+x*257) (by rfl) ce hldA rfl hsz ?_)
       refine hK _ _ ?_;clear hK K;(try simp only[Act.put,pA1,pA2,pA3]);refine rD [11] (aC ⟨none,.store 92 (.tmp 11) (.tmp 41),0,_,kK,none⟩ rfl (fun K hK=> ?_) aN);go_simp;refine hK _ _ ?_;clear hK K;(try simp only[Act.put,pA1,pA2,pA3]);refine wpAny_done (by kernel_rfl) ?_ _;go_wp2
       go_meet
       exact⟨rfl,qh rfl⟩
     ·skip;go_simp;refine hK _ _ ?_;clear hK K;(try simp only[Act.put,pA1,pA2,pA3]);refine rD [3] (aC ⟨some 35,.load 61 (.tmp 34),61,_,eA43_0,none⟩ rfl (fun K hK=> ?_) aN);go_simp;refine hK _ _ ?_;clear hK K;(try simp only[Act.put,pA1,pA2,pA3]);refine tK 8 ⟨some 40,.indexAddr 61 (.tmp 35) (.tmp 39),0,_,XU,none⟩ ?v1009 rfl (.inl ⟨by rfl,?h1009⟩) ?_;case h1009=>(intro w;go_simp;(try with_reducible rfl))
      (try simp only[Act.put,pA1,pA2,pA3]);refine rD [9] (aC ⟨some 41,.load 92 (.tmp 40),92,_,kJ,none⟩ rfl (fun K hK=> ?_) aN)
      (first | refine zX (by rfl) 92 (.tmp 40) (by rfl) dg (dof+x*257) (by rfl) ce hld rfl hsz ?_ | refine zX (by rfl) 92 (.tmp 40) (by rfl) dg (dof+x*257) (by rfl) ce hldA rfl hsz ?_)
      refine hK _ _ ?_;clear hK K;(try simp only[Act.put,pA1,pA2,pA3]);refine rD [11] (aC ⟨none,.store 92 (.tmp 11) (.tmp 41),0,_,kK,none⟩ rfl (fun K hK=> ?_) aN);go_simp;refine hK _ _ ?_;clear hK K;(try simp only[Act.put,pA1,pA2,pA3]);refine wpAny_done (by kernel_rfl) ?_ _;go_wp2
      go_meet
      exact⟨rfl,qh rfl⟩
    ·skip;go_simp;refine hK _ _ ?_;clear hK K;(try simp only[Act.put,pA1,pA2,pA3]);refine rD [3,7] (aC ⟨some 35,.load 61 (.tmp 34),61,_,eA43_0,none⟩ rfl (fun K hK=> ?_) (aC ⟨some 39,.load 3 (.tmp 38),3,_,#[⟨6,.data⟩],none⟩ rfl (fun K hK=> ?_) aN))
     ·skip;go_simp;refine hK _ _ ?_;clear hK K;(try simp only[Act.put,pA1,pA2,pA3]);refine rD [7] (aC ⟨some 39,.load 3 (.tmp 38),3,_,#[⟨6,.data⟩],none⟩ rfl (fun K hK=> ?_) aN);go_simp;refine hK _ _ ?_;clear hK K;(try simp only[Act.put,pA1,pA2,pA3]);refine tK 8 ⟨some 40,.indexAddr 61 (.tmp 35) (.tmp 39),0,_,XU,none⟩ ?v1010 rfl (.inl ⟨by rfl,?h1010⟩) ?_;case h1010=>(intro w;go_simp;(try with_reducible rfl))
      (try simp only[Act.put,pA1,pA2,pA3]);refine rD [9] (aC ⟨some 41,.load 92 (.tmp 40),92,_,kJ,none⟩ rfl (fun K hK=> ?_) aN)
      (first | refine zX (by rfl) 92 (.tmp 40) (by rfl) dg (dof+x*257) (by rfl) ce hld rfl hsz ?_ | refine zX (by rfl) 92 (.tmp 40) (by rfl) dg (dof+x*257) (by rfl) ce hldA rfl hsz ?_)
      refine hK _ _ ?_;clear hK K;(try simp only[Act.put,pA1,pA2,pA3]);refine rD [11] (aC ⟨none,.store 92 (.tmp 11) (.tmp 41),0,_,kK,none⟩ rfl (fun K hK=> ?_) aN);go_simp;refine hK _ _ ?_;clear hK K;(try simp only[Act.put,pA1,pA2,pA3]);refine wpAny_done (by kernel_rfl) ?_ _;go_wp2
      go_meet
      exact⟨rfl,qh rfl⟩
     ·skip;go_simp;refine hK _ _ ?_;clear hK K;(try simp only[Act.put,pA1,pA2,pA3]);refine rD [3] (aC ⟨some 35,.load 61 (.tmp 34),61,_,eA43_0,none⟩ rfl (fun K hK=> ?_) aN);go_simp;refine hK _ _ ?_;clear hK K;(try simp only[Act.put,pA1,pA2,pA3]);refine tK 8 ⟨some 40,.indexAddr 61 (.tmp 35) (.tmp 39),0,_,XU,none⟩ ?v1011 rfl (.inl ⟨by rfl,?h1011⟩) ?_;case h1011=>(intro w;go_simp;(try with_reducible rfl))
      (try simp only[Act.put,pA1,pA2,pA3]);refine rD [9] (aC ⟨some 41,.load 92 (.tmp 40),92,_,kJ,none⟩ rfl (fun K hK=> ?_) aN)
      (first | refine zX (by rfl) 92 (.tmp 40) (by rfl) dg (dof+x*257) (by rfl) ce hld rfl hsz ?_ | refine zX (by rfl) 92 (.tmp 40) (by rfl) dg (dof+x*257) (by rfl) ce hldA rfl hsz ?_)
      refine hK _ _ ?_;clear hK K;(try simp only[Act.put,pA1,pA2,pA3]);refine rD [11] (aC ⟨none,.store 92 (.tmp 11) (.tmp 41),0,_,kK,none⟩ rfl (fun K hK=> ?_) aN);go_simp;refine hK _ _ ?_;clear hK K;(try simp only[Act.put,pA1,pA2,pA3]);refine wpAny_done (by kernel_rfl) ?_ _;go_wp2
      go_meet
      exact⟨rfl,qh rfl⟩
   case rest=>
    obtain⟨rfl,HW⟩:=hcut;have HWW:=HW.out;subst HWW;obtain⟨S,hS⟩:∃S,wr.heap.size=S:=⟨_,rfl⟩;have HSE:=qh hS;rw[hS] at hS2 HRS HS3 ⊢;have hrr:=HRS.out.1;have hsr:=HRS.out.2.2;clear hW1 hst hld hldA d0A hmxA hcl hsz hmx d0 hmc hS;go_wp2_with (refine wpList_load_mid rfl 90 _ rfl S 0 rfl ra _ hrr Tryz.rowD rfl hsr ?_)
    clear hrr hsr;obtain⟨wA,rfl⟩:∃x,x=wr:=⟨_,rfl⟩;go_loopw [9,44] (fun s9 s44 wr=>∃b m2:Nat,s44= .int .i64 (b:Int)∧b≤256∧Hid (MgI w wr S O NB D n d ob s9 sv x xs q r ac b m2)) (fun _ s44 _=>256-(intOf s44).toNat)
    case atStart=>exact⟨0,m,rfl,by decide,hS2⟩
    case round=>
     clear hS2;obtain⟨b,m2,rfl,hb,HY⟩:=hrel;have b0:(0:Int)≤(b:Int):=(by omega);obtain⟨nu1,⟨c1,y1,y2,y3⟩,y4,y5⟩:=HY.out;obtain⟨vo,vc,rfl,hvc⟩:=y1.form;rw[y5] at y1 hvc HY ⊢;have hrl:=V2 (d:=d) (ob:=ob) x xs b;have hm2:m2≤3000:=by
      have h1:=hrl.2;have h2:=HLN.out;omega
     have hm2i:(m2:Int)≤3000:=(by omega);have hr256:=HX9.out.2.2.2.1;rcases (show b=256∨b<256 by omega) with hb2 | hb2
     ·subst hb2;have hbi:¬((256:Nat):Int)<256:=(by omega);have hrow:=hrl.1;have hgn:=X9 (Xb HMA.out HD.out) HX9.out.1 HX9.out.2.2.2.2.2;have hfew2:=zBZ HMA.out hgn;have hpr:∃t',(ye d ob x xs 256).1=xs++t':=(Q3 (Xb HMA.out HD.out) (HX9.out.1.good x (List.mem_of_getElem? HX9.out.2.2.2.2.2)) (X8 HX9.out.1) 256 (Nat.le_refl _)).1.pre;have hmix:=zF0 (ru:=ac) hr256 hrow;obtain⟨row,hrw⟩:∃row,(ye d ob x xs 256).2=row:=⟨_,rfl⟩;obtain⟨ys,hys⟩:∃ys,(ye d ob x xs 256).1=ys:=⟨_,rfl⟩;have hgn2:GoI (toN d) (qz d (mtA ob)) (xT (mtA ob)) (fun i=>i<d.n) (QM d) 0 (k+1) ys (rows++ [row]):=(by rw[←hrw,←hys];exact hgn);have hfew3:ys.length≤d.n:=(by rw[←hys];exact hfew2);rw[hrw] at hrow hmix y2;rw[hys] at hpr y1 y4 y5;rw[hmix] at y2;obtain⟨ce2,hce2⟩:∃ce,staD (row,ac)=ce:=⟨_,rfl⟩;have hql:q.length=k:=(by rw[←List.length_map (f:=(·.1)),HX9.out.2.1];exact HX9.out.1.len);have y1d:=y1.under (w':=wr.drew) (Below.refl _ _).drew;obtain⟨ao,cap,w8,hrun,p2,p3,p4,c8,p5,p6⟩:=y1d.df.push (s:=(row,ac)) y1d.s0.fresh hrow (by omega);rw[hql] at hrun p5 p6;have H9:Hid (MgO w (w8.setCell ⟨D,0,none⟩ (.slice ao (k+1) cap)) O NB D n d ob (.slice vo m2 vc) (k+1) m2):=qh (by
       refine⟨c8,_,ys,rows++ [row],nu1,q++ [(row,ac)],⟨y1d.s0.trans (p5.mono fun a e=>by rw[e];decide),y1d.of.keep p5.keep (by rw[y1d.cO];decide),by rw[p5.same _ y1d.of.lt];exact y1d.cO,y1d.nr.keep p5.keep (by rw[y1d.cN];decide),by rw[p5.same _ y1d.nr.lt];exact y1d.cN,y1d.met.step p5 (by decide),p6⟩,y4,hgn2,by rw[List.map_append,HX9.out.2.1];rfl,?_,y5⟩;obtain⟨t',ht'⟩:=hpr;have hk2:=(List.getElem?_eq_some_iff.1 HX9.out.2.2.2.2.2).1;rw[ht',List.take_append_of_le_length (by omega),List.take_add_one,HX9.out.2.2.2.2.2,List.map_append,List.map_append,HX9.out.2.2.1];congr 1;show [ac]= [ruN d x];unfold ruN;rw[if_pos (by have:=HN.out;omega),HX9.out.2.2.2.2.1])
      have hm3:m2≤n:=(by have:=HN.out;omega);have hm4:k+1≤m2:=(by have:=hgn2.le;omega);obtain⟨so,scap,rfl,hsc⟩:=y1.df.form;rw[hql] at hsc hrun p4;have d1:=y1.df.cell.1;rw[hql] at d1;have dl:=y1.df.lt;rw[hce2] at hrun y2;have d1A:=(keep_below (fun _=>True) (zA wr (.cells ce2.toArray 92))).cell d1 trivial;have hld:=y2.range;have has:ce2.toArray.size=257:=(by rw[List.size_toArray,←hce2,qC hrow]);have hsz:(Tryz.prog.info? 92).map (·.size)=some ce2.length:=(by rw[←hce2,qC hrow];exact Tryz.sizeStD);rw[show wr.drew.alloc (.cells ce2.toArray 92)=(wr.alloc (.cells ce2.toArray 92)).drew from rfl,show wr.drew.heap.size=wr.heap.size from rfl] at hrun;clear y1 y2 y3 y4 y5 HY y1d p5 p6 hgn hgn2 hfew2 hfew3 hpr hrl hrow hmix hql hrw hys hce2 hr256;go_wp2
      refine wp_region_any (by kernel_rfl) ?_;(try (change wpAny _ _ _ _ _ _ _ (World.drew _)));refine tK 0 ⟨some 95,.move (.tmp 8),30,_,#[],none⟩ ?v1012 rfl (.inl ⟨by rfl,?h1012⟩) ?_;case h1012=>(intro w;go_simp;(try with_reducible rfl))
      (try simp only[Act.put,pA1,pA2,pA3]);refine tK 1 ⟨some 96,.move (.tmp 8),30,_,#[],none⟩ ?v1013 rfl (.inl ⟨by rfl,?h1013⟩) ?_;case h1013=>(intro w;go_simp;(try with_reducible rfl))
      (try simp only[Act.put,pA1,pA2,pA3]);refine tK 2 ⟨some 97,.nilCheck (.tmp 96),0,_,#[⟨1,.data⟩],none⟩ ?v1014 rfl (.inl ⟨by rfl,?h1014⟩) ?_;case h1014=>(intro w;go_simp;(try with_reducible rfl))
      (try simp only[Act.put,pA1,pA2,pA3]);refine tK 3 ⟨some 98,.fieldAddr 63 (.tmp 97) 0,0,_,eA43_0,none⟩ ?v1015 rfl (.inl ⟨by rfl,?h1015⟩) ?_;case h1015=>(intro w;go_simp;(try with_reducible rfl))
      (try simp only[Act.put,pA1,pA2,pA3]);refine rD [4,5] (aC ⟨some 99,.load 61 (.tmp 98),61,_,#[⟨3,.data⟩],none⟩ rfl (fun K hK=> ?_) (aC ⟨some 100,.load 92 (.tmp 11),92,_,#[],none⟩ rfl (fun K hK=> ?_) aN))
      ·skip;go_simp;refine hK _ _ ?_;clear hK K;(try simp only[Act.put,pA1,pA2,pA3]);refine rD [5] (aC ⟨some 100,.load 92 (.tmp 11),92,_,#[],none⟩ rfl (fun K hK=> ?_) aN);refine zX (by rfl) 92 (.tmp 11) (by rfl) S 0 (by rfl) ce2 hld rfl hsz ?_;refine hK _ _ ?_;clear hK K;(try simp only[Act.put,pA1,pA2,pA3]);refine rD [6] (aC ⟨some 101,.buildSlice 61 1 #[(0,.tmp 100)],61,_,#[⟨5,.data⟩],none⟩ rfl (fun K hK=> ?_) aN);refine xS has (by rfl) (.tmp 100) (by rfl) (by rfl) ?_;refine hK _ _ ?_;clear hK K;(try simp only[Act.put,pA1,pA2,pA3]);refine rD [7] (aC ⟨some 102,.call ⟨.builtin .append,#[.tmp 99,.tmp 101],#[61,61]⟩,61,_,#[⟨4,.data⟩,⟨6,.data⟩],none⟩ rfl (fun K hK=> ?_) aN);refine zw (by rfl) (.tmp 99) (.tmp 101) 61 (by rfl) (by rfl) (by rfl) hrun ?_;refine hK _ _ ?_;clear hK K;(try simp only[Act.put,pA1,pA2,pA3]);refine tK 8 ⟨some 103,.nilCheck (.tmp 95),0,_,zCC,none⟩ ?v1016 rfl (.inl ⟨by rfl,?h1016⟩) ?_;case h1016=>(intro w;go_simp;(try with_reducible rfl))
       (try simp only[Act.put,pA1,pA2,pA3]);refine tK 9 ⟨some 104,.fieldAddr 63 (.tmp 103) 0,0,_,zCD,none⟩ ?v1017 rfl (.inl ⟨by rfl,?h1017⟩) ?_;case h1017=>(intro w;go_simp;(try with_reducible rfl))
       (try simp only[Act.put,pA1,pA2,pA3]);refine rD [10] (aC ⟨none,.store 61 (.tmp 104) (.tmp 102),0,_,zCE,none⟩ rfl (fun K hK=> ?_) aN);go_simp;refine hK _ _ ?_;clear hK K;(try simp only[Act.put,pA1,pA2,pA3]);refine wpAny_done (by kernel_rfl) ?_ _;go_wp2
       go_roundw
       case rel=>exact⟨k+1,m2,by go_num,hm4,hm3,H9⟩
       case measure=>simp[intOf]<;>omega
      ·skip;refine zX (by rfl) 92 (.tmp 11) (by rfl) S 0 (by rfl) ce2 hld rfl hsz ?_;refine hK _ _ ?_;clear hK K;(try simp only[Act.put,pA1,pA2,pA3]);refine rD [4,6] (aC ⟨some 99,.load 61 (.tmp 98),61,_,#[⟨3,.data⟩],none⟩ rfl (fun K hK=> ?_) (aC ⟨some 101,.buildSlice 61 1 #[(0,.tmp 100)],61,_,#[⟨5,.data⟩],none⟩ rfl (fun K hK=> ?_) aN))
       ·skip;go_simp;refine hK _ _ ?_;clear hK K;(try simp only[Act.put,pA1,pA2,pA3]);refine rD [6] (aC ⟨some 101,.buildSlice 61 1 #[(0,.tmp 100)],61,_,#[⟨5,.data⟩],none⟩ rfl (fun K hK=> ?_) aN);refine xS has (by rfl) (.tmp 100) (by rfl) (by rfl) ?_;refine hK _ _ ?_;clear hK K;(try simp only[Act.put,pA1,pA2,pA3]);refine rD [7] (aC ⟨some 102,.call ⟨.builtin .append,#[.tmp 99,.tmp 101],#[61,61]⟩,61,_,#[⟨4,.data⟩,⟨6,.data⟩],none⟩ rfl (fun K hK=> ?_) aN);refine zw (by rfl) (.tmp 99) (.tmp 101) 61 (by rfl) (by rfl) (by rfl) hrun ?_;refine hK _ _ ?_;clear hK K;(try simp only[Act.put,pA1,pA2,pA3]);refine tK 8 ⟨some 103,.nilCheck (.tmp 95),0,_,zCC,none⟩ ?v1018 rfl (.inl ⟨by rfl,?h1018⟩) ?_;case h1018=>(intro w;go_simp;(try with_reducible rfl))
        (try simp only[Act.put,pA1,pA2,pA3]);refine tK 9 ⟨some 104,.fieldAddr 63 (.tmp 103) 0,0,_,zCD,none⟩ ?v1019 rfl (.inl ⟨by rfl,?h1019⟩) ?_;case h1019=>(intro w;go_simp;(try with_reducible rfl))
        (try simp only[Act.put,pA1,pA2,pA3]);refine rD [10] (aC ⟨none,.store 61 (.tmp 104) (.tmp 102),0,_,zCE,none⟩ rfl (fun K hK=> ?_) aN);go_simp;refine hK _ _ ?_;clear hK K;(try simp only[Act.put,pA1,pA2,pA3]);refine wpAny_done (by kernel_rfl) ?_ _;go_wp2
        go_roundw
        case rel=>exact⟨k+1,m2,by go_num,hm4,hm3,H9⟩
        case measure=>simp[intOf]<;>omega
       ·skip;refine xS has (by rfl) (.tmp 100) (by rfl) (by rfl) ?_;refine hK _ _ ?_;clear hK K;(try simp only[Act.put,pA1,pA2,pA3]);refine rD [4] (aC ⟨some 99,.load 61 (.tmp 98),61,_,#[⟨3,.data⟩],none⟩ rfl (fun K hK=> ?_) aN);go_simp;refine hK _ _ ?_;clear hK K;(try simp only[Act.put,pA1,pA2,pA3]);refine rD [7] (aC ⟨some 102,.call ⟨.builtin .append,#[.tmp 99,.tmp 101],#[61,61]⟩,61,_,#[⟨4,.data⟩,⟨6,.data⟩],none⟩ rfl (fun K hK=> ?_) aN);refine zw (by rfl) (.tmp 99) (.tmp 101) 61 (by rfl) (by rfl) (by rfl) hrun ?_;refine hK _ _ ?_;clear hK K;(try simp only[Act.put,pA1,pA2,pA3]);refine tK 8 ⟨some 103,.nilCheck (.tmp 95),0,_,zCC,none⟩ ?v1020 rfl (.inl ⟨by rfl,?h1020⟩) ?_;case h1020=>(intro w;go_simp;(try with_reducible rfl))
        (try simp only[Act.put,pA1,pA2,pA3]);refine tK 9 ⟨some 104,.fieldAddr 63 (.tmp 103) 0,0,_,zCD,none⟩ ?v1021 rfl (.inl ⟨by rfl,?h1021⟩) ?_;case h1021=>(intro w;go_simp;(try with_reducible rfl))
        (try simp only[Act.put,pA1,pA2,pA3]);refine rD [10] (aC ⟨none,.store 61 (.tmp 104) (.tmp 102),0,_,zCE,none⟩ rfl (fun K hK=> ?_) aN);go_simp;refine hK _ _ ?_;clear hK K;(try simp only[Act.put,pA1,pA2,pA3]);refine wpAny_done (by kernel_rfl) ?_ _;go_wp2
        go_roundw
        case rel=>exact⟨k+1,m2,by go_num,hm4,hm3,H9⟩
        case measure=>simp[intOf]<;>omega
     ·have hbi:(b:Int)<256:=(by omega);have hix:=VM hb2 (HRA.out b hb2);have htd:=HTO.out (x:Int) b;obtain⟨y,hy⟩:∃y,d.to (x:Int) b=y:=⟨_,rfl⟩;rw[hy] at hix htd;have hlmix:b<(zCF (ye d ob x xs b).2 r ac).length:=(by rw[zEX hr256 (by rw[hrl.1];omega)];omega);have hcs:∃u,wr.cell? ⟨S,b,none⟩=some u:=⟨_,y2.cell (List.getElem?_eq_getElem hlmix)⟩;obtain⟨ucs,hcs⟩:=hcs;have hfs:=y2.frozen b;have hls:=y2.lt;have HENT:Hid (∀W a mv' ys' nu',MgS w W S O NB D n mv' sv ob ys' nu' q (ye d ob x xs b).2 r ac→MgS w (W.setCell ⟨S,b,none⟩ (.int .i64 a)) S O NB D n mv' sv ob ys' nu' q ((ye d ob x xs b).2++ [a]) r ac):=qh fun W a mv' ys' nu' hW=>by
       have:=hW.entry hr256 (by rw[hrl.1];exact hb2) a
       rwa [hrl.1] at this
      have on:=y1.of.cell (i:=n) (by omega);obtain⟨jn,hjn⟩:∃j,ob n=j:=⟨_,rfl⟩;have ejn:jL ob n=(jn:Int):=(by unfold jL;rw[hjn]);rw[ejn] at on;have nn1:(n:Int)<(n:Int)+1:=(by omega);by_cases hyn:y= -1
      ·subst hyn;have hdd:ob (toN d x b)=ob d.n:=(by rw[ZD (by rw[hy];omega)]);have H5:Hid (∀mq,MgI w ((wr.drewN mq).setCell ⟨S,b,none⟩ (.int .i64 (-1))) S O NB D n d ob (.slice vo m2 vc) sv x xs q r ac (b+1) m2):=qh (fun mq=>by
        unfold MgI;rw[Ja hdd];exact⟨nu1,HENT.out _ _ _ _ _ (MgS.drew ⟨c1,y1,y2,y3⟩ mq),y4,y5⟩)
       clear HY y1 y2 y3 y4 y5 hdd htd hy on ejn hjn HENT hrl hlmix;go_wp2
       go_quiet (fail)
       go_wp2
       go_roundw
       case rel=>exact⟨b+1,m2,by go_num,hb2,qh (H5.out _)⟩
       case measure=>simp[intOf]<;>omega
      ·obtain⟨t,rfl⟩:∃t:Nat,y=t:=⟨y.toNat,by omega⟩;have htn:t<n:=(by omega);have HTN:Hid (toN d x b=t):=qh (by rw[Xa (by have:=HN.out;omega) (by rw[hy];omega),hy,Int.toNat_natCast]);have ot:=y1.of.cell (i:=t) (by omega);obtain⟨jt,hjt⟩:∃j,ob t=j:=⟨_,rfl⟩;have ejt:jL ob t=(jt:Int):=(by unfold jL;rw[hjt]);rw[ejt] at ot;have hjl:jt<n+1:=(by rw[←hjt];exact HLT.out t (by omega));have hji:(jt:Int)<(n:Int)+1:=(by omega);have jt0:(0:Int)≤(jt:Int):=(by omega);have t1:(t:Int)<(n:Int)+1:=(by omega);have t0:(0:Int)≤(t:Int):=(by omega);have hym:((t:Int)== -1)=false:=beq_eq_false_iff_ne.2 hyn;by_cases hjj:jt=jn
       ·have jj1:((jt:Int)==(jn:Int))=true:=(by rw[hjj];exact beq_self_eq_true _);have hdd:ob (toN d x b)=ob d.n:=(by rw[HTN.out,HN.out,hjt,hjn,hjj]);have H5:Hid (∀mq,MgI w ((wr.drewN mq).setCell ⟨S,b,none⟩ (.int .i64 (-1))) S O NB D n d ob (.slice vo m2 vc) sv x xs q r ac (b+1) m2):=qh (fun mq=>by
         unfold MgI;rw[Ja hdd];exact⟨nu1,HENT.out _ _ _ _ _ (MgS.drew ⟨c1,y1,y2,y3⟩ mq),y4,y5⟩)
        clear HY y1 y2 y3 y4 y5 hdd htd hy ejn hjn ejt hjt HENT hrl hlmix hjj hyn;go_wp2
        go_quiet (fail)
        go_wp2
        go_roundw
        case rel=>exact⟨b+1,m2,by go_num,hb2,qh (H5.out _)⟩
        case measure=>simp[intOf]<;>omega
       ·have jj1:((jt:Int)==(jn:Int))=false:=beq_eq_false_iff_ne.2 (by omega);have HDD:Hid (ob (toN d x b)≠ob d.n):=qh (by rw[HTN.out,HN.out,hjt,hjn];exact hjj);have HYS:Hid (MgS w wr S O NB D n (.slice vo m2 vc) sv ob (ye d ob x xs b).1 nu1 q (ye d ob x xs b).2 r ac∧KT ob (ye d ob x xs b).1 nu1∧(ye d ob x xs b).1.length=m2):=qh ⟨⟨c1,y1,y2,y3⟩,y4,y5⟩;have HJT:=qh hjt;have HEJ:=qh ejt;have HLM:=qh hlmix;clear HY y1 y2 y3 y4 y5 htd hy ejn hjn ejt hjt hrl hlmix hjj hyn hcs hfs hls;go_wp2
        go_quiet (fail)
        generalize hWQ:World.drewN _ _=WQ;have HQ:Hid (MgS w WQ S O NB D n (.slice vo m2 vc) sv ob (ye d ob x xs b).1 nu1 q (ye d ob x xs b).2 r ac):=qh (by rw[←hWQ];exact HYS.out.1.drew _);clear hWQ ot on;obtain⟨c2,q1,q2,q3⟩:=HQ.out;have ot:=q1.of.cell (i:=t) (by omega);rw[HEJ.out] at ot;have nt:=q1.nr.cell hjl;have nf:=q1.nr.frozen jt;have nl:=q1.nr.lt;have hcs:∃u,WQ.cell? ⟨S,b,none⟩=some u:=⟨_,q2.cell (List.getElem?_eq_getElem HLM.out)⟩;obtain⟨ucs,hcs⟩:=hcs;have hfs:=q2.frozen b;have hls:=q2.lt;obtain⟨z,hzz⟩:∃z,nu1 jt=z:=⟨_,rfl⟩;rw[hzz] at nt;by_cases hz1:z= -1
        ·subst hz1;have hQ7:=HQ.out.num jt (m2:Int);obtain⟨ao,cap,w8,hrun,hQ8⟩:=hQ7.more t (by rw[HYS.out.2.2];omega);rw[HYS.out.2.2] at hrun hQ8;rw[show (WQ.setCell ⟨NB,jt,none⟩ (.int .i64 (m2:Int))).heap.size=WQ.heap.size from by show (WQ.heap.modify _ _).size=_;rw[Array.size_modify]] at hrun;have hno:nu1 (ob (toN d x b))= -1:=(by rw[HTN.out,HJT.out];exact hzz);have H9:Hid (MgI w (w8.setCell ⟨S,b,none⟩ (.int .i64 (m2:Int))) S O NB D n d ob (.slice ao (m2+1) cap) sv x xs q r ac (b+1) (m2+1)):=qh (by
          unfold MgI;have hpu:=HYS.out.2.1.push hno;rw[zF2 HDD.out HYS.out.2.1 hno];dsimp only;rw[HTN.out] at hpu ⊢;rw[HJT.out,HYS.out.2.2] at hpu;rw[HYS.out.2.2];exact⟨_,HENT.out _ _ _ _ _ hQ8,hpu,by rw[List.length_append,HYS.out.2.2];rfl⟩)
         obtain⟨c8,r1,r2,r3⟩:=hQ8;have ot8:=r1.of.cell (i:=t) (by omega);rw[HEJ.out] at ot8;have nt8:=r1.nr.cell hjl;rw[if_pos rfl] at nt8;have hcs8:∃u,w8.cell? ⟨S,b,none⟩=some u:=⟨_,r2.cell (List.getElem?_eq_getElem HLM.out)⟩;obtain⟨ucs8,hcs8⟩:=hcs8;have hfs8:=r2.frozen b;have hls8:=r2.lt;clear q1 q2 q3 r1 r2 r3 hQ7 hzz hno hcs hfs hls;go_wp2_with (at_builtin;refine x8 rfl (.tmp 80) (.tmp 82) 39 (by rfl) (by rfl) (by rfl) hrun ?_)
         go_roundw
         case rel=>exact⟨b+1,m2+1,by go_num,hb2,H9⟩
         case measure=>simp[intOf]<;>omega
        ·have hzb:(z== -1)=false:=beq_eq_false_iff_ne.2 hz1;have H9:Hid (MgI w (WQ.setCell ⟨S,b,none⟩ (.int .i64 z)) S O NB D n d ob (.slice vo m2 vc) sv x xs q r ac (b+1) m2):=qh (by
          unfold MgI;have hzo:nu1 (ob (toN d x b))=z:=(by rw[HTN.out,HJT.out];exact hzz);rw[zF3 HDD.out HYS.out.2.1 (by rw[hzo];exact hz1)];dsimp only;rw[hzo];exact⟨nu1,HENT.out _ _ _ _ _ HQ.out,HYS.out.2.1,HYS.out.2.2⟩)
         clear q1 q2 q3 hzz hz1;go_wp2
         go_roundw
         case rel=>exact⟨b+1,m2,by go_num,hb2,H9⟩
         case measure=>simp[intOf]<;>omega
  ·have hli:¬(k:Int)<(m:Int):=(by omega);have hkm:k=m:=(by omega);obtain⟨vo,vc,rfl,hvc⟩:=x1.form;rw[x6] at hvc;have HF:Hid (zJ7 w wr d (.returned (.pointer (some ⟨D,0,none⟩)))):=qh (by
    have hk2:k=xs.length:=(by rw[x6];exact hkm);rw[hk2,List.take_length] at x5;have x3':=x3;rw[hk2] at x3';have hmin:=zFA HMA.out HD.out x3';have hql:q.length=rows.length:=(by rw[←x4,List.length_map]);have e:(⟨q.map (·.1),q.map (·.2)⟩:Dfa)=⟨rows,xs.map (ruN d)⟩:=(by rw[x4,x5]);refine⟨D,⟨rows,xs.map (ruN d)⟩,rfl,⟨?_,hmin.ok,fun y hy=> ?_⟩,hmin,x1.below⟩
    ·rw[←e];refine x1.df.read (by rw[hql,x3'.len,x6];omega) fun s hs=> ?_;have hs1:s.1∈rows:=(by rw[←x4];exact List.mem_map.2 ⟨s,hs,rfl⟩);have hs2:s.2∈xs.map (ruN d):=(by rw[←x5];exact List.mem_map.2 ⟨s,hs,rfl⟩);exact⟨fun y hy=>(hmin.ok.into _ hs1 y hy).1,hmin.ok.low _ hs2⟩
    ·have hy2:y∈xs.map (ruN d):=hy;obtain⟨z,_,rfl⟩:=List.mem_map.1 hy2;unfold ruN;split
     ·exact HHI.out _
     ·decide)
   have hml:=x6;rw[hml];clear x1 x2 x3 x4 x5 x6 HX;go_wp2
   go_ret
   exact HF.out
end Go.Proofs.YtjeomlickkpebaaGreatDoor
