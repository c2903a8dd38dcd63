/-
  limnerref11.Of: what it returns.
-/
import Derived.Deep.CutRange
import Derived.Deep.RegionLaw
import Derived.Test.YtjeomlickkpebaaGreatDoorBe2
import Derived.Test.YtjeomlickkpebaaGreatDoorBe21
import Derived.Test.YtjeomlickkpebaaGreatDoorBe15
import Derived.Test.YtjeomlickkpebaaGreatDoorBe14
namespace Go.Proofs.YtjeomlickkpebaaGreatDoor
open Go.RowKit
section
variable {w0 w w':World} {R m i:Nat} {sv bv:Value}
theorem OfW.start (w0:World) (hw:Below w0.heap.size w0 w) (hlt:w0.heap.size<w.heap.size):OfW w0 ((w.alloc (.cells #[.int .u64 0,.int .u64 0,.int .u64 0,.int .u64 0] 51)).alloc (.cells #[.slice (some ⟨w.heap.size,0,none⟩) 1 1,.slice none 0 0,.slice none 0 0] 48)) (w.heap.size+1) m 0 (.slice (some ⟨w.heap.size,0,none⟩) 1 1) (.slice none 0 0):=by
 have hb1:=alloc_under w (.cells #[.int .u64 0,.int .u64 0,.int .u64 0,.int .u64 0] 51);have hs1:=alloc_size w (.cells #[.int .u64 0,.int .u64 0,.int .u64 0,.int .u64 0] 51);have ho:=World.ownsRow_lit (base:=0) (e:=51) (size:=4) w #[.int .u64 0,.int .u64 0,.int .u64 0,.int .u64 0] 1 (Nat.zero_le _) (by unfold maxLen;decide) rfl;generalize w.alloc (.cells #[.int .u64 0,.int .u64 0,.int .u64 0,.int .u64 0] 51)=W1 at hb1 hs1 ho ⊢;have hb2:=alloc_under W1 (.cells #[.slice (some ⟨w.heap.size,0,none⟩) 1 1,.slice none 0 0,.slice none 0 0] 48);have hx:=box3.new 48 W1 (.slice (some ⟨w.heap.size,0,none⟩) 1 1) (.slice none 0 0) (.slice none 0 0);rw[hs1] at hx;have hsz:=hw.size;refine⟨hx,ownRow_keep ho (keep_below (fun _=>True) hb2) fun _ _=>trivial,⟨[],rfl,World.ownsRow_nil _ _ _ _,fun k hk=>by omega⟩,fun e=> ?_,(fun e=>by cases e),(fun k _ e=>by cases e),hw.trans ((hb1.trans (hb2.mono hb1.size)).mono hw.size),fun k e=> ?_⟩
 ·have:w.heap.size=w.heap.size+1:=Option.some.inj e;omega
 ·rcases e with e | e | e
  ·omega
  ·have:w.heap.size=k:=Option.some.inj e;omega
  ·cases e
theorem OfW.rul (h:OfW w0 w R m m sv bv):RulW (fun k=>k<w0.heap.size) w R sv bv (.slice none 0 0) [noR] m noF2:=
 ⟨h.b,h.s,by
  obtain⟨us,h1,h2,h3⟩:=h.r;refine⟨us,h1,h2,fun k hk=> ?_⟩;obtain⟨u,h4,h5⟩:=h3 k hk;exact⟨u,h4,h5⟩,h.sR,h.bR,h.sb,fun k e e2=>by have:=h.fresh k e;omega⟩
theorem run_last {lV:Value} {f:Nat→Bool} {own:Nat→Prop} (hl:BolO own w lV m f) (hm:m≤1000) (t ty:TypeId) (ht:Tryz.prog.underlying t=some (.slice 4)):
  ∃cap w',(Builtin.append_ #[t,t] ty #[.slice none 0 0,lV]).run Tryz.prog w= .ok (.slice (some ⟨w.heap.size,0,none⟩) m cap) w'∧m≤cap∧Below w.heap.size w w'∧w'.ownsRow 0 4 1 (.slice (some ⟨w.heap.size,0,none⟩) m cap) m (boolC (bolL f m)):=by
 obtain⟨i0,hi,hz0,hz1,hz2⟩:=info_of Tryz.infoBoolN;obtain⟨h0,g,cap,rfl,hc,_,hx⟩:=hl;obtain⟨v',w',hr,hown',hgr,_,hat⟩:=run_append_own_at (P:=Tryz.prog) w 0 t ty 4 i0 (.bool false) 1 1 ht hi hz0 hz1 hz2 rfl (by decide) (.slice none 0 0) 0 [] (World.ownsRow_nil _ _ _ _) ⟨g,0,none⟩ m cap (boolC (bolL f m)) (by unfold boolC;rw[List.length_map,bol_len,Nat.mul_one]) (fun j x hx2=>by
  unfold boolC at hx2;rw[List.getElem?_map] at hx2;obtain⟨y,hy,rfl⟩:=Option.map_eq_some_iff.1 hx2;have hj:=(List.getElem?_eq_some_iff.1 hy).1;rw[bol_len] at hj;have h1:=bol_at f m j hj;rw[List.getD_eq_getElem?_getD,hy] at h1;rw[rlit,Nat.zero_add,hx j hj,←h1];rfl) (fun x hx=>by
  unfold boolC at hx;obtain⟨y,_,rfl⟩:=List.mem_map.1 hx;rfl) (by unfold maxLen;omega) (by omega) (Nat.zero_le _)
 rw[Nat.zero_add,List.nil_append] at hown';have hown2:=hown';obtain⟨_,⟨_,e⟩ | ⟨g2,cap2,_,rfl,_,_,hn2,_⟩⟩:=hown2
 ·omega
 ·have e:g2=w.heap.size:=by
   rcases hat with hat | hat
   ·cases hat
   ·exact Option.some.inj hat
  subst e;exact⟨cap2,w',hr,hn2,⟨hgr.os,hgr.tape,hgr.output,hgr.size,fun k hk=>hgr.block k (by omega) fun e=>by cases e⟩,hown'⟩
theorem RulW.withLast {X:Nat→Prop} {S:List St4} {E:Nat→Nat→Bool} {cap g:Nat} {cs:List Value} {lv:Value} (h:RulW X w R sv bv lv S m E) (hb:Below w.heap.size w w') (hg:g=w.heap.size) (ho:w'.ownsRow 0 4 1 (.slice (some ⟨g,0,none⟩) m cap) m cs):
  RulW (fun k=>X k∨k=g) (w'.setCell ⟨R,2,none⟩ (.slice (some ⟨g,0,none⟩) m cap)) R sv bv (.slice (some ⟨g,0,none⟩) m cap) S m E∧(w'.setCell ⟨R,2,none⟩ (.slice (some ⟨g,0,none⟩) m cap)).ownsRow 0 4 1 (.slice (some ⟨g,0,none⟩) m cap) m cs∧KeepW (fun k=>k≠R) w' (w'.setCell ⟨R,2,none⟩ (.slice (some ⟨g,0,none⟩) m cap)):=by
 have hk:KeepW (fun k=>k≠R) w' (w'.setCell ⟨R,2,none⟩ (.slice (some ⟨g,0,none⟩) m cap)):=keep_set R 2 none _ w' fun h=>h rfl;have h1:=(h.mono (X':=fun k=>X k∨k=g) fun k hk e=>e.elim id fun e=>by omega).under hb;have hRl:=h.b.lt;have hg1:Gone (fun k=>OwnR R sv bv k∨(X k∨k=g)) (fun k=>OwnR R sv bv k∨(X k∨k=g)) w' (w'.setCell ⟨R,2,none⟩ (.slice (some ⟨g,0,none⟩) m cap)):=⟨hk.mono fun k _ ho e=>ho (.inl (.inl e)),fun _ e=> .inl e⟩;obtain⟨us,h2,h3,h4⟩:=h1.r;refine⟨⟨h1.b.set2 _,ownRow_keep h1.s hk fun k e e2=>h1.sR (by rw[←e2];exact e),⟨us,h2,ownRow_keep h3 hk fun k e e2=>h1.bR (by rw[←e2];exact e),fun k hk2=> ?_⟩,h1.sR,h1.bR,h1.sb,h1.aX⟩,ownRow_keep ho hk fun k e e2=> ?_,hk⟩
 ·obtain⟨u,h5,h6⟩:=h4 k hk2;exact⟨u,h5,h6.go hg1⟩
 ·have:g=k:=Option.some.inj e;omega
theorem RulW.fin {X:Nat→Prop} {lv:Value} {S:List St4} {E:Nat→Nat→Bool} {f:Nat→Bool} {L c:Nat} (h:RulW X w R sv bv lv S m E) (hS:S.length=m) (hm:0<m) (h1000:m≤1000) (hL:lv= .slice (some ⟨L,0,none⟩) m c) (hc:m≤c) (hLX:¬X L) (hlast:∀j,j<m→w.cell? ⟨L,j,none⟩=some (.bool (f j))):RuO X w (.pointer (some ⟨R,0,none⟩)) ⟨m,S,E,f⟩:=by
 obtain⟨us,h1,h2,h3⟩:=h.r;obtain⟨g,cap,_,hbv,hcap,_,_,_,_⟩:=h.row hm;obtain⟨⟨c0,c1,c2⟩,_⟩:=h.b.cells;refine⟨hm,h1000,hS,R,sv,bv,lv,rfl,c0,c1,c2,?_,by rw[hL];exact⟨hm,L,c,rfl,hc,hLX,hlast⟩,⟨g,cap,hbv,hcap,h.aX g (.inr (.inr (by rw[hbv];rfl))),fun k hk=> ?_⟩,h.aX R (.inl rfl)⟩
 ·have hz:=ownZ h.s;obtain⟨_,⟨hv,hn⟩ | ⟨g2,c2',_,hv,_⟩⟩:=h.s
  ·rw[hS] at hn;omega
  ·subst hv;obtain⟨ao,cc,he,hnc,hcc⟩:=hz;injection he with e1 e2 e3
   subst e1 e3;refine⟨_,_,by rw[hS],by rw[←hS];exact hnc,fun j x hx=> ?_⟩;obtain⟨g3,o3,e3,_,h6⟩:=hcc j x hx;injection e3 with e3
   injection e3 with e3 e4
   subst e3 e4;exact⟨_,_,rfl,h.aX _ (.inr (.inl rfl)),h6⟩
 ·obtain⟨g',_,u,hbv',_,c3,_,_,h5⟩:=h.row hk;rw[hbv] at hbv';injection hbv' with e1 e2 e3
  injection e1 with e1
  injection e1 with e1
  subst e1;exact⟨u,c3,h5.mono fun _ _ e=> .inr e⟩
end
section
variable {ok:Nat→Prop} {w:World} {x:Value} {n:Nd}
set_option maxRecDepth 4000 in
set_option maxHeartbeats 8000000 in
theorem rof_any (hx:NodeW ok w n x) (hmay:mayR n=true) (hwt:wtR n≤410):
  Calls Tryz.prog 30 #[x] w fun e w'=>∃p,e= .returned (.pointer p)∧RuO (fun k=>k<w.heap.size) w' (.pointer p) (ruleN n)∧Below w.heap.size w w':=by
 have hc:=count_any _ n (Nat.le_refl _) ok;obtain⟨hs,u,rfl,hu⟩:=hx;obtain⟨uo,uc,rfl,hul,hub⟩:=hu.form;have hba:=alloc_under w (.cells #[.int .i64 n.kind,.int .u64 (n.set.1:Int),.int .u64 (n.set.2.1:Int),.int .u64 (n.set.2.2.1:Int),.int .u64 (n.set.2.2.2:Int),.slice uo n.kids.length uc] 77);have hbx:=boxN.new 77 w n.kind n.set (.slice uo n.kids.length uc);have hsw:=sets_wt n;have HC:=qh (fun (W:World) (hb:Below w.heap.size w W)=>hc W (nodeV n (.slice uo n.kids.length uc)) ⟨hs,_,rfl,hu.under hb⟩ (by omega));have HU:=qh (hu.mono (ok':=fun k=>k<w.heap.size) fun k hk _=>hk);have HSO:=qh hs;have HMAY:=qh hmay;have H0:=qh (And.intro hba hbx);unfold nodeV at HC ⊢;obtain⟨⟨c0,c1,c2,c3,c4,c5⟩,_⟩:=hbx.cells;have hbl:=hbx.lt;obtain⟨z,hz⟩:∃z,(setsN n).length=z:=⟨_,rfl⟩;rw[hz] at HC hsw;have HZ:=qh hz;have hzi:(z:Int)≤410:=by omega
 have hz0:(0:Int)≤(z:Int):=by omega
 clear hc hu hs hmay hba hbx hz;go_enter Tryz.func30,Tryz.ntmps30;go_upto_region 1 with (fail)
 obtain⟨W1,hW1⟩:∃W1,w.alloc (.cells #[.int .i64 n.kind,.int .u64 (n.set.1:Int),.int .u64 (n.set.2.1:Int),.int .u64 (n.set.2.2.1:Int),.int .u64 (n.set.2.2.2:Int),.slice uo n.kids.length uc] 77)=W1:=⟨_,rfl⟩;rw[hW1] at H0 c0 c1 c2 c3 c4 c5 hbl;(try rw[hW1]);clear hW1;obtain⟨b,hb⟩:∃b,w.heap.size=b:=⟨_,rfl⟩;have HBB:=qh hb;rw[hb] at c0 c1 c2 c3 c4 c5 hbl;have H1:Hid (Below w.heap.size w W1∧boxN 77 W1 b n.kind n.set (.slice uo n.kids.length uc)):=qh (by rw[←hb];exact H0.out);(try rw[hb]);clear hb H0;go_wp2_with fail
 go_fit (HC.out _ H1.out.1);rintro e w2 ⟨rfl,hb2⟩;have H2:=qh (show Below w.heap.size w w2∧boxN 77 w2 b n.kind n.set (.slice uo n.kids.length uc) from⟨H1.out.1.trans (hb2.mono H1.out.1.size),H1.out.2.below hb2⟩);clear hb2 H1 HC c0 c1 c2 c3 c4 c5 hbl;go_upto_region 3 with (fail)
 have HO:=qh (OfW.start (m:=z+1) w H2.out.1 (by have h1:=H2.out.2.lt;have h2:=HBB.out;omega));have hb3:=(alloc_under w2 (.cells #[.int .u64 0,.int .u64 0,.int .u64 0,.int .u64 0] 51)).trans ((alloc_under (w2.alloc (.cells #[.int .u64 0,.int .u64 0,.int .u64 0,.int .u64 0] 51)) (.cells #[.slice (some ⟨w2.heap.size,0,none⟩) 1 1,.slice none 0 0,.slice none 0 0] 48)).mono (alloc_under w2 (.cells #[.int .u64 0,.int .u64 0,.int .u64 0,.int .u64 0] 51)).size);have HX3:=qh (H2.out.2.below hb3);obtain⟨W3,hW3⟩:∃W3,(w2.alloc (.cells #[.int .u64 0,.int .u64 0,.int .u64 0,.int .u64 0] 51)).alloc (.cells #[.slice (some ⟨w2.heap.size,0,none⟩) 1 1,.slice none 0 0,.slice none 0 0] 48)=W3:=⟨_,rfl⟩;rw[hW3] at HO HX3;(try rw[hW3]);clear hW3 hb3;obtain⟨R,hR⟩:∃R,w2.heap.size+1=R:=⟨_,rfl⟩;rw[hR] at HO;(try rw[hR]);obtain⟨sv,hsv⟩:∃sv,(Value.slice (some ⟨w2.heap.size,0,none⟩) 1 1)=sv:=⟨_,rfl⟩;rw[hsv] at HO;(try rw[hsv]);have hbR:b<R:=by
  have h1:=H2.out.1.size;have h2:=HBB.out;omega
 obtain⟨m,hm⟩:∃m:Nat,z+1=m:=⟨_,rfl⟩;have hmi:(z:Int)+1=(m:Int):=by omega
 rw[hm] at HO;(try rw[hmi]);have HM:=qh hm;have hm1:(m:Int)≤411:=by omega
 have hm0:0<m:=by omega
 have hmk:=fun W=>nmake m (by omega) W;clear hR hsv hm hmi H2 hzi hz0;have H3:Hid (∃bv,OfW w W3 R m 0 sv bv∧boxN 77 W3 b n.kind n.set (.slice uo n.kids.length uc)):=qh ⟨_,HO.out,HX3.out⟩;clear HO HX3;go_wp2_with fail
 go_loopw [5] (fun s5 wr=>∃i:Nat,s5= .int .i64 (i:Int)∧i≤m∧Hid (∃bv,OfW w wr R m i sv bv∧boxN 77 wr b n.kind n.set (.slice uo n.kids.length uc))) (fun s5 _=>m-(intOf s5).toNat)
 case atStart=>exact⟨0,rfl,Nat.zero_le _,H3⟩
 case round=>
  obtain⟨i,rfl,hi,HX0⟩:=hrel;clear H3;obtain⟨bv,hX⟩:=HX0.out;have HQ:=qh hX;clear HX0 hX;have i0:(0:Int)≤(i:Int):=by omega
  by_cases hlt:i<m
  ·have hli:(i:Int)<(m:Int):=(by omega);obtain⟨bo,bc,hbv⟩:=HQ.out.1.form;subst hbv;obtain⟨⟨_,r1,_⟩,_,r2,_⟩:=HQ.out.1.b.cells;have hRl:=HQ.out.1.b.lt
   have hPS:∀W:World,Below wr.heap.size wr W→∃ao cp w',(Builtin.append_ #[45,45] 45 #[.slice bo i bc,.slice (some ⟨W.heap.size+1,0,none⟩) 1 1]).run Tryz.prog ((W.alloc (.cells (boolC (noneB m)).toArray 4)).alloc (.cells #[.slice (some ⟨W.heap.size,0,none⟩) m m] 46))= .ok (.slice ao (i+1) cp) w'∧w'.cell? ⟨R,1,none⟩=some (.slice bo i bc)∧w'.frozen? ⟨R,1,none⟩=false∧R<w'.heap.size ∧
     (∃bv,OfW w (w'.setCell ⟨R,1,none⟩ (.slice ao (i+1) cp)) R m (i+1) sv bv∧boxN 77 (w'.setCell ⟨R,1,none⟩ (.slice ao (i+1) cp)) b n.kind n.set (.slice uo n.kids.length uc)):=fun W hb=>by
    have hb1:=alloc_under W (.cells (boolC (noneB m)).toArray 4);have hs1:=alloc_size W (.cells (boolC (noneB m)).toArray 4);have hn:=blkM_new W m;have h1:=(HQ.out.1.under hb).under hb1;have hno:=(HQ.out.1.under hb).ownlt W.heap.size (Nat.le_refl _);have hx1:=(HQ.out.2.below hb).below hb1;generalize W.alloc (.cells (boolC (noneB m)).toArray 4)=W1 at hb1 hs1 hn h1 hx1 ⊢;have hb2:=alloc_under W1 (.cells #[.slice (some ⟨W.heap.size,0,none⟩) m m] 46);have hwsz:=(HQ.out.1.under hb).bel.size;have hbool:BolO (fun k=>OwnR R sv (.slice bo i bc) k∨k<w.heap.size) W1 (.slice (some ⟨W.heap.size,0,none⟩) m m) m noF:=BolO.of_blk hn (noneB_len m) hm0 (fun e=>e.elim hno fun e=>by omega) fun j _=>noneB_get m j;have hcell:=cell_one_new W1 (.slice (some ⟨W.heap.size,0,none⟩) m m) 46 0 _ rfl;rw[rlit,hs1] at hcell;obtain⟨ao,cp,w',h2,h3,h4,h5,h6,h7⟩:=(h1.under hb2).push 45 45 Tryz.underlying45 hcell (hbool.under hb2) (by omega);refine⟨ao,cp,w',h2,h3,h4,h5,_,h6,(hx1.below hb2).keep h7.keep fun e=> ?_⟩;have h8:=h1.fresh b e;have h9:=HBB.out;omega
   have HPS:=qh hPS;clear hPS;go_wp2_with fail
   go_region_law (first
    | (obtain⟨o6,c6,w6,hr6,z1,z2,z3,z4⟩:=HPS.out _ (Below.refl _ _);refine napp_step (by rfl) (.tmp 23) (.tmp 26) 45 (by rfl) (by rfl) (by rfl) hr6 ?_)
    | (obtain⟨o6,c6,w6,hr6,z1,z2,z3,z4⟩:=HPS.out _ (Below.refl _ _).drew;refine napp_step (by rfl) (.tmp 23) (.tmp 26) 45 (by rfl) (by rfl) (by rfl) hr6 ?_))
   all_goals
    have H7:=qh z4;clear z1 z2 z3 z4 hr6 HPS HQ r1 r2 hRl;go_wp2_with fail
    exact⟨⟨i+1,by go_num,hlt,H7⟩,by simp[intOf]<;>omega⟩
  ·have hli:¬(i:Int)<(m:Int):=(by omega);have him:i=m:=(by omega);rw[him] at HQ;have hbel:=HQ.out.1.bel;have hfr:=HQ.out.1.fresh;have HFR:=qh hfr;have HL:=qh (lays_any _ n (Nat.le_refl _) HMAY.out (fun k=>k<w.heap.size) wr R sv bv (.slice none 0 0) [noR] m noF2 (nodeV n (.slice uo n.kids.length uc)) HQ.out.1.rul (fun k hk e=>by have:=hbel.size;omega) ⟨HSO.out,_,rfl,(HU.out.under hbel).mono fun k _ hk e=>by have:=hfr k e;omega⟩ ⟨by decide,by rw[HZ.out];show 1+z≤m;have:=HM.out;omega⟩ (by omega));unfold nodeV at HL;obtain⟨⟨c0,c1,c2,c3,c4,c5⟩,_⟩:=HQ.out.2.cells;have hbl:=HQ.out.2.lt;clear him hbel hfr hi hlt;go_wp2_with fail
   go_fit HL.out;rintro e w4 ⟨sw,fV,lV,rfl,hR,hGo,hf,hl⟩;obtain⟨fo,fc,hfV⟩:=bol_form hf;obtain⟨lo,lc,hlV⟩:=bol_form hl;subst hfV hlV;have H4:=qh (And.intro hR (And.intro (hf.mono (own2:=fun k=>OwnR R sw bv k∨k<w.heap.size) fun k _ e=>e.imp id fun e=>by have:=HQ.out.1.bel.size;omega) (And.intro (hl.mono (own2:=OwnR R sw bv) fun _ _ e=> .inl e) (KeepW.below HQ.out.1.bel hGo.keep HQ.out.1.bel.size fun k hk e=>by have:=HQ.out.1.fresh k e;omega))));obtain⟨G,hG⟩:∃G,glN n 1=G:=⟨_,rfl⟩;have hG2:glN n [noR].length=G:=hG;rw[hG2] at H4;(try rw[hG2]);have HGE:=qh hG;clear hR hGo hf hl HL c0 c1 c2 c3 c4 c5 hbl HQ hG hG2;go_upto_region 8 with (fail)
   have hb5:=alloc_under w4 (.cells #[.bool G.null,.slice fo m fc,.slice lo m lc] 109);have H5:=qh (And.intro (H4.out.1.under hb5) (And.intro (H4.out.2.1.under hb5) (And.intro (H4.out.2.2.1.under hb5) (And.intro (H4.out.2.2.2.trans (hb5.mono H4.out.2.2.2.size)) (And.intro (box3.new 109 w4 (.bool G.null) (.slice fo m fc) (.slice lo m lc)) (H4.out.1.ownlt w4.heap.size (Nat.le_refl _)))))));obtain⟨W5,hW5⟩:∃W5,w4.alloc (.cells #[.bool G.null,.slice fo m fc,.slice lo m lc] 109)=W5:=⟨_,rfl⟩;rw[hW5] at H5;(try rw[hW5]);obtain⟨c,hc⟩:∃c,w4.heap.size=c:=⟨_,rfl⟩;rw[hc] at H5;(try rw[hc]);clear hb5 hW5 hc H4;obtain⟨gb,cb,y,hbv,hcb,b0,b1,b2,_⟩:=H5.out.1.row hm0;subst hbv;obtain⟨⟨_,r1,r2⟩,_,_,r3⟩:=H5.out.1.b.cells;have hRl:=H5.out.1.b.lt;obtain⟨⟨q0,q1,q2⟩,_⟩:=H5.out.2.2.2.2.1.cells;have hcl:=H5.out.2.2.2.2.1.lt;have hmi0:(0:Int)<(m:Int):=by omega
   go_region
   obtain⟨h6,hg6⟩:=H5.out.1.setRow hm0 rfl H5.out.2.1;have hd6:Below (W5.setCell ⟨gb,0,none⟩ (.slice fo m fc)).heap.size (W5.setCell ⟨gb,0,none⟩ (.slice fo m fc)) (W5.setCell ⟨gb,0,none⟩ (.slice fo m fc)).drew:=(Below.refl _ _).drew;have hgb:=HFR.out gb (.inr (.inr rfl));have hRw:=HFR.out R (.inl rfl);have hk6:KeepW (fun k=>k≠gb) W5 (W5.setCell ⟨gb,0,none⟩ (.slice fo m fc)):=keep_set gb 0 none _ W5 fun h=>h rfl;have hbe6:=KeepW.below H5.out.2.2.2.1 hk6 H5.out.2.2.2.1.size fun k hk=>(by omega);have H6:=qh (And.intro (h6.under hd6) (And.intro ((H5.out.2.2.1.go hg6).under hd6) (And.intro (hbe6.trans (hd6.mono hbe6.size)) ((H5.out.2.2.2.2.1.go H5.out.2.2.2.2.2 hg6).1.under hd6))));have HCN:=qh H5.out.2.2.2.2.2;obtain⟨W6,hW6⟩:∃W6,(W5.setCell ⟨gb,0,none⟩ (.slice fo m fc)).drew=W6:=⟨_,rfl⟩;rw[hW6] at H6;(try rw[hW6]);clear h6 hg6 hd6 hk6 hbe6 hW6 H5 r1 r2 r3 hRl q0 q1 q2 hcl b0 b1 b2;obtain⟨cL,w7,hr7,hcL,hb7,ho7⟩:=run_last H6.out.2.1 (by omega) 46 46 Tryz.underlying46;have h7:=H6.out.1.under hb7;obtain⟨⟨_,_,r2⟩,_,_,r3⟩:=h7.b.cells;have hRl:=h7.b.lt;obtain⟨⟨q0,q1,q2⟩,_⟩:=H6.out.2.2.2.cells;have hcl:=H6.out.2.2.2.lt;obtain⟨h8,ho8,hk8⟩:=H6.out.1.withLast hb7 rfl ho7;have hbe8:=KeepW.below (H6.out.2.2.1.trans (hb7.mono H6.out.2.2.1.size)) hk8 (by have:=H6.out.2.2.1.size;have:=hb7.size;omega) fun k hk=>(by omega);have hc8:=(H6.out.2.2.2.under hb7).keep hk8 fun e=>HCN.out (.inl e);have hLw:w.heap.size≤W6.heap.size:=H6.out.2.2.1.size;have H8:=qh (And.intro h8 (And.intro ho8 (And.intro hbe8 hc8)));clear h7 h8 ho8 hk8 hbe8 hc8 ho7 hb7 H6;go_wp2_with (at_builtin;refine napp_list (by rfl) _ _ 46 (by rfl) (by rfl) (by rfl) hr7 ?_)
   obtain⟨L,hL⟩:∃L,W6.heap.size=L:=⟨_,rfl⟩;rw[hL] at H8 hLw;(try rw[hL]);obtain⟨W8,hW8⟩:∃W8,w7.setCell ⟨R,2,none⟩ (.slice (some ⟨L,0,none⟩) m cL)=W8:=⟨_,rfl⟩;rw[hW8] at H8;(try rw[hW8]);clear hW8 hr7 r2 r3 hRl q0 q1 q2 hcl hL;obtain⟨⟨_,_,r2⟩,_⟩:=H8.out.1.b.cells;obtain⟨⟨q0,_,_⟩,_⟩:=H8.out.2.2.2.cells;have l0:=H8.out.2.1.cellAt 0 (by omega);have l1:=H8.out.2.1.frozenAt 0;have l2:=(World.ownsRow.lt H8.out.2.1 L rfl).2;obtain⟨y0,hy0⟩:∃y0,(boolC (bolL G.last m))[0]? =some y0:=⟨_,List.getElem?_eq_getElem (by unfold boolC;rw[List.length_map,bol_len];exact hm0)⟩;rw[hy0] at l0;have hst:=H8.out.2.1.stored 0 (.bool G.null);have hk9:KeepW (fun k=>k≠L) W8 (W8.setCell ⟨L,0,none⟩ (.bool G.null)):=keep_set L 0 none _ W8 fun h=>h rfl;have hbe9:=KeepW.below H8.out.2.2.1 hk9 H8.out.2.2.1.size fun k hk=>(by omega);have hd9:Below (W8.setCell ⟨L,0,none⟩ (.bool G.null)).heap.size (W8.setCell ⟨L,0,none⟩ (.bool G.null)) (W8.setCell ⟨L,0,none⟩ (.bool G.null)).drew:=(Below.refl _ _).drew;have hru:RuO (fun k=>k<w.heap.size) (W8.setCell ⟨L,0,none⟩ (.bool G.null)) (.pointer (some ⟨R,0,none⟩)) (ruleN n):=by
    have h9:=((H8.out.1.aside (c:=L) (i:=0) (y:= .bool G.null) (.inr rfl)).mono (X':=fun k=>k<w.heap.size) fun _ _ e=> .inl e).congr (F:=fun p q=>if p=0 then G.first q else G.fol p q) fun p _ q _=>by
     by_cases e:p=0
     ·simp[e]
     ·simp[e,orF2,noF2]
    have h10:=h9.fin (L:=L) (f:=fun p=>if p=0 then G.null else G.last p) (by have:=HM.out;have:=HZ.out;rw[List.length_append];show 1+_=_;omega) hm0 (by omega) rfl hcL (by omega) fun j hj=>by
     rw[hst.1.cellAt j (by omega),List.getElem?_set];by_cases e:0=j
     ·subst e;rw[if_pos rfl,if_pos (by unfold boolC;rw[List.length_map,bol_len];exact hm0)];rfl
     ·rw[if_neg e];unfold boolC;rw[List.getElem?_map,List.getElem?_eq_getElem (by rw[bol_len];exact hj)];have h1:=bol_at G.last m j hj;rw[List.getD_eq_getElem?_getD,List.getElem?_eq_getElem (by rw[bol_len];exact hj)] at h1;simp only[Option.getD_some] at h1;rw[Option.map_some,h1,if_neg (fun x=>e x.symm)]
    have e1:(⟨m,[noR]++setsN n,fun p q=>if p=0 then G.first q else G.fol p q,fun p=>if p=0 then G.null else G.last p⟩:RuN)=ruleN n:=by
     unfold ruleN;rw[HGE.out,HZ.out,HM.out];rfl
    rw[←e1];exact h10
   have HF:=qh (And.intro (hru.below hd9) (hbe9.trans (hd9.mono hbe9.size)));clear hst hk9 hbe9 hd9 hru hy0 H8
   go_region
   all_goals
    go_wp2_with fail
    go_ret
    exact⟨_,rfl,HF.out⟩
end
end Go.Proofs.YtjeomlickkpebaaGreatDoor
