/-
  Texts of this proof, one behind the other; each begins with its own remark.
-/
import Derived.Test.YtjeomlickkpebaaGreatDoorBe15
set_option maxHeartbeats 8000000
namespace Go.Proofs.YtjeomlickkpebaaGreatDoor
open Go.RowKit
def zeroSet:Value:= .agg #[.int .u64 0,.int .u64 0,.int .u64 0,.int .u64 0]
theorem Tryz.infoSetN:(Tryz.prog.info? 51).map (fun i=>(i.zero,i.size,i.bytes))=some (some zeroSet,4,32):=by kernel_rfl
section
variable {X:Nat→Prop} {w:World} {R m:Nat} {sv bv lv x:Value} {S:List St4} {E:Nat→Nat→Bool} {n:Nd}
theorem qF.pushSet {Y:Nat} {s:St4} (h:qF X w R sv bv lv S m E) (hX:∀k,w.heap.size≤k→¬X k) (t ty:TypeId) (ht:Tryz.prog.underlying t=some (.slice 51)) (hY:∀(j:Nat) x,(set4C s)[j]? =some x→w.cell? ⟨Y,j,none⟩=some x) (hl:S.length≤100000):
  ∃ao cap w',(Builtin.append_ #[t,t] ty #[sv,.slice (some ⟨Y,0,none⟩) 1 1]).run Tryz.prog w= .ok (.slice ao (S.length+1) cap) w'∧w'.cell? ⟨R,0,none⟩=some sv∧w'.frozen? ⟨R,0,none⟩=false∧R<w'.heap.size ∧
   qF X (w'.setCell ⟨R,0,none⟩ (.slice ao (S.length+1) cap)) R (.slice ao (S.length+1) cap) bv lv (S++ [s]) m E∧Gone (zq R sv bv) (zq R (.slice ao (S.length+1) cap) bv) w (w'.setCell ⟨R,0,none⟩ (.slice ao (S.length+1) cap)):=by
 obtain⟨i0,hi,hz0,hz1,hz2⟩:=xJ Tryz.infoSetN;obtain⟨v',w',hr,hown',hgr,_,hat⟩:=run_append_own_at (P:=Tryz.prog) w 0 t ty 51 i0 zeroSet 4 32 ht hi hz0 hz1 hz2 rfl (by decide) sv S.length (jT S) h.s ⟨Y,0,none⟩ 1 1 (set4C s) rfl (fun j x hx=>by rw[Zr,Nat.zero_add];exact hY j x hx) (fun x hx=>Ql [s] x (by rw[jT,jT,List.append_nil];exact hx)) (by unfold maxLen;omega) (by omega) (Nat.zero_le _);have hO:w'.ownsRow 0 51 4 v' (S++ [s]).length (jT (S++ [s])):=by
  rw[List.length_append,Qk];show w'.ownsRow 0 _ 4 v' _ (jT S++(set4C s++ []));rw[List.append_nil];exact hown'
 obtain⟨ao,cap,hv,_⟩:=Zc hO;rw[List.length_append] at hv;have hv:v'= .slice ao (S.length+1) cap:=hv;subst hv;have hk1:KeepW (fun k=>sv.ownBlock≠some k) w w':=⟨hgr.os,hgr.tape,hgr.output,hgr.size,fun k hk hne=>hgr.block k hk fun e=>hne e.symm⟩;have hk2:KeepW (fun k=>k≠R) w' (w'.setCell ⟨R,0,none⟩ (.slice ao (S.length+1) cap)):=zE R 0 none _ w' fun h=>h rfl;have hb:=h.b.keep hk1 h.sR;have hnew:∀k,(Value.slice ao (S.length+1) cap).ownBlock=some k→sv.ownBlock=some k∨w.heap.size≤k:=fun k e=>by
  rcases hat with hat | hat
  ·exact .inl (hat▸e)
  ·rw[hat] at e;cases e;exact .inr (Nat.le_refl _)
 have hlt:=h.ownlt;have hRlt:=h.b.lt;have hg:Gone (zq R sv bv) (zq R (.slice ao (S.length+1) cap) bv) w (w'.setCell ⟨R,0,none⟩ (.slice ao (S.length+1) cap)):=by
  refine⟨(hk1.mono fun k _ ho e=>ho (.inr (.inl e))).trans (hk2.mono fun k _ ho e=>ho (.inl e)),fun k e=> ?_⟩;rcases e with e | e | e
  ·exact .inl (.inl e)
  ·rcases hnew k e with e | e
   ·exact .inl (.inr (.inl e))
   ·exact .inr e
  ·exact .inl (.inr (.inr e))
 obtain⟨us,h1,h2,h3⟩:=h.r;refine⟨ao,cap,w',hr,hb.cells.1.1,hb.cells.2.1,hb.lt,⟨hb.set0 _,zF hO hk2 fun k e e2=> ?_,⟨us,h1,zF (zF h2 hk1 fun k e e2=>h.sb k e2 e) hk2 fun k e e2=>h.bR (by rw[←e2];exact e),fun k hk=> ?_⟩,fun e=> ?_,h.bR,fun k e e2=> ?_,fun k e=> ?_⟩,hg⟩
 ·rcases hnew k e with e3 | e3
  ·exact h.sR (by rw[←e2];exact e3)
  ·omega
 ·obtain⟨u,h4,h5⟩:=h3 k hk;exact⟨u,h4,h5.go (hg.wide X)⟩
 ·rcases hnew R e with e3 | e3
  ·exact h.sR e3
  ·omega
 ·rcases hnew k e with e3 | e3
  ·exact h.sb k e3 e2
  ·exact hlt k e3 (.inr (.inr e2))
 ·rcases hg.new k e with e3 | e3
  ·exact h.aX k e3
  ·exact hX k e3
set_option maxRecDepth 4000 in
theorem rlay_bytes (hk:n.kind=1) (hks:n.kids= []) (hr:qF X w R sv bv lv S m E) (hX:∀k,w.heap.size≤k→¬X k) (hx:zV (fun k=>¬zq R sv bv k) w n x) (hlen:0<S.length∧S.length+(zU n).length≤m) (hm:m≤100000):
  Calls Tryz.prog 49 #[.pointer (some ⟨R,0,none⟩),x,.int .i64 (m:Int)] w fun e w'=>zDE X R sv bv lv S m E n w w' e:=by
 obtain⟨hs,u,rfl,hu⟩:=hx;obtain⟨uo,uc,rfl,hul,hub⟩:=hu.form;have HS0:=qh (LayF.start hr hu (by omega));have hmk:=fun W=>yr m (by omega) W;have HG:Hid (glN n S.length=⟨false,kL S.length,kL S.length,Yi⟩∧S++zU n=S++ [n.set]):=qh ⟨by rw[ZK,if_pos hk],by rw[Xk,if_pos hk,hks,zL]⟩;have hk1:(n.kind==1)=true:=by rw[hk];rfl
 have hSm:S.length<m:=by
  have h1:=congrArg List.length HG.out.2;rw[List.length_append,List.length_append] at h1;simp only[List.length_cons,List.length_nil] at h1;omega
 clear hk hks hlen;unfold zG;have HX:=qh hX;clear hr hu hX;go_enter Tryz.func49,Tryz.ntmps49;go_upto_region 2 with (fail)
 obtain⟨W1,hW1⟩:∃W1,((w.alloc (.cells #[.int .i64 n.kind,.int .u64 (n.set.1:Int),.int .u64 (n.set.2.1:Int),.int .u64 (n.set.2.2.1:Int),.int .u64 (n.set.2.2.2:Int),.slice uo n.kids.length uc] 77)).alloc (.cells #[.bool false,.slice none 0 0,.slice none 0 0] 109)).alloc (.cells (boolC (noneB m)).toArray 4)=W1:=⟨_,rfl⟩;(try rw[hW1]);rw[hW1] at HS0;clear hW1;obtain⟨b,hb⟩:∃b,w.heap.size=b:=⟨_,rfl⟩;(try rw[hb]);rw[hb] at HS0 HX;have HBB:=qh hb;clear hb;obtain⟨⟨c0,c1,c2,c3,c4,c5⟩,_⟩:=HS0.out.1.x.cells;have hbl:=HS0.out.1.x.lt;obtain⟨⟨p0,p1,p2⟩,p3,p4,p5⟩:=HS0.out.1.p.cells;have hpl:=HS0.out.1.p.lt;obtain⟨⟨s0,s1,s2⟩,s3,s4,s5⟩:=HS0.out.1.r.b.cells;have hsl:=HS0.out.1.r.b.lt;obtain⟨so,sc,hsv,_⟩:=HS0.out.1.r.sform
 have hPS:∀W:World,Below W1.heap.size W1 W→∃ao cp w',(Builtin.append_ #[44,44] 44 #[sv,.slice (some ⟨W.heap.size,0,none⟩) 1 1]).run Tryz.prog (W.alloc (.cells #[.int .u64 (n.set.1:Int),.int .u64 (n.set.2.1:Int),.int .u64 (n.set.2.2.1:Int),.int .u64 (n.set.2.2.2:Int)] 51))= .ok (.slice ao (S.length+1) cp) w'∧w'.cell? ⟨R,0,none⟩=some sv∧w'.frozen? ⟨R,0,none⟩=false∧R<w'.heap.size ∧
   LayF X w (w'.setCell ⟨R,0,none⟩ (.slice ao (S.length+1) cp)) R sv (.slice ao (S.length+1) cp) bv lv (S++ [n.set]) m E b n (.slice uo n.kids.length uc):=fun W hb=>by
  have hba:=zA W (.cells #[.int .u64 (n.set.1:Int),.int .u64 (n.set.2.1:Int),.int .u64 (n.set.2.2.1:Int),.int .u64 (n.set.2.2.2:Int)] 51);have h1:=(HS0.out.1.under hb).under hba;obtain⟨ao,cp,w',h2,h3,h4,h5,h6,h7⟩:=h1.r.pushSet (Y:=W.heap.size) (s:=n.set) (h1.newX (by rw[HBB.out];exact HX.out)) 44 44 Tryz.underlying44 (fun j x hx=>by rw[cell_of_row _ _ j _ _ (0,0) (heap_alloc_new W _),List.getElem?_toArray];exact hx) (by omega);exact⟨ao,cp,w',h2,h3,h4,h5,h1.go h6 h7⟩
 have HPS:=qh hPS;have hSmi:(S.length:Int)<(m:Int):=by omega
 have hS0:(0:Int)≤(S.length:Int):=by omega
 have hSb:(S.length:Int)≤100000:=by omega
 clear hPS;subst hsv;go_wp2_with fail
 go_region_law (first
  | (obtain⟨o6,c6,w6,hr6,z1,z2,z3,z4⟩:=HPS.out _ (Below.refl _ _);refine xB (by rfl) (.tmp 27) (.tmp 30) 44 (by rfl) (by rfl) (by rfl) hr6 ?_)
  | (obtain⟨o6,c6,w6,hr6,z1,z2,z3,z4⟩:=HPS.out _ (Below.refl _ _).drew;refine xB (by rfl) (.tmp 27) (.tmp 30) 44 (by rfl) (by rfl) (by rfl) hr6 ?_))
 all_goals
  obtain⟨W4,hW4⟩:∃W4,w6.setCell ⟨R,0,none⟩ (.slice o6 (S.length+1) c6)=W4:=⟨_,rfl⟩;rw[hW4] at z4;(try rw[hW4]);have H4:=qh z4;clear z4 z1 z2 z3 hr6 hW4 HPS HS0 c0 c1 c2 c3 c4 c5 hbl p0 p1 p2 p3 p4 p5 hpl s0 s1 s2 s3 s4 s5 hsl;go_upto_region 6 with (fail)
  have hb5:=zA W4 (.cells (boolC (noneB m)).toArray 4);have H5:=qh (And.intro (H4.out.moreC hb5) (blkM_new W4 m));clear hb5 hmk;obtain⟨W5,hW5⟩:∃W5,W4.alloc (.cells (boolC (noneB m)).toArray 4)=W5:=⟨_,rfl⟩;rw[hW5] at H5;(try rw[hW5]);clear hW5;have HCN:=qh (show b+3≤W4.heap.size∧¬zq R (.slice o6 (S.length+1) c6) bv W4.heap.size from⟨H4.out.sz,H4.out.r.ownlt _ (Nat.le_refl _)⟩);obtain⟨c,hc⟩:∃c,W4.heap.size=c:=⟨_,rfl⟩;rw[hc] at H5 HCN;(try rw[hc]);clear hc H4;obtain⟨⟨r0,_⟩,_⟩:=H5.out.1.r.b.cells;have hcl:=H5.out.2.lt;have b0:=H5.out.2.at_ (i:=S.length) (by rw[zi];omega) false;have b1:=H5.out.2.frozen S.length;have ew:IntKind.i64.wrap (((S.length+1:Nat):Int)-1)=(S.length:Int):=by
   rw[show ((S.length+1:Nat):Int)-1=(S.length:Int) by omega];apply IntWalk.i64_in<;>omega
  have e1:((S.length+1:Nat):Int)-1=(S.length:Int):=by omega
  have e2:(S.length:Int)+1-1=(S.length:Int):=by omega
  have hk6:KeepW (fun k=>k≠c) W5 (W5.setCell ⟨c,S.length,none⟩ (.bool true)):=zE c _ none _ W5 fun h=>h rfl
  have H6:=qh (show LayF (fun k=>X k∨k=c) w (W5.setCell ⟨c,S.length,none⟩ (.bool true)) R _ _ bv lv _ m E b n _∧BolO (Ju R (.slice o6 (S.length+1) c6) bv b) (W5.setCell ⟨c,S.length,none⟩ (.bool true)) (.slice (some ⟨c,0,none⟩) m m) m (kL S.length) from
   ⟨H5.out.1.storeC HCN.out.1,BolO.of_blk (H5.out.2.set S.length true) (by rw[List.length_set,zi]) (by omega) (fun e=>e.elim HCN.out.2 fun e=>by have:=HCN.out.1;omega) fun i hi=>by
    rw[getD_set (by rw[zi];omega),noneB_get];unfold kL;split
    ·rename_i e;subst e;simp
    ·rename_i e;simp[e]⟩)
  clear hk6;go_upto_region 7 with (fail)
  obtain⟨W6,hW6⟩:∃W6,W5.setCell ⟨c,S.length,none⟩ (.bool true)=W6:=⟨_,rfl⟩;rw[hW6] at H6;(try rw[hW6]);clear hW6 H5 r0 b0 b1 ew e1 e2 hcl;obtain⟨⟨p0,p1,p2⟩,p3,p4,p5⟩:=H6.out.1.p.cells;have hpl:=H6.out.1.p.lt;have HF:=qh (H6.out.1.lessC.fin (z:=false) H6.out.2 H6.out.2);obtain⟨⟨y0,y1,y2⟩,_⟩:=HF.out.1.cells;unfold setP at y0 y1 y2 HF;go_wp2_with fail
  exact bodyPost_ret (v:= .agg #[.bool false,.slice (some ⟨c,0,none⟩) m m,.slice (some ⟨c,0,none⟩) m m]) (by simp[results,Tryz.results49,go_sem,y0,y1,y2]) rfl (jS (g:=⟨false,kL S.length,kL S.length,Yi⟩) HG.out.1 HG.out.2 (HF.out.2.1.congr fun i _ j _=>by simp[xu,Yi]) HF.out.2.2.1 HF.out.2.2.2.1 HF.out.2.2.2.2)
end
section
variable {X:Nat→Prop} {w:World} {R m:Nat} {sv bv lv x:Value} {S:List St4} {E:Nat→Nat→Bool} {n:Nd}
set_option maxRecDepth 4000 in
theorem zBF (hk:¬n.kind=1∧¬n.kind=2∧¬n.kind=3∧¬n.kind=4∧¬n.kind=5∧¬n.kind=6) (hks:n.kids= []) (hr:qF X w R sv bv lv S m E) (hX:∀k,w.heap.size≤k→¬X k) (hx:zV (fun k=>¬zq R sv bv k) w n x) (hlen:0<S.length∧S.length+(zU n).length≤m) (hm:m≤100000):
  Calls Tryz.prog 49 #[.pointer (some ⟨R,0,none⟩),x,.int .i64 (m:Int)] w fun e w'=>zDE X R sv bv lv S m E n w w' e:=by
 obtain⟨hs,u,rfl,hu⟩:=hx;obtain⟨uo,uc,rfl,hul,hub⟩:=hu.form;have HS0:=qh (LayF.start hr hu (by omega));have hmk:=fun W=>yr m (by omega) W;have hk1:(n.kind==1)=false:=beq_eq_false_iff_ne.2 hk.1;have hk2:(n.kind==2)=false:=beq_eq_false_iff_ne.2 hk.2.1;have hk3:(n.kind==3)=false:=beq_eq_false_iff_ne.2 hk.2.2.1;have hk4:(n.kind==4)=false:=beq_eq_false_iff_ne.2 hk.2.2.2.1;have hk5:(n.kind==5)=false:=beq_eq_false_iff_ne.2 hk.2.2.2.2.1;have hk6:(n.kind==6)=false:=beq_eq_false_iff_ne.2 hk.2.2.2.2.2;have HG:Hid (glN n S.length=xE∧S++zU n=S):=qh ⟨by rw[ZK,if_neg hk.1,if_neg hk.2.1,if_neg hk.2.2.1,if_neg hk.2.2.2.1,if_neg hk.2.2.2.2.1,if_neg hk.2.2.2.2.2],by rw[qW n hk.1,hks,zL,List.append_nil]⟩;clear hk hks;unfold zG;have HX:=qh hX;clear hr hu hX;go_enter Tryz.func49,Tryz.ntmps49;go_upto_region 2 with (fail)
 obtain⟨W1,hW1⟩:∃W1,((w.alloc (.cells #[.int .i64 n.kind,.int .u64 (n.set.1:Int),.int .u64 (n.set.2.1:Int),.int .u64 (n.set.2.2.1:Int),.int .u64 (n.set.2.2.2:Int),.slice uo n.kids.length uc] 77)).alloc (.cells #[.bool false,.slice none 0 0,.slice none 0 0] 109)).alloc (.cells (boolC (noneB m)).toArray 4)=W1:=⟨_,rfl⟩;(try rw[hW1]);rw[hW1] at HS0;clear hW1 hmk;obtain⟨b,hb⟩:∃b,w.heap.size=b:=⟨_,rfl⟩;(try rw[hb]);rw[hb] at HS0 HX;have HBB:=qh hb;clear hb;obtain⟨⟨c0,c1,c2,c3,c4,c5⟩,_⟩:=HS0.out.1.x.cells;have hbl:=HS0.out.1.x.lt;obtain⟨⟨p0,p1,p2⟩,p3,p4,p5⟩:=HS0.out.1.p.cells;have hpl:=HS0.out.1.p.lt;have HF:=qh (HS0.out.1.fin (z:=true) HS0.out.1.nrow.acc1 HS0.out.1.nrow.acc1);obtain⟨⟨y0,y1,y2⟩,_⟩:=HF.out.1.cells;unfold setP at y0 y1 y2 HF;go_wp2_with fail
 exact bodyPost_ret (v:= .agg #[.bool true,(.slice (some ⟨b+1+1,0,none⟩) m m),(.slice (some ⟨b+1+1,0,none⟩) m m)]) (by simp[results,Tryz.results49,go_sem,y0,y1,y2]) rfl (jS (g:=xE) HG.out.1 HG.out.2 (HF.out.2.1.congr fun i _ j _=>by simp[xu,xE,Yi]) HF.out.2.2.1 HF.out.2.2.2.1 HF.out.2.2.2.2)
set_option maxRecDepth 4000 in
theorem zBG (hk:n.kind=4) (k1:Nd) (hks:n.kids= [k1]) (hB:zG3 k1) (hr:qF X w R sv bv lv S m E) (hX:∀k,w.heap.size≤k→¬X k) (hx:zV (fun k=>¬zq R sv bv k) w n x) (hlen:0<S.length∧S.length+(zU n).length≤m) (hm:m≤100000):
  Calls Tryz.prog 49 #[.pointer (some ⟨R,0,none⟩),x,.int .i64 (m:Int)] w fun e w'=>zDE X R sv bv lv S m E n w w' e:=by
 obtain⟨hs,u,rfl,hu⟩:=hx;obtain⟨uo,uc,rfl,hul,hub⟩:=hu.form;have HS0:=qh (LayF.start hr hu (by omega));have hmk:=fun W=>yr m (by omega) W;have HG:Hid (glN n S.length=loopG true (glN k1 S.length)∧S++zU n=S++zU k1):=qh ⟨by rw[ZK,if_neg (by rw[hk];decide),if_neg (by rw[hk];decide),if_neg (by rw[hk];decide),if_pos hk,hks,Vc],by rw[qW n (by rw[hk];decide),hks,zL,zL,List.append_nil]⟩;have hk14:(n.kind==4)=true:=by rw[hk];rfl
 have HK0:Hid (n.kids[0]? =some k1):=qh (by rw[hks];rfl);have HLN:Hid (0<S.length∧S.length+(zU k1).length≤m):=qh (by
  have h1:=congrArg List.length HG.out.2;rw[List.length_append,List.length_append] at h1;omega)
 have hlk:0<n.kids.length:=by rw[hks];simp
 have hlki:(0:Int)<(n.kids.length:Int):=by omega
 have hk1:(n.kind==1)=false:=by rw[hk];rfl
 have hk2:(n.kind==2)=false:=by rw[hk];rfl
 have hk3:(n.kind==3)=false:=by rw[hk];rfl
 have hk4:(n.kind==4)=true:=by rw[hk];rfl
 have HB:=qh hB;clear hk hks hB hlen;unfold zG;have HX:=qh hX;clear hr hu hX;go_enter Tryz.func49,Tryz.ntmps49;go_upto_region 2 with (fail)
 obtain⟨W1,hW1⟩:∃W1,((w.alloc (.cells #[.int .i64 n.kind,.int .u64 (n.set.1:Int),.int .u64 (n.set.2.1:Int),.int .u64 (n.set.2.2.1:Int),.int .u64 (n.set.2.2.2:Int),.slice uo n.kids.length uc] 77)).alloc (.cells #[.bool false,.slice none 0 0,.slice none 0 0] 109)).alloc (.cells (boolC (noneB m)).toArray 4)=W1:=⟨_,rfl⟩;(try rw[hW1]);rw[hW1] at HS0;clear hW1 hmk;obtain⟨b,hb⟩:∃b,w.heap.size=b:=⟨_,rfl⟩;(try rw[hb]);rw[hb] at HS0 HX;have HBB:=qh hb;clear hb;obtain⟨⟨c0,c1,c2,c3,c4,c5⟩,_⟩:=HS0.out.1.x.cells;have hbl:=HS0.out.1.x.lt;obtain⟨⟨p0,p1,p2⟩,p3,p4,p5⟩:=HS0.out.1.p.cells;have hpl:=HS0.out.1.p.lt;obtain⟨g,o,cap,ku,kl,kc,hue,hul2,rfl,hnk,hcell⟩:=HS0.out.1.kid HK0.out;injection hue with e1 e2 e3
 subst e1 e3;clear e2;have d0:=hcell 0 _ (by decide) rfl;have d1:=hcell 1 _ (by decide) rfl;have d2:=hcell 2 _ (by decide) rfl;have d3:=hcell 3 _ (by decide) rfl;have d4:=hcell 4 _ (by decide) rfl;have d5:=hcell 5 _ (by decide) rfl;simp only[Nat.zero_mul,Nat.zero_add,Nat.add_zero] at d0 d1 d2 d3 d4 d5;have HA:=qh (HB.out _ _ _ _ _ _ _ _ _ _ HS0.out.1.r (HS0.out.1.newX (by rw[HBB.out];exact HX.out)) hnk HLN.out hm);unfold zG at HA;clear hcell hnk;go_wp2_with fail
 go_fit HA.out;rintro e w2 ⟨sv',fV,lV,rfl,hR,hGo,hf,hl⟩;have h2:=HS0.out.1.go hR hGo;have hsz:=HS0.out.2;have H2:=qh (And.intro h2 (And.intro (hf.mono (own2:=Ju R sv' bv b) fun k _ e=>e.imp id fun e=>by omega) (hl.mono (own2:=Ju R sv' bv b) fun k _ e=>e.imp id fun e=>by omega)));obtain⟨fo,fc,hfv⟩:∃fo fc,fV= .slice fo m fc:=by
  obtain⟨_,gg,cc,hh,_⟩:=hf;exact⟨_,_,hh⟩
 obtain⟨lo,lc,hlv⟩:∃lo lc,lV= .slice lo m lc:=by
  obtain⟨_,gg,cc,hh,_⟩:=hl;exact⟨_,_,hh⟩
 subst hfv hlv;obtain⟨nu,hnu⟩:∃nu,(glN k1 S.length).null=nu:=⟨_,rfl⟩;(try rw[hnu]);clear hR hGo hf hl h2 hsz HA HS0 c0 c1 c2 c3 c4 c5 hbl p0 p1 p2 p3 p4 p5 hpl d0 d1 d2 d3 d4 d5;have hba:=zA w2 (.cells #[.bool nu,.slice fo m fc,.slice lo m lc] 109);have H3:=qh (And.intro (H2.out.1.under hba) (And.intro (H2.out.2.1.under hba) (And.intro (H2.out.2.2.under hba) (box3.new 109 w2 (.bool nu) (.slice fo m fc) (.slice lo m lc)))));clear hba;go_upto_region 33 with (fail)
 obtain⟨W3,hW3⟩:∃W3,w2.alloc (.cells #[.bool nu,.slice fo m fc,.slice lo m lc] 109)=W3:=⟨_,rfl⟩;(try rw[hW3]);rw[hW3] at H3;clear hW3;obtain⟨c,hc⟩:∃c,w2.heap.size=c:=⟨_,rfl⟩;(try rw[hc]);rw[hc] at H3;have HNO:=qh (show ¬zq R sv' bv c from H2.out.1.r.ownlt c (by omega));clear hc H2;obtain⟨⟨q0,q1,q2⟩,_⟩:=H3.out.2.2.2.cells;have HFO:=qh (ya H3.out.1.r (H3.out.2.2.1.mono (own2:=zq R sv' bv) fun k _ e=> .inl e) (H3.out.2.1.mono (own2:=zq R sv' bv) fun k _ e=> .inl e) hm (H3.out.1.newX (by rw[HBB.out];exact HX.out)));go_wp2_with fail
 go_fit HFO.out;rintro e w4 ⟨rfl,hR,hGo⟩;have H4:=qh (And.intro (H3.out.1.go hR hGo) (And.intro (H3.out.2.1.go1 hGo) (And.intro (H3.out.2.2.1.go1 hGo) (H3.out.2.2.2.go HNO.out hGo).1)));clear hR hGo HFO q0 q1 q2 H3;obtain⟨⟨c0,c1,c2,c3,c4,c5⟩,_⟩:=H4.out.1.x.cells;have hbl:=H4.out.1.x.lt;obtain⟨⟨p0,p1,p2⟩,p3,p4,p5⟩:=H4.out.1.p.cells;have hpl:=H4.out.1.p.lt;obtain⟨⟨q0,q1,q2⟩,_⟩:=H4.out.2.2.2.cells;have HF:=qh (H4.out.1.fin (z:=(nu||true)) H4.out.2.1 H4.out.2.2.1);obtain⟨⟨y0,y1,y2⟩,_⟩:=HF.out.1.cells;unfold setP at y0 y1 y2 HF;have HNU:=qh hnu;clear hnu;rcases nu with _ | _
 ·simp only[Bool.false_or] at y0 y1 y2 HF;go_wp2_with fail
  exact bodyPost_ret (v:= .agg #[.bool true,.slice fo m fc,.slice lo m lc]) (by simp[results,Tryz.results49,go_sem,y0,y1,y2]) rfl (by
   have h1:=jS (E:=E) (g:=loopG true (glN k1 S.length)) HG.out.1 HG.out.2 (HF.out.2.1.congr fun i _ j _=>by simp[xu,loopG,zm,Bool.or_assoc]) HF.out.2.2.1 HF.out.2.2.2.1 HF.out.2.2.2.2;rw[show (loopG true (glN k1 S.length)).null=true by simp[loopG,HNU.out]] at h1;exact h1)
 ·simp only[Bool.true_or] at y0 y1 y2 HF;go_wp2_with fail
  exact bodyPost_ret (v:= .agg #[.bool true,.slice fo m fc,.slice lo m lc]) (by simp[results,Tryz.results49,go_sem,y0,y1,y2]) rfl (by
   have h1:=jS (E:=E) (g:=loopG true (glN k1 S.length)) HG.out.1 HG.out.2 (HF.out.2.1.congr fun i _ j _=>by simp[xu,loopG,zm,Bool.or_assoc]) HF.out.2.2.1 HF.out.2.2.2.1 HF.out.2.2.2.2;rw[show (loopG true (glN k1 S.length)).null=true by simp[loopG,HNU.out]] at h1;exact h1)
set_option maxRecDepth 4000 in
theorem zBH (hk:n.kind=5) (k1:Nd) (hks:n.kids= [k1]) (hB:zG3 k1) (hr:qF X w R sv bv lv S m E) (hX:∀k,w.heap.size≤k→¬X k) (hx:zV (fun k=>¬zq R sv bv k) w n x) (hlen:0<S.length∧S.length+(zU n).length≤m) (hm:m≤100000):
  Calls Tryz.prog 49 #[.pointer (some ⟨R,0,none⟩),x,.int .i64 (m:Int)] w fun e w'=>zDE X R sv bv lv S m E n w w' e:=by
 obtain⟨hs,u,rfl,hu⟩:=hx;obtain⟨uo,uc,rfl,hul,hub⟩:=hu.form;have HS0:=qh (LayF.start hr hu (by omega));have hmk:=fun W=>yr m (by omega) W;have HG:Hid (glN n S.length=loopG false (glN k1 S.length)∧S++zU n=S++zU k1):=qh ⟨by rw[ZK,if_neg (by rw[hk];decide),if_neg (by rw[hk];decide),if_neg (by rw[hk];decide),if_neg (by rw[hk];decide),if_pos hk,hks,Vc],by rw[qW n (by rw[hk];decide),hks,zL,zL,List.append_nil]⟩;have hk14:(n.kind==4)=false:=by rw[hk];rfl
 have HK0:Hid (n.kids[0]? =some k1):=qh (by rw[hks];rfl);have HLN:Hid (0<S.length∧S.length+(zU k1).length≤m):=qh (by
  have h1:=congrArg List.length HG.out.2;rw[List.length_append,List.length_append] at h1;omega)
 have hlk:0<n.kids.length:=by rw[hks];simp
 have hlki:(0:Int)<(n.kids.length:Int):=by omega
 have hk1:(n.kind==1)=false:=by rw[hk];rfl
 have hk2:(n.kind==2)=false:=by rw[hk];rfl
 have hk3:(n.kind==3)=false:=by rw[hk];rfl
 have hk4:(n.kind==4)=false:=by rw[hk];rfl
 have hk5:(n.kind==5)=true:=by rw[hk];rfl
 have HB:=qh hB;clear hk hks hB hlen;unfold zG;have HX:=qh hX;clear hr hu hX;go_enter Tryz.func49,Tryz.ntmps49;go_upto_region 2 with (fail)
 obtain⟨W1,hW1⟩:∃W1,((w.alloc (.cells #[.int .i64 n.kind,.int .u64 (n.set.1:Int),.int .u64 (n.set.2.1:Int),.int .u64 (n.set.2.2.1:Int),.int .u64 (n.set.2.2.2:Int),.slice uo n.kids.length uc] 77)).alloc (.cells #[.bool false,.slice none 0 0,.slice none 0 0] 109)).alloc (.cells (boolC (noneB m)).toArray 4)=W1:=⟨_,rfl⟩;(try rw[hW1]);rw[hW1] at HS0;clear hW1 hmk;obtain⟨b,hb⟩:∃b,w.heap.size=b:=⟨_,rfl⟩;(try rw[hb]);rw[hb] at HS0 HX;have HBB:=qh hb;clear hb;obtain⟨⟨c0,c1,c2,c3,c4,c5⟩,_⟩:=HS0.out.1.x.cells;have hbl:=HS0.out.1.x.lt;obtain⟨⟨p0,p1,p2⟩,p3,p4,p5⟩:=HS0.out.1.p.cells;have hpl:=HS0.out.1.p.lt;obtain⟨g,o,cap,ku,kl,kc,hue,hul2,rfl,hnk,hcell⟩:=HS0.out.1.kid HK0.out;injection hue with e1 e2 e3
 subst e1 e3;clear e2;have d0:=hcell 0 _ (by decide) rfl;have d1:=hcell 1 _ (by decide) rfl;have d2:=hcell 2 _ (by decide) rfl;have d3:=hcell 3 _ (by decide) rfl;have d4:=hcell 4 _ (by decide) rfl;have d5:=hcell 5 _ (by decide) rfl;simp only[Nat.zero_mul,Nat.zero_add,Nat.add_zero] at d0 d1 d2 d3 d4 d5;have HA:=qh (HB.out _ _ _ _ _ _ _ _ _ _ HS0.out.1.r (HS0.out.1.newX (by rw[HBB.out];exact HX.out)) hnk HLN.out hm);unfold zG at HA;clear hcell hnk;go_wp2_with fail
 go_fit HA.out;rintro e w2 ⟨sv',fV,lV,rfl,hR,hGo,hf,hl⟩;have h2:=HS0.out.1.go hR hGo;have hsz:=HS0.out.2;have H2:=qh (And.intro h2 (And.intro (hf.mono (own2:=Ju R sv' bv b) fun k _ e=>e.imp id fun e=>by omega) (hl.mono (own2:=Ju R sv' bv b) fun k _ e=>e.imp id fun e=>by omega)));obtain⟨fo,fc,hfv⟩:∃fo fc,fV= .slice fo m fc:=by
  obtain⟨_,gg,cc,hh,_⟩:=hf;exact⟨_,_,hh⟩
 obtain⟨lo,lc,hlv⟩:∃lo lc,lV= .slice lo m lc:=by
  obtain⟨_,gg,cc,hh,_⟩:=hl;exact⟨_,_,hh⟩
 subst hfv hlv;obtain⟨nu,hnu⟩:∃nu,(glN k1 S.length).null=nu:=⟨_,rfl⟩;(try rw[hnu]);clear hR hGo hf hl h2 hsz HA HS0 c0 c1 c2 c3 c4 c5 hbl p0 p1 p2 p3 p4 p5 hpl d0 d1 d2 d3 d4 d5;have hba:=zA w2 (.cells #[.bool nu,.slice fo m fc,.slice lo m lc] 109);have H3:=qh (And.intro (H2.out.1.under hba) (And.intro (H2.out.2.1.under hba) (And.intro (H2.out.2.2.under hba) (box3.new 109 w2 (.bool nu) (.slice fo m fc) (.slice lo m lc)))));clear hba;go_upto_region 33 with (fail)
 obtain⟨W3,hW3⟩:∃W3,w2.alloc (.cells #[.bool nu,.slice fo m fc,.slice lo m lc] 109)=W3:=⟨_,rfl⟩;(try rw[hW3]);rw[hW3] at H3;clear hW3;obtain⟨c,hc⟩:∃c,w2.heap.size=c:=⟨_,rfl⟩;(try rw[hc]);rw[hc] at H3;have HNO:=qh (show ¬zq R sv' bv c from H2.out.1.r.ownlt c (by omega));clear hc H2;obtain⟨⟨q0,q1,q2⟩,_⟩:=H3.out.2.2.2.cells;have HFO:=qh (ya H3.out.1.r (H3.out.2.2.1.mono (own2:=zq R sv' bv) fun k _ e=> .inl e) (H3.out.2.1.mono (own2:=zq R sv' bv) fun k _ e=> .inl e) hm (H3.out.1.newX (by rw[HBB.out];exact HX.out)));go_wp2_with fail
 go_fit HFO.out;rintro e w4 ⟨rfl,hR,hGo⟩;have H4:=qh (And.intro (H3.out.1.go hR hGo) (And.intro (H3.out.2.1.go1 hGo) (And.intro (H3.out.2.2.1.go1 hGo) (H3.out.2.2.2.go HNO.out hGo).1)));clear hR hGo HFO q0 q1 q2 H3;obtain⟨⟨c0,c1,c2,c3,c4,c5⟩,_⟩:=H4.out.1.x.cells;have hbl:=H4.out.1.x.lt;obtain⟨⟨p0,p1,p2⟩,p3,p4,p5⟩:=H4.out.1.p.cells;have hpl:=H4.out.1.p.lt;obtain⟨⟨q0,q1,q2⟩,_⟩:=H4.out.2.2.2.cells;have HF:=qh (H4.out.1.fin (z:=(nu||false)) H4.out.2.1 H4.out.2.2.1);obtain⟨⟨y0,y1,y2⟩,_⟩:=HF.out.1.cells;unfold setP at y0 y1 y2 HF;have HNU:=qh hnu;clear hnu;rcases nu with _ | _
 ·simp only[Bool.false_or] at y0 y1 y2 HF;go_wp2_with fail
  exact bodyPost_ret (v:= .agg #[.bool false,.slice fo m fc,.slice lo m lc]) (by simp[results,Tryz.results49,go_sem,y0,y1,y2]) rfl (by
   have h1:=jS (E:=E) (g:=loopG false (glN k1 S.length)) HG.out.1 HG.out.2 (HF.out.2.1.congr fun i _ j _=>by simp[xu,loopG,zm,Bool.or_assoc]) HF.out.2.2.1 HF.out.2.2.2.1 HF.out.2.2.2.2;rw[show (loopG false (glN k1 S.length)).null=false by simp[loopG,HNU.out]] at h1;exact h1)
 ·simp only[Bool.true_or] at y0 y1 y2 HF;go_wp2_with fail
  exact bodyPost_ret (v:= .agg #[.bool true,.slice fo m fc,.slice lo m lc]) (by simp[results,Tryz.results49,go_sem,y0,y1,y2]) rfl (by
   have h1:=jS (E:=E) (g:=loopG false (glN k1 S.length)) HG.out.1 HG.out.2 (HF.out.2.1.congr fun i _ j _=>by simp[xu,loopG,zm,Bool.or_assoc]) HF.out.2.2.1 HF.out.2.2.2.1 HF.out.2.2.2.2;rw[show (loopG false (glN k1 S.length)).null=true by simp[loopG,HNU.out]] at h1;exact h1)
set_option maxRecDepth 4000 in
theorem KB (hk:n.kind=6) (k1:Nd) (hks:n.kids= [k1]) (hB:zG3 k1) (hr:qF X w R sv bv lv S m E) (hX:∀k,w.heap.size≤k→¬X k) (hx:zV (fun k=>¬zq R sv bv k) w n x) (hlen:0<S.length∧S.length+(zU n).length≤m) (hm:m≤100000):
  Calls Tryz.prog 49 #[.pointer (some ⟨R,0,none⟩),x,.int .i64 (m:Int)] w fun e w'=>zDE X R sv bv lv S m E n w w' e:=by
 obtain⟨hs,u,rfl,hu⟩:=hx;obtain⟨uo,uc,rfl,hul,hub⟩:=hu.form;have HS0:=qh (LayF.start hr hu (by omega));have hmk:=fun W=>yr m (by omega) W;have HG:Hid (glN n S.length=ZE (glN k1 S.length)∧S++zU n=S++zU k1):=qh ⟨by rw[ZK,if_neg (by rw[hk];decide),if_neg (by rw[hk];decide),if_neg (by rw[hk];decide),if_neg (by rw[hk];decide),if_neg (by rw[hk];decide),if_pos hk,hks,Vc],by rw[qW n (by rw[hk];decide),hks,zL,zL,List.append_nil]⟩;have hk14:(n.kind==4)=false:=by rw[hk];rfl
 have HK0:Hid (n.kids[0]? =some k1):=qh (by rw[hks];rfl);have HLN:Hid (0<S.length∧S.length+(zU k1).length≤m):=qh (by
  have h1:=congrArg List.length HG.out.2;rw[List.length_append,List.length_append] at h1;omega)
 have hlk:0<n.kids.length:=by rw[hks];simp
 have hlki:(0:Int)<(n.kids.length:Int):=by omega
 have hk1:(n.kind==1)=false:=by rw[hk];rfl
 have hk2:(n.kind==2)=false:=by rw[hk];rfl
 have hk3:(n.kind==3)=false:=by rw[hk];rfl
 have hk4:(n.kind==4)=false:=by rw[hk];rfl
 have hk5:(n.kind==5)=false:=by rw[hk];rfl
 have hk6:(n.kind==6)=true:=by rw[hk];rfl
 have HB:=qh hB;clear hk hks hB hlen;unfold zG;have HX:=qh hX;clear hr hu hX;go_enter Tryz.func49,Tryz.ntmps49;go_upto_region 2 with (fail)
 obtain⟨W1,hW1⟩:∃W1,((w.alloc (.cells #[.int .i64 n.kind,.int .u64 (n.set.1:Int),.int .u64 (n.set.2.1:Int),.int .u64 (n.set.2.2.1:Int),.int .u64 (n.set.2.2.2:Int),.slice uo n.kids.length uc] 77)).alloc (.cells #[.bool false,.slice none 0 0,.slice none 0 0] 109)).alloc (.cells (boolC (noneB m)).toArray 4)=W1:=⟨_,rfl⟩;(try rw[hW1]);rw[hW1] at HS0;clear hW1 hmk;obtain⟨b,hb⟩:∃b,w.heap.size=b:=⟨_,rfl⟩;(try rw[hb]);rw[hb] at HS0 HX;have HBB:=qh hb;clear hb;obtain⟨⟨c0,c1,c2,c3,c4,c5⟩,_⟩:=HS0.out.1.x.cells;have hbl:=HS0.out.1.x.lt;obtain⟨⟨p0,p1,p2⟩,p3,p4,p5⟩:=HS0.out.1.p.cells;have hpl:=HS0.out.1.p.lt;obtain⟨g,o,cap,ku,kl,kc,hue,hul2,rfl,hnk,hcell⟩:=HS0.out.1.kid HK0.out;injection hue with e1 e2 e3
 subst e1 e3;clear e2;have d0:=hcell 0 _ (by decide) rfl;have d1:=hcell 1 _ (by decide) rfl;have d2:=hcell 2 _ (by decide) rfl;have d3:=hcell 3 _ (by decide) rfl;have d4:=hcell 4 _ (by decide) rfl;have d5:=hcell 5 _ (by decide) rfl;simp only[Nat.zero_mul,Nat.zero_add,Nat.add_zero] at d0 d1 d2 d3 d4 d5;have HA:=qh (HB.out _ _ _ _ _ _ _ _ _ _ HS0.out.1.r (HS0.out.1.newX (by rw[HBB.out];exact HX.out)) hnk HLN.out hm);unfold zG at HA;clear hcell hnk;go_wp2_with fail
 go_fit HA.out;rintro e w2 ⟨sv',fV,lV,rfl,hR,hGo,hf,hl⟩;have h2:=HS0.out.1.go hR hGo;have hsz:=HS0.out.2;have H2:=qh (And.intro h2 (And.intro (hf.mono (own2:=Ju R sv' bv b) fun k _ e=>e.imp id fun e=>by omega) (hl.mono (own2:=Ju R sv' bv b) fun k _ e=>e.imp id fun e=>by omega)));obtain⟨fo,fc,hfv⟩:∃fo fc,fV= .slice fo m fc:=by
  obtain⟨_,gg,cc,hh,_⟩:=hf;exact⟨_,_,hh⟩
 obtain⟨lo,lc,hlv⟩:∃lo lc,lV= .slice lo m lc:=by
  obtain⟨_,gg,cc,hh,_⟩:=hl;exact⟨_,_,hh⟩
 subst hfv hlv;obtain⟨nu,hnu⟩:∃nu,(glN k1 S.length).null=nu:=⟨_,rfl⟩;(try rw[hnu]);clear hR hGo hf hl h2 hsz HA HS0 c0 c1 c2 c3 c4 c5 hbl p0 p1 p2 p3 p4 p5 hpl d0 d1 d2 d3 d4 d5;have hba:=zA w2 (.cells #[.bool nu,.slice fo m fc,.slice lo m lc] 109);have H3:=qh (And.intro (H2.out.1.under hba) (And.intro (H2.out.2.1.under hba) (And.intro (H2.out.2.2.under hba) (box3.new 109 w2 (.bool nu) (.slice fo m fc) (.slice lo m lc)))));clear hba;obtain⟨⟨q0,q1,q2⟩,_⟩:=H3.out.2.2.2.cells;obtain⟨⟨p0,p1,p2⟩,p3,p4,p5⟩:=H3.out.1.p.cells;have hpl:=H3.out.1.p.lt;have HF:=qh (H3.out.1.fin (z:=true) H3.out.2.1 H3.out.2.2.1);obtain⟨⟨y0,y1,y2⟩,_⟩:=HF.out.1.cells;unfold setP at y0 y1 y2 HF;clear H2 hnu;go_wp2_with fail
 exact bodyPost_ret (v:= .agg #[.bool true,.slice fo m fc,.slice lo m lc]) (by simp[results,Tryz.results49,go_sem,y0,y1,y2]) rfl (jS (g:=ZE (glN k1 S.length)) HG.out.1 HG.out.2 (HF.out.2.1.congr fun i _ j _=>by simp[xu,ZE]) HF.out.2.2.1 HF.out.2.2.2.1 HF.out.2.2.2.2)
end
end Go.Proofs.YtjeomlickkpebaaGreatDoor
