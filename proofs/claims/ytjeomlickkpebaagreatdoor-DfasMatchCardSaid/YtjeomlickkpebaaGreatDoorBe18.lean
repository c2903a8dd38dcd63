/-
  limnerref11.lay: what it comes to, of a node whose kids stand one behind the other, where it does as it should with each.
-/
import Derived.Deep.CutRange
import Derived.Deep.CutBlock
import Derived.Test.YtjeomlickkpebaaGreatDoorBe2
import Derived.Test.YtjeomlickkpebaaGreatDoorBe15
namespace Go.Proofs.YtjeomlickkpebaaGreatDoor
open Go.RowKit
section
variable {X:Nat→Prop} {w:World} {R m:Nat} {sv bv lv x:Value} {S:List St4} {E:Nat→Nat→Bool} {n:Nd}
set_option maxRecDepth 4000 in
set_option maxHeartbeats 8000000 in
theorem rlay_cat (hk:n.kind=2) (hB:∀k,k∈n.kids→LayW k) (hr:RulW X w R sv bv lv S m E) (hX:∀k,w.heap.size≤k→¬X k) (hx:NodeW (fun k=>¬OwnR R sv bv k) w n x) (hlen:0<S.length∧S.length+(setsN n).length≤m) (hm:m≤100000):
  Calls Tryz.prog 49 #[.pointer (some ⟨R,0,none⟩),x,.int .i64 (m:Int)] w fun e w'=>LayP X R sv bv lv S m E n w w' e:=by
 obtain⟨hs,u,rfl,hu⟩:=hx;obtain⟨uo,uc,rfl,hul,hub⟩:=hu.form;have HS0:=qh (LayF.start hr hu (by omega));have hmk:=fun W=>nmake m (by omega) W;have HG:Hid (glN n S.length=catG n.kids S.length emptyG∧S++setsN n=S++setsL n.kids):=qh ⟨by rw[glN_eq,if_neg (by rw[hk];decide),if_pos hk],by rw[setsN_kids n (by rw[hk];decide)]⟩;have hk1:(n.kind==1)=false:=by rw[hk];rfl
 have hk2:(n.kind==2)=true:=by rw[hk];rfl
 have HLN:Hid (0<S.length∧S.length+(setsL n.kids).length≤m):=qh (by
  have h1:=congrArg List.length HG.out.2;rw[List.length_append,List.length_append] at h1;omega)
 have HB:=qh hB;obtain⟨nl,hnl⟩:∃nl,n.kids.length=nl:=⟨_,rfl⟩;have HN:=qh hnl;rw[hnl] at hul hub HS0 ⊢;have hnb:(nl:Int)≤9223372036854775807:=by omega
 clear hk hB hlen hnl;unfold nodeV;have HX:=qh hX;clear hr hu hX;go_enter Tryz.func49,Tryz.ntmps49;go_upto_region 2 with (fail)
 obtain⟨W1,hW1⟩:∃W1,((w.alloc (.cells #[.int .i64 n.kind,.int .u64 (n.set.1:Int),.int .u64 (n.set.2.1:Int),.int .u64 (n.set.2.2.1:Int),.int .u64 (n.set.2.2.2:Int),.slice uo nl uc] 77)).alloc (.cells #[.bool false,.slice none 0 0,.slice none 0 0] 109)).alloc (.cells (boolC (noneB m)).toArray 4)=W1:=⟨_,rfl⟩;(try rw[hW1]);rw[hW1] at HS0;clear hW1 hmk;obtain⟨b,hb⟩:∃b,w.heap.size=b:=⟨_,rfl⟩;(try rw[hb]);rw[hb] at HS0 HX;have HBB:=qh hb;clear hb;obtain⟨⟨c0,c1,c2,c3,c4,c5⟩,_⟩:=HS0.out.1.x.cells;have hbl:=HS0.out.1.x.lt;obtain⟨⟨p0,p1,p2⟩,p3,p4,p5⟩:=HS0.out.1.p.cells;have hpl:=HS0.out.1.p.lt;go_upto_region 10 with (fail)
 have hsz:=HS0.out.2;have hba:=alloc_under W1 (.cells #[.bool true,.slice (some ⟨b+1+1,0,none⟩) m m,.slice (some ⟨b+1+1,0,none⟩) m m] 109);have hbx:=box3.new 109 W1 (.bool true) (.slice (some ⟨b+1+1,0,none⟩) m m) (.slice (some ⟨b+1+1,0,none⟩) m m);have hnoc:=HS0.out.1.r.ownlt W1.heap.size (Nat.le_refl _);rw[←hsz] at hbx hnoc;have H1:Hid (∃(sw fV lV:Value),PaI X w (W1.alloc (.cells #[.bool true,.slice (some ⟨b+1+1,0,none⟩) m m,.slice (some ⟨b+1+1,0,none⟩) m m] 109)) R sv sw bv lv (S++setsL (n.kids.take 0)) m (orF2 E (catG (n.kids.take 0) S.length emptyG).fol) b n (.slice uo nl uc) (catG (n.kids.take 0) S.length emptyG).null fV lV (catG (n.kids.take 0) S.length emptyG).first (catG (n.kids.take 0) S.length emptyG).last):=by
  refine qh ⟨sv,.slice (some ⟨b+1+1,0,none⟩) m m,.slice (some ⟨b+1+1,0,none⟩) m m,?_⟩;rw[List.take_zero,setsL,List.append_nil,catG];exact PaI.congr ⟨HS0.out.1.more hsz.symm hba,hbx,HS0.out.1.nrow.under hba,HS0.out.1.nrow.under hba,hnoc⟩ fun i j=>by simp[orF2,emptyG,noF2]
 obtain⟨W2,hW2⟩:∃W2,W1.alloc (.cells #[.bool true,.slice (some ⟨b+1+1,0,none⟩) m m,.slice (some ⟨b+1+1,0,none⟩) m m] 109)=W2:=⟨_,rfl⟩;rw[hW2] at H1;(try rw[hW2]);rw[←hsz];clear hba hbx hnoc hW2 hsz c0 c1 c2 c3 c4 c5 hbl p0 p1 p2 p3 p4 p5 hpl HS0;go_wp2_with fail
 go_loopw [10] (fun s10 wr=>∃i:Nat,s10= .int .i64 (i:Int)∧i≤nl∧Hid (∃(sw fV lV:Value),PaI X w wr R sv sw bv lv (S++setsL (n.kids.take i)) m (orF2 E (catG (n.kids.take i) S.length emptyG).fol) b n (.slice uo nl uc) (catG (n.kids.take i) S.length emptyG).null fV lV (catG (n.kids.take i) S.length emptyG).first (catG (n.kids.take i) S.length emptyG).last)) (fun s10 _=>nl-(intOf s10).toNat)
 case atStart=>exact⟨0,rfl,Nat.zero_le _,H1⟩
 case round=>
  obtain⟨i,rfl,hi,HX0⟩:=hrel;clear H1;obtain⟨sw,fV,lV,hQ⟩:=HX0.out;have HQ:=qh hQ;clear HX0 hQ;have i0:(0:Int)≤(i:Int):=by omega
  obtain⟨⟨c0,c1,c2,c3,c4,c5⟩,_⟩:=HQ.out.l.x.cells;have hbl:=HQ.out.l.x.lt;by_cases hlt:i<nl
  ·have hli:(i:Int)<(nl:Int):=(by omega);have hla:i<n.kids.length:=(by have:=HN.out;omega);obtain⟨k1,hk⟩:∃k1,n.kids[i]=k1:=⟨_,rfl⟩;have hil:n.kids[i]? =some k1:=(by rw[List.getElem?_eq_getElem hla,hk]);obtain⟨g,o,cap,ku,kl,kc,hue,_,rfl,hnk,hcell⟩:=HQ.out.l.kid hil;injection hue with e1 e2 e3
   subst e1 e3;clear e2;have d0:=hcell 0 _ (by decide) rfl;have d1:=hcell 1 _ (by decide) rfl;have d2:=hcell 2 _ (by decide) rfl;have d3:=hcell 3 _ (by decide) rfl;have d4:=hcell 4 _ (by decide) rfl;have d5:=hcell 5 _ (by decide) rfl;simp only[Nat.add_zero,←Nat.add_assoc] at d0 d1 d2 d3 d4 d5;have hsn:=setsL_snoc hil;have hle:=setsL_take_le n.kids (i+1);have HA:=qh (HB.out k1 (List.mem_of_getElem? hil) _ _ _ _ _ _ _ _ _ _ HQ.out.l.r (HQ.out.new3 (by rw[HBB.out];exact HX.out)) hnk (by
    have h1:=HLN.out;rw[hsn,List.length_append] at hle;rw[List.length_append];omega) hm)
   have HGS:Hid (catG (n.kids.take (i+1)) S.length emptyG=seqG (catG (n.kids.take i) S.length emptyG) (glN k1 (S++setsL (n.kids.take i)).length)∧S++setsL (n.kids.take (i+1))=(S++setsL (n.kids.take i))++setsN k1):=qh ⟨by rw[List.take_add_one,hil,List.length_append];exact catG_snoc _ _ _ _,by rw[hsn,List.append_assoc]⟩;obtain⟨S1,hS1⟩:∃S1,S++setsL (n.kids.take i)=S1:=⟨_,rfl⟩;obtain⟨G1,hG1⟩:∃G1,catG (n.kids.take i) S.length emptyG=G1:=⟨_,rfl⟩;rw[hS1] at HA HGS HQ;rw[hG1] at HA HGS HQ;obtain⟨G2,hG2⟩:∃G2,glN k1 S1.length=G2:=⟨_,rfl⟩;rw[hG2] at HGS;unfold nodeV at HA;have HGE:=qh hG2;clear hcell hnk hil hla hk hsn hle hS1 hG1 hG2;go_wp2_with fail
   go_fit HA.out;rintro e w2 ⟨sx,kf,kla,he,hR,hGo,hf,hl⟩;rw[HGE.out] at he hR hf hl;subst he;have h2:=HQ.out.go hR hGo;have H2:=qh (And.intro h2 (And.intro (rows_of HQ.out hf) (rows_of HQ.out hl)));obtain⟨fo,fc,rfl⟩:=bol_form hf;obtain⟨lo,lc,rfl⟩:=bol_form hl;clear hR hGo hf hl h2 HA HQ c0 c1 c2 c3 c4 c5 hbl d0 d1 d2 d3 d4 d5;go_upto_region 14 with (fail)
   have hba:=alloc_under w2 (.cells #[.bool G2.null,.slice fo m fc,.slice lo m lc] 109);have H3:=qh (And.intro (H2.out.1.under hba) (KiI.new (kz:=G2.null) H2.out.1 H2.out.2.1 H2.out.2.2));obtain⟨W3,hW3⟩:∃W3,w2.alloc (.cells #[.bool G2.null,.slice fo m fc,.slice lo m lc] 109)=W3:=⟨_,rfl⟩;rw[hW3] at H3;(try rw[hW3]);obtain⟨c,hc⟩:∃c,w2.heap.size=c:=⟨_,rfl⟩;rw[hc] at H3;(try rw[hc]);clear hba hW3 hc H2;obtain⟨vo,vc,hfV⟩:=bol_form H3.out.1.f;obtain⟨zo,zc,hlV⟩:=bol_form H3.out.1.la;subst hfV hlV;have HFO:=qh (rfollow_any H3.out.1.l.r (H3.out.1.la.mono (own2:=OwnR R sx bv) fun _ _ e=> .inl e) (H3.out.2.f.mono (own2:=OwnR R sx bv) fun _ _ e=> .inl e) hm (H3.out.1.new3 (by rw[HBB.out];exact HX.out)));obtain⟨⟨⟨x0,x1,x2⟩,f0,f1,f2⟩,hxl⟩:=H3.out.1.cells;obtain⟨⟨q0,q1,q2⟩,hql⟩:=H3.out.2.cells;go_wp2_with fail
   go_fit HFO.out;rintro e w4 ⟨rfl,hR,hGo⟩;have H4:=qh (And.intro (H3.out.1.go hR hGo) (H3.out.2.go hGo));clear hR hGo HFO H3 x0 x1 x2 f0 f1 f2 hxl q0 q1 q2 hql;obtain⟨⟨⟨x0,x1,x2⟩,f0,f1,f2⟩,hxl⟩:=H4.out.1.cells;obtain⟨⟨q0,q1,q2⟩,hql⟩:=H4.out.2.cells;obtain⟨pn,hpn⟩:∃pn,G1.null=pn:=⟨_,rfl⟩;obtain⟨kn,hkn⟩:∃kn,G2.null=kn:=⟨_,rfl⟩;rw[hpn] at H4 x0;rw[hkn] at H4 q0;have HPN:=qh (And.intro hpn hkn);clear hpn hkn;rcases pn with _ | _
   ·rcases kn with _ | _
    ·have H8:=qh (And.intro (H4.out.1.set2 H4.out.2.la) (H4.out.2.store (i:=2) (y:= .slice lo m lc)));go_upto_region 20 with (fail)
     obtain⟨W8,hW8⟩:∃W8,w4.setCell ⟨b+3,2,none⟩ (.slice lo m lc)=W8:=⟨_,rfl⟩;rw[hW8] at H8;(try rw[hW8]);clear hW8 H4;clear x0 x1 x2 f0 f1 f2 hxl q0 q1 q2 hql;obtain⟨⟨⟨x0,x1,x2⟩,f0,f1,f2⟩,hxl⟩:=H8.out.1.cells;obtain⟨⟨q0,q1,q2⟩,hql⟩:=H8.out.2.cells;have H9:=qh (H8.out.1.set0 false);have HT:Hid (seqG G1 G2=⟨false,G1.first,G2.last,crossF (orF2 G1.fol G2.fol) G1.last G2.first⟩):=qh (by unfold seqG;rw[HPN.out.1,HPN.out.2];rfl);go_wp2_with fail
     go_roundw
     case rel=>
      refine⟨i+1,by go_num,hlt,?_⟩;rw[HGS.out.1,HGS.out.2,HT.out];exact qh ⟨sx,_,_,H9.out.congr fun i j=>by simp[orF2,crossF,Bool.or_assoc]⟩
     case measure=>simp[intOf]<;>omega
    ·have HO2:=qh (por_any H4.out.1 H4.out.1.la H4.out.2.la hm);go_wp2_with fail
     go_fit HO2.out;rintro e w7 ⟨Gb,rfl,hO,hb7⟩;have H7:=qh (And.intro (H4.out.1.under hb7) (And.intro (H4.out.2.under hb7) hO));clear hO hb7 HO2 H4;clear x0 x1 x2 f0 f1 f2 hxl q0 q1 q2 hql;have H8:=qh (And.intro (H7.out.1.set2 H7.out.2.2) (H7.out.2.1.store (i:=2) (y:= .slice (some ⟨Gb,0,none⟩) m m)));obtain⟨⟨⟨x0,x1,x2⟩,f0,f1,f2⟩,hxl⟩:=H7.out.1.cells;go_upto_region 20 with (fail)
     obtain⟨W8,hW8⟩:∃W8,w7.setCell ⟨b+3,2,none⟩ (.slice (some ⟨Gb,0,none⟩) m m)=W8:=⟨_,rfl⟩;rw[hW8] at H8;(try rw[hW8]);clear hW8 H7 x0 x1 x2 f0 f1 f2 hxl;obtain⟨⟨⟨x0,x1,x2⟩,f0,f1,f2⟩,hxl⟩:=H8.out.1.cells;obtain⟨⟨q0,q1,q2⟩,hql⟩:=H8.out.2.cells;have H9:=qh (H8.out.1.set0 false);have HT:Hid (seqG G1 G2=⟨false,G1.first,orF G1.last G2.last,crossF (orF2 G1.fol G2.fol) G1.last G2.first⟩):=qh (by unfold seqG;rw[HPN.out.1,HPN.out.2];rfl);go_wp2_with fail
     go_roundw
     case rel=>
      refine⟨i+1,by go_num,hlt,?_⟩;rw[HGS.out.1,HGS.out.2,HT.out];exact qh ⟨sx,_,_,H9.out.congr fun i j=>by simp[orF2,crossF,Bool.or_assoc]⟩
     case measure=>simp[intOf]<;>omega
   ·rcases kn with _ | _
    ·have HO1:=qh (por_any H4.out.1 H4.out.1.f H4.out.2.f hm);go_wp2_with fail
     go_fit HO1.out;rintro e w5 ⟨Ga,rfl,hO,hb5⟩;have H5:=qh (And.intro (H4.out.1.under hb5) (And.intro (H4.out.2.under hb5) hO));clear hO hb5 HO1 H4;clear x0 x1 x2 f0 f1 f2 hxl q0 q1 q2 hql;have H6:=qh (And.intro (H5.out.1.set1 H5.out.2.2) (H5.out.2.1.store (i:=1) (y:= .slice (some ⟨Ga,0,none⟩) m m)));obtain⟨⟨⟨x0,x1,x2⟩,f0,f1,f2⟩,hxl⟩:=H5.out.1.cells;go_upto_region 17 with (fail)
     obtain⟨W6,hW6⟩:∃W6,w5.setCell ⟨b+3,1,none⟩ (.slice (some ⟨Ga,0,none⟩) m m)=W6:=⟨_,rfl⟩;rw[hW6] at H6;(try rw[hW6]);clear hW6 H5 x0 x1 x2 f0 f1 f2 hxl;obtain⟨⟨⟨x0,x1,x2⟩,f0,f1,f2⟩,hxl⟩:=H6.out.1.cells;obtain⟨⟨q0,q1,q2⟩,hql⟩:=H6.out.2.cells;have H8:=qh (And.intro (H6.out.1.set2 H6.out.2.la) (H6.out.2.store (i:=2) (y:= .slice lo m lc)));go_upto_region 20 with (fail)
     obtain⟨W8,hW8⟩:∃W8,W6.setCell ⟨b+3,2,none⟩ (.slice lo m lc)=W8:=⟨_,rfl⟩;rw[hW8] at H8;(try rw[hW8]);clear hW8 H6;clear x0 x1 x2 f0 f1 f2 hxl q0 q1 q2 hql;obtain⟨⟨⟨x0,x1,x2⟩,f0,f1,f2⟩,hxl⟩:=H8.out.1.cells;obtain⟨⟨q0,q1,q2⟩,hql⟩:=H8.out.2.cells;have H9:=qh (H8.out.1.set0 false);have HT:Hid (seqG G1 G2=⟨false,orF G1.first G2.first,G2.last,crossF (orF2 G1.fol G2.fol) G1.last G2.first⟩):=qh (by unfold seqG;rw[HPN.out.1,HPN.out.2];rfl);go_wp2_with fail
     go_roundw
     case rel=>
      refine⟨i+1,by go_num,hlt,?_⟩;rw[HGS.out.1,HGS.out.2,HT.out];exact qh ⟨sx,_,_,H9.out.congr fun i j=>by simp[orF2,crossF,Bool.or_assoc]⟩
     case measure=>simp[intOf]<;>omega
    ·have HO1:=qh (por_any H4.out.1 H4.out.1.f H4.out.2.f hm);go_wp2_with fail
     go_fit HO1.out;rintro e w5 ⟨Ga,rfl,hO,hb5⟩;have H5:=qh (And.intro (H4.out.1.under hb5) (And.intro (H4.out.2.under hb5) hO));clear hO hb5 HO1 H4;clear x0 x1 x2 f0 f1 f2 hxl q0 q1 q2 hql;have H6:=qh (And.intro (H5.out.1.set1 H5.out.2.2) (H5.out.2.1.store (i:=1) (y:= .slice (some ⟨Ga,0,none⟩) m m)));obtain⟨⟨⟨x0,x1,x2⟩,f0,f1,f2⟩,hxl⟩:=H5.out.1.cells;go_upto_region 17 with (fail)
     obtain⟨W6,hW6⟩:∃W6,w5.setCell ⟨b+3,1,none⟩ (.slice (some ⟨Ga,0,none⟩) m m)=W6:=⟨_,rfl⟩;rw[hW6] at H6;(try rw[hW6]);clear hW6 H5 x0 x1 x2 f0 f1 f2 hxl;obtain⟨⟨⟨x0,x1,x2⟩,f0,f1,f2⟩,hxl⟩:=H6.out.1.cells;obtain⟨⟨q0,q1,q2⟩,hql⟩:=H6.out.2.cells;have HO2:=qh (por_any H6.out.1 H6.out.1.la H6.out.2.la hm);go_wp2_with fail
     go_fit HO2.out;rintro e w7 ⟨Gb,rfl,hO,hb7⟩;have H7:=qh (And.intro (H6.out.1.under hb7) (And.intro (H6.out.2.under hb7) hO));clear hO hb7 HO2 H6;clear x0 x1 x2 f0 f1 f2 hxl q0 q1 q2 hql;have H8:=qh (And.intro (H7.out.1.set2 H7.out.2.2) (H7.out.2.1.store (i:=2) (y:= .slice (some ⟨Gb,0,none⟩) m m)));obtain⟨⟨⟨x0,x1,x2⟩,f0,f1,f2⟩,hxl⟩:=H7.out.1.cells;go_upto_region 20 with (fail)
     obtain⟨W8,hW8⟩:∃W8,w7.setCell ⟨b+3,2,none⟩ (.slice (some ⟨Gb,0,none⟩) m m)=W8:=⟨_,rfl⟩;rw[hW8] at H8;(try rw[hW8]);clear hW8 H7 x0 x1 x2 f0 f1 f2 hxl;obtain⟨⟨⟨x0,x1,x2⟩,f0,f1,f2⟩,hxl⟩:=H8.out.1.cells;obtain⟨⟨q0,q1,q2⟩,hql⟩:=H8.out.2.cells;have H9:=qh (H8.out.1.set0 true);have HT:Hid (seqG G1 G2=⟨true,orF G1.first G2.first,orF G1.last G2.last,crossF (orF2 G1.fol G2.fol) G1.last G2.first⟩):=qh (by unfold seqG;rw[HPN.out.1,HPN.out.2];rfl);go_wp2_with fail
     go_roundw
     case rel=>
      refine⟨i+1,by go_num,hlt,?_⟩;rw[HGS.out.1,HGS.out.2,HT.out];exact qh ⟨sx,_,_,H9.out.congr fun i j=>by simp[orF2,crossF,Bool.or_assoc]⟩
     case measure=>simp[intOf]<;>omega
  ·have hli:¬(i:Int)<(nl:Int):=(by omega);have hall:n.kids.take i=n.kids:=List.take_of_length_le (by have:=HN.out;omega);rw[hall] at HQ;obtain⟨G1,hG1⟩:∃G1,catG n.kids S.length emptyG=G1:=⟨_,rfl⟩;rw[hG1] at HQ HG;obtain⟨⟨⟨x0,x1,x2⟩,f0,f1,f2⟩,hxl⟩:=HQ.out.cells;obtain⟨⟨p0,p1,p2⟩,p3,p4,p5⟩:=HQ.out.l.p.cells;have hpl:=HQ.out.l.p.lt;obtain⟨vo,vc,hfV⟩:=bol_form HQ.out.f;obtain⟨zo,zc,hlV⟩:=bol_form HQ.out.la;subst hfV hlV;have HF:=qh (HQ.out.l.lessC.fin (z:=G1.null) HQ.out.f.acc1 HQ.out.la.acc1);obtain⟨⟨y0,y1,y2⟩,_⟩:=HF.out.1.cells;unfold setP at y0 y1 y2 HF;clear hall hG1;go_wp2_with fail
   exact bodyPost_ret (v:= .agg #[.bool G1.null,.slice vo m vc,.slice zo m zc]) (by simp[results,Tryz.results49,go_sem,y0,y1,y2]) rfl (layP_mk HG.out.1 HG.out.2 HF.out.2.1 HF.out.2.2.1 HF.out.2.2.2.1 HF.out.2.2.2.2)
end
end Go.Proofs.YtjeomlickkpebaaGreatDoor
