/-
  dfas.partingBy: what it returns, and leaves.
-/
import Derived.Test.YtjeomlickkpebaaGreatDoorBe35
namespace Go.Proofs.YtjeomlickkpebaaGreatDoor
open Go.RowKit
section
variable {c:Col} {w:World} {n RU:Nat} {ru:Nat→Int}
def zJ8 (c:Col) (w w':World) (n:Nat) (ru:Nat→Int) (e:Ending):Prop:=
 ∃U S P O cs bv Bs st pl ob c',e= .returned (.pointer (some ⟨U,0,none⟩))∧StepC (fun a=>a=1) c c' w w'∧PtC c' w' U S P O cs bv n Bs st pl ob∧yx n Bs st pl ob∧(∀y,y<n→¬MkP Bs pl ob y)∧∀y z,y<n→z<n→(ob y=ob z↔ru y=ru z)
def GrW (c:Col) (w wr:World) (U S P O cs n RB RU:Nat) (ru:Nat→Int) (st:Nat→Nat) (k:Nat):Prop:=
 ∃c' bv Bs pl ob,StepC (fun a=>a=1) c c' w wr∧PtC c' wr U S P O cs bv n Bs st pl ob∧zC7 n ru st k Bs pl ob∧BxC c' wr RB RU n ru
def zHL (c:Col) (w wr:World) (U S P O cs n RB RU:Nat) (ru:Nat→Int) (st:Nat→Nat) (k jl f:Nat):Prop:=
 ∃c' bv Bs pl ob,StepC (fun a=>a=1) c c' w wr∧PtC c' wr U S P O cs bv n Bs st pl ob∧Bs.length=jl+1∧Bs[jl]? =some (f,k,0)∧zC7 n ru st (k+1) (Bs.set jl (f,k+1,0)) (updN pl (st k) k) (updN ob (st k) jl)∧BxC c' wr RB RU n ru
theorem GrW.drewN {wr:World} {U S P O cs RB k:Nat} {st:Nat→Nat} (h:GrW c w wr U S P O cs n RB RU ru st k) (q:Nat):GrW c w (wr.drewN q) U S P O cs n RB RU ru st k:=by
 obtain⟨c',bv,Bs,pl,ob,h1,h2,h3,h4⟩:=h;exact⟨c',bv,Bs,pl,ob,h1.trans (zk h2.fresh q),h2.drewN q,h3,h4.step (zk h2.fresh q) (by decide)⟩
set_option maxRecDepth 8000 in
set_option maxHeartbeats 8000000 in
theorem KV (hf:xA c w) (hr:ArrF w RU n ru) (hcr:c RU=0) (hlow:∀i,i<n→ -100000≤ru i∧ru i≤100000) (h0:0<n) (hn:n≤100000) (hc3:∀k,k<w.heap.size→c k≠3):
  Calls Tryz.prog 58 #[.slice (some ⟨RU,0,none⟩) n n] w fun e w'=>zJ8 c w w' n ru e:=by
 have hba:=zA w (.cells #[.slice (some ⟨RU,0,none⟩) n n] 39);have hsz:=zC w (.cells #[.slice (some ⟨RU,0,none⟩) n n] 39);have hbx:(w.alloc (.cells #[.slice (some ⟨RU,0,none⟩) n n] 39)).cell? ⟨w.heap.size,0,none⟩=some (.slice (some ⟨RU,0,none⟩) n n):=by rw[cell_of_row _ _ _ _ _ (0,0) (heap_alloc_new w _)];rfl
 have n0:(0:Int)≤(n:Int):=by omega
 have n1:(n:Int)≤100000:=by omega
 have HF:=qh hf;have HR:=qh hr;have HCR:=qh hcr;have HL:=qh hlow;have HC3:=qh hc3;have hmk:=zBO n (by omega);clear hf hr hcr hlow hc3;go_enter Tryz.func58,Tryz.ntmps58;go_upto_region 1 with (fail)
 obtain⟨RB,hRB⟩:∃RB,w.heap.size=RB:=⟨_,rfl⟩;obtain⟨W1,hW1⟩:∃W1,w.alloc (.cells #[.slice (some ⟨RU,0,none⟩) n n] 39)=W1:=⟨_,rfl⟩;rw[hW1] at hba hsz hbx;rw[hRB] at hsz hbx;(try rw[hW1]);(try rw[hRB]);have HB:=qh hba;have HRB:=qh hRB;clear hW1 hba hRB;have kr:=Below.refl W1.heap.size W1;have HS:=qh (fun (W:World) (hb:Below W1.heap.size W1 W)=>(keep_below (fun _=>True) hb).cell hbx trivial);go_region_held3 (fun W=>W.cell? ⟨RB,0,none⟩=some (.slice (some ⟨RU,0,none⟩) n n)) (first | (go_keep;done) | exact HS.out _ ((((kr.alloc (Nat.le_refl _) _).alloc (by rw[zC];omega) _).alloc (by rw[zC,zC];omega) _).drew)) (first | fail)
 all_goals
  generalize hW3:World.drew _=W3;obtain⟨U,hU⟩:∃U,RB+1+1+1=U:=⟨_,rfl⟩;obtain⟨P,O,HPR⟩:∃P O,Hid (∃c' sv,StepC (fun a=>a=1∨a=3) c c' w W3∧Jf c' W3 U P O n 0 sv∧BxC c' W3 RB RU n ru):=by
   have z1:BxC c W1 RB RU n ru:=⟨hbx,HR.out.under HB.out,HF.out RB (by rw[HRB.out];exact Nat.le_refl _),HCR.out⟩;have s1:StepC (fun a=>a=1∨a=3) c c w W1:=StepC.below HF.out HB.out
   first
    | exact⟨RB+1,RB+1+1,qh (by
      obtain⟨c',h1,h2⟩:=J0 (Q:=fun a=>a=1∨a=3) (n:=n) (P:=RB+1) (O:=RB+1+1) s1.fresh hsz (.inl ⟨rfl,rfl⟩);rw[hW3,hU] at h2;rw[hW3] at h1;exact⟨c',_,s1.trans h1,h2,z1.step h1 (by decide)⟩)⟩
    | exact⟨RB+1+1,RB+1,qh (by
      obtain⟨c',h1,h2⟩:=J0 (Q:=fun a=>a=1∨a=3) (n:=n) (P:=RB+1+1) (O:=RB+1) s1.fresh hsz (.inr ⟨rfl,rfl⟩);rw[hW3,hU] at h2;rw[hW3] at h1;exact⟨c',_,s1.trans h1,h2,z1.step h1 (by decide)⟩)⟩
  rw[hU];clear hW3 hmk HS kr hbx hsz hU;obtain⟨c9,sv9,q1,q2,q3⟩:=HPR.out;have hb3:=q3.box;clear q1 q2 q3;go_wp2
  go_loopw [17] (fun s17 wr=>∃k:Nat,s17= .int .i64 (k:Int)∧k≤n∧Hid (∃c' sv,StepC (fun a=>a=1∨a=3) c c' w wr∧Jf c' wr U P O n k sv∧BxC c' wr RB RU n ru)) (fun s17 _=>n-(intOf s17).toNat)
  case atStart=>exact⟨0,rfl,Nat.zero_le _,HPR⟩
  case round=>
   clear HPR;obtain⟨k,rfl,hk,HX⟩:=hrel;have k0:(0:Int)≤(k:Int):=(by omega);obtain⟨c1,sv,y1,y2,y3⟩:=HX.out;have lU:=y2.lt;obtain⟨x0,x1⟩:=y2.cells;by_cases hlt:k<n
   ·have hli:(k:Int)<(n:Int):=(by omega);obtain⟨ao,cp,w2,hrun,r1,r2,r3,HP⟩:=y2.push (by omega);have H2:Hid (∃c' sv,StepC (fun a=>a=1∨a=3) c c' w (w2.setCell ⟨U,0,none⟩ (.slice ao (k+1) cp))∧Jf c' (w2.setCell ⟨U,0,none⟩ (.slice ao (k+1) cp)) U P O n (k+1) sv∧BxC c' (w2.setCell ⟨U,0,none⟩ (.slice ao (k+1) cp)) RB RU n ru):=qh (by
     obtain⟨c2,h1,h2⟩:=HP.out;exact⟨c2,_,y1.trans h1,h2,y3.step h1 (by decide)⟩)
    clear y1 y2 y3 HX HP;go_wp2_with (at_builtin;refine x8 rfl (.tmp 24) (.tmp 26) 39 (by rfl) (by rfl) (by rfl) hrun ?_)
    go_roundw
    case rel=>exact⟨k+1,by go_num,by omega,H2⟩
    case measure=>simp[intOf]<;>omega
   ·have hli:¬(k:Int)<(n:Int):=(by omega);have hkn:k=n:=(by omega);rw[hkn] at y2;obtain⟨S,cap,rfl,cS,z2⟩:=y2.all h0;have hcap:=z2.cap;have y3':BxC (colAt c1 1 S) wr RB RU n ru:=⟨y3.box,y3.row,by unfold colAt;rw[if_neg (fun e=>by have:=y3.c1;rw[e,cS] at this;cases this)];exact y3.c1,by unfold colAt;rw[if_neg (fun e=>by have:=y3.c2;rw[e,cS] at this;cases this)];exact y3.c2⟩;have hRS:RB≠S:=fun e=>(by have:=y3.c1;rw[e,cS] at this;cases this);have hRS2:RU≠S:=fun e=>(by have:=y3.c2;rw[e,cS] at this;cases this);have HSO:=qh (sort_any (cap:=cap) z2.s ⟨y3.box,y3.row,HL.out⟩ hRS hRS2 (fun i hi=>⟨by show (0:Int)≤((i:Nat):Int);omega,by show ((i:Nat):Int)<_;omega⟩) hn);have HZ:Hid (StepC (fun a=>a=1) c (colAt c1 1 S) w wr∧PtC (colAt c1 1 S) wr U S P O cap (.slice none 0 0) n [] (fun i=>i) (fun _=>0) (fun _=>0)∧BxC (colAt c1 1 S) wr RB RU n ru):=qh (by
     refine⟨?_,z2,y3'⟩;have:=y1.narrow3 HC3.out;refine⟨this.keep,fun k hk=> ?_,z2.fresh⟩;unfold colAt;rw[if_neg (fun e=>by have h1:=this.same k hk;rw[e,cS] at h1;exact HC3.out k hk (by rw[e,←h1]))];exact this.same k hk)
    unfold YM at HSO;clear y1 y2 y3 y3' z2 HX;go_wp2_with fail
    go_fit HSO.out;rintro e w4 ⟨rfl,g,g1,g2,g3,g4⟩;obtain⟨st,s1,s2,s3,s4⟩:=zEN g2;have HST:=qh (And.intro s2 (And.intro s3 s4));have HSRT:Hid (∀i j,i<j→j<n→ru (st i)≤ru (st j)):=qh fun i j hij hj=>by
     have:=g3 i j (Nat.zero_le _) hij hj;unfold xC at this;rw[s1,s1,Int.toNat_natCast,Int.toNat_natCast] at this;exact this
    have H4:Hid (GrW c w w4 U S P O cap n RB RU ru st 0):=qh (by
     obtain⟨t1,t2,t3⟩:=HZ.out;have t4:=t2.resort g4 (g1.congr fun i _=>s1 i);have t5:StepC (fun a=>a=1) (colAt c1 1 S) (colAt c1 1 S) wr w4:=⟨g4.mono fun k _ hk e=>hk (by rw[e];exact t2.cS),fun _ _=>rfl,t4.fresh⟩;exact⟨colAt c1 1 S,_,[],_,_,t1.trans t5,t4,zC8,t3.step t5 (by decide)⟩)
    obtain⟨c2,bv2,Bs2,pl2,ob2,t1,t2,t3,t4⟩:=H4.out;have x0':=t2.boxed.1;clear g1 g2 g3 g4 s1 s2 s3 s4 t1 t2 t3 t4 HZ HSO x0 x1 lU;go_wp2_with fail
    go_loopw [42] (fun s42 wr=>∃k:Nat,s42= .int .i64 (k:Int)∧k≤n∧Hid (GrW c w wr U S P O cap n RB RU ru st k)) (fun s42 _=>n-(intOf s42).toNat)
    case atStart=>exact⟨0,rfl,Nat.zero_le _,H4⟩
    case round=>
     clear H4 x0';obtain⟨k,rfl,hk,HX⟩:=hrel;have k0:(0:Int)≤(k:Int):=(by omega);obtain⟨c2,bv2,Bs2,pl2,ob2,t1,t2,t3,t4⟩:=HX.out;by_cases hlt:k<n
     ·have hli:(k:Int)<(n:Int):=(by omega);obtain⟨x0,x1,x2,x3,x4,x5⟩:=t2.boxed;have hxk:=t2.s.cell hlt;obtain⟨x,hx⟩:∃x,st k=x:=⟨_,rfl⟩;have e1:jL st k=(x:Int):=(by unfold jL;rw[hx]);rw[e1] at hxk;have hxn:x<n:=(by rw[←hx];exact HST.out.1 k hlt);have hbx:=t4.box;have hrx:=t4.row.cell hxn;by_cases hk0:k=0
      ·subst hk0;clear t1 t2 t3 t4;go_wp2
       go_quiet (fail)
       generalize hD:wr.drewN _=D0;have HG:Hid (GrW c w D0 U S P O cap n RB RU ru st 0):=qh (by rw[←hD];exact HX.out.drewN _);clear hD HX x0 x1 x2 x3 x4 x5 hxk hbx hrx;obtain⟨c2,bv2,Bs2,pl2,ob2,t1,t2,t3,t4⟩:=HG.out;obtain⟨x0,x1,x2,x3,x4,x5⟩:=t2.boxed;have hba:=zA D0 (.cells #[.int .i64 (0:Nat),.int .i64 (0:Nat),.int .i64 0] 150);have hbz:=box3.new 150 D0 (.int .i64 ((0:Nat):Int)) (.int .i64 ((0:Nat):Int)) (.int .i64 0);obtain⟨ao,cp,w5,hrun,r1,r2,r3,c3,p1,p2⟩:=(t2.under hba).push (X:=D0.heap.size) (b:=(0,0,0)) (fun i u hu=>by
        obtain⟨⟨d0,d1,d2⟩,_⟩:=hbz.cells
        match i,hu with
        | 0,hu=>cases hu;exact d0
        | 1,hu=>cases hu;exact d1
        | 2,hu=>cases hu;exact d2) (by have:=t3.few;omega)
       have H6:Hid (zHL c w (w5.setCell ⟨U,2,none⟩ (.slice ao (Bs2.length+1) cp)) U S P O cap n RB RU ru st 0 Bs2.length 0):=qh (by
        have sA:=(StepC.below (S:=fun a=>a=1) t2.fresh hba).trans p1;refine⟨c3,_,_,pl2,ob2,t1.trans sA,p2,by rw[List.length_append];rfl,by rw[List.getElem?_append_right (Nat.le_refl _),Nat.sub_self];rfl,?_,t4.step sA (by decide)⟩;rw[List.set_append_right _ _ (Nat.le_refl _),Nat.sub_self];exact t3.fresh HST.out.2.1 hlt (fun i hi=>absurd hi (Nat.not_lt_zero _)))
       clear t1 t2 t3 t4 hba hbz p1 p2 HG;go_wp2_with (at_builtin;refine x8 rfl (.tmp 71) (.tmp 75) 130 (by rfl) (by rfl) (by rfl) hrun ?_)
       clear hrun r1 r2 r3 x0 x1 x2 x3 x4 x5;generalize hW6:World.setCell w5 _ _=W6;rw[hW6] at H6;clear hW6;obtain⟨jl,ff,H7⟩:∃jl ff,Hid (zHL c w W6 U S P O cap n RB RU ru st 0 jl ff):=⟨_,_,H6⟩;clear H6;obtain⟨c4,bv4,Bs4,pl4,ob4,u1,u2,u3,u4,u5,u6⟩:=H7.out;have hfew:=u5.few;rw[List.length_set] at hfew;obtain⟨g,gc,hgv,hgc,hgl,⟨d0,d1,d2⟩,hgf,_⟩:=u2.g.at_ u4;dsimp only at d0 d1 d2;obtain⟨v0,v1,v2,v3,v4,v5⟩:=u2.boxed;obtain⟨m,hm⟩:∃m,Bs4.length=m:=⟨_,rfl⟩;rw[hgv,hm] at v2;rw[hm] at hgc;have hgf1:=hgf (jl*3+1);have hown:bv4.ownBlock=some g:=(by rw[hgv];rfl);have mi:(m:Int)-1=(jl:Int):=(by omega);have jw:IntKind.i64.wrap (jl:Int)=(jl:Int):=(by rw[IntKind.wrap_i64];omega);have jm:jl<m:=(by omega);have jmi:(jl:Int)<(m:Int):=(by omega);have j0:(0:Int)≤(jl:Int):=(by omega);have HU:=qh (And.intro u1 (And.intro u2 (And.intro u3 (And.intro u4 (And.intro u5 (And.intro u6 hown))))));have HGV:Hid (bv4= .slice (some ⟨g,0,none⟩) m gc):=qh (by rw[hgv,hm]);have kb9:((0:Nat):Int)≤100000:=(by omega);clear u1 u2 u3 u4 u5 u6 hgv hgf hm hfew d0 d2 H7
       go_region
       generalize hW8:World.drew _=W8;have H8:Hid (PtC c4 W8 U S P O cap bv4 n (Bs4.set jl (ff,0+1,0)) st pl4 ob4∧StepC (fun a=>a=1) c4 c4 W6 W8):=qh (by
        obtain⟨u1,u2,u3,u4,u5,u6,hown⟩:=HU.out;rw[←hW8];have hl:=(List.getElem?_eq_some_iff.1 u4).1;have z1:=u2.blkset (Bs':=Bs4.set jl (ff,0+1,0)) (i:=jl*3+1) (v:= .int .i64 ((0+1:Nat):Int)) hown List.length_set (jp Bs4 jl ff 0 0 (0+1) u4) (by omega);exact⟨z1.drewN 1,(xD (B:=g) (i:=jl*3+1) (y:= .int .i64 ((0+1:Nat):Int)) u2.fresh (u2.g.col g hown)).trans (zk z1.fresh 1)⟩)
       clear hW8 v0 v1 v2 v3 v4 v5 d1 hgf1 hgl;have p1:=H8.out.1.p.cell hxn;have fP:=H8.out.1.p.frozen x;have lP:=H8.out.1.p.lt;obtain⟨v0,v1,v2,v3,v4,v5⟩:=H8.out.1.boxed;go_wp2
       generalize hW9:World.setCell _ _ _=W9;have H9:Hid (PtC c4 W9 U S P O cap bv4 n (Bs4.set jl (ff,0+1,0)) st (updN pl4 x 0) ob4∧StepC (fun a=>a=1) c4 c4 W6 W9):=qh (by
        rw[←hW9];exact⟨H8.out.1.setP x 0,H8.out.2.trans (xD H8.out.1.fresh H8.out.1.cP)⟩)
       clear hW9 v0 v1 v2 v3 v4 v5 p1 fP lP H8;have o1:=H9.out.1.o.cell hxn;have fO:=H9.out.1.o.frozen x;have lO:=H9.out.1.o.lt;obtain⟨v0,v1,v2,v3,v4,v5⟩:=H9.out.1.boxed;rw[HGV.out] at v2
       go_region
       generalize hW10:World.drew _=W10;have H10:Hid (GrW c w W10 U S P O cap n RB RU ru st (0+1)):=qh (by
        obtain⟨u1,u2,u3,u4,u5,u6,hown⟩:=HU.out;rw[hx] at u5;have q0:=H9.out.1.setO x jl;have q1:=q0.drewN 1;have q2:=(H9.out.2.trans (xD (B:=O) (i:=x) (y:= .int .i64 (jl:Int)) H9.out.1.fresh H9.out.1.cO)).trans (zk q0.fresh 1);rw[←hW10];exact⟨c4,bv4,_,_,_,u1.trans q2,q1,u5,u6.step q2 (by decide)⟩)
       clear hW10 v0 v1 v2 v3 v4 v5 o1 fO lO H9 HU;go_wp2
       go_roundw
       case rel=>exact⟨0+1,by go_num,by omega,H10⟩
       case measure=>simp[intOf]<;>omega
      ·have hkm:k-1<n:=(by omega);have hyk:=t2.s.cell hkm;obtain⟨y,hy⟩:∃y,st (k-1)=y:=⟨_,rfl⟩;have e2:jL st (k-1)=(y:Int):=(by unfold jL;rw[hy]);rw[e2] at hyk;have hyn:y<n:=(by rw[←hy];exact HST.out.1 (k-1) hkm);have hry:=t4.row.cell hyn;have hk1:1≤k:=(by omega);have hki:(1:Int)≤(k:Int):=(by omega);have hkz:¬(k:Int)=0:=(by omega);obtain⟨jm,hjm⟩:∃jm,k-1=jm:=⟨_,rfl⟩;have hji:(k:Int)-1=(jm:Int):=(by omega);have hjn:(jm:Int)<(n:Int):=(by omega);have hjn2:jm<n:=(by omega);have hj0:(0:Int)≤(jm:Int):=(by omega);have hjb:(jm:Int)≤100000:=(by omega);have hjw:IntKind.i64.wrap (jm:Int)=(jm:Int):=(by rw[IntKind.wrap_i64];omega);have hk00:((k:Int)==0)=false:=(by rw[beq_eq_false_iff_ne];exact hkz);rw[hjm] at hyk;clear hjm;by_cases he:ru x=ru y
       ·clear t1 t2 t3 t4;go_wp2
        go_quiet (fail)
        generalize hD:wr.drewN _=W6;have HG:Hid (GrW c w W6 U S P O cap n RB RU ru st k):=qh (by rw[←hD];exact HX.out.drewN _);clear hD HX x0 x1 x2 x3 x4 x5 hxk hbx hrx hyk hry;obtain⟨c2,bv2,Bs2,pl2,ob2,t1,t2,t3,t4⟩:=HG.out;obtain⟨f,q1,q2,q3⟩:=t3.last hk1;have H6:Hid (zHL c w W6 U S P O cap n RB RU ru st k (Bs2.length-1) f):=qh ⟨c2,bv2,Bs2,pl2,ob2,t1,t2,by omega,q1,t3.more HST.out.2.1 hlt hk1 (by rw[hx,hy];exact he) q1,t4⟩;clear t1 t2 t3 t4 q1 q2 q3 HG;go_wp2
        obtain⟨jl,ff,H7⟩:∃jl ff,Hid (zHL c w W6 U S P O cap n RB RU ru st k jl ff):=⟨_,_,H6⟩;clear H6;obtain⟨c4,bv4,Bs4,pl4,ob4,u1,u2,u3,u4,u5,u6⟩:=H7.out;have hfew:=u5.few;rw[List.length_set] at hfew;obtain⟨g,gc,hgv,hgc,hgl,⟨d0,d1,d2⟩,hgf,_⟩:=u2.g.at_ u4;dsimp only at d0 d1 d2;obtain⟨v0,v1,v2,v3,v4,v5⟩:=u2.boxed;obtain⟨m,hm⟩:∃m,Bs4.length=m:=⟨_,rfl⟩;rw[hgv,hm] at v2;rw[hm] at hgc;have hgf1:=hgf (jl*3+1);have hown:bv4.ownBlock=some g:=(by rw[hgv];rfl);have mi:(m:Int)-1=(jl:Int):=(by omega);have jw:IntKind.i64.wrap (jl:Int)=(jl:Int):=(by rw[IntKind.wrap_i64];omega);have jm:jl<m:=(by omega);have jmi:(jl:Int)<(m:Int):=(by omega);have j0:(0:Int)≤(jl:Int):=(by omega);have HU:=qh (And.intro u1 (And.intro u2 (And.intro u3 (And.intro u4 (And.intro u5 (And.intro u6 hown))))));have HGV:Hid (bv4= .slice (some ⟨g,0,none⟩) m gc):=qh (by rw[hgv,hm]);have kb9:((k:Nat):Int)≤100000:=(by omega);clear u1 u2 u3 u4 u5 u6 hgv hgf hm hfew d0 d2 H7
        go_region
        generalize hW8:World.drew _=W8;have H8:Hid (PtC c4 W8 U S P O cap bv4 n (Bs4.set jl (ff,k+1,0)) st pl4 ob4∧StepC (fun a=>a=1) c4 c4 W6 W8):=qh (by
         obtain⟨u1,u2,u3,u4,u5,u6,hown⟩:=HU.out;rw[←hW8];have hl:=(List.getElem?_eq_some_iff.1 u4).1;have z1:=u2.blkset (Bs':=Bs4.set jl (ff,k+1,0)) (i:=jl*3+1) (v:= .int .i64 ((k+1:Nat):Int)) hown List.length_set (jp Bs4 jl ff k 0 (k+1) u4) (by omega);exact⟨z1.drewN 1,(xD (B:=g) (i:=jl*3+1) (y:= .int .i64 ((k+1:Nat):Int)) u2.fresh (u2.g.col g hown)).trans (zk z1.fresh 1)⟩)
        clear hW8 v0 v1 v2 v3 v4 v5 d1 hgf1 hgl;have p1:=H8.out.1.p.cell hxn;have fP:=H8.out.1.p.frozen x;have lP:=H8.out.1.p.lt;obtain⟨v0,v1,v2,v3,v4,v5⟩:=H8.out.1.boxed;go_wp2
        generalize hW9:World.setCell _ _ _=W9;have H9:Hid (PtC c4 W9 U S P O cap bv4 n (Bs4.set jl (ff,k+1,0)) st (updN pl4 x k) ob4∧StepC (fun a=>a=1) c4 c4 W6 W9):=qh (by
         rw[←hW9];exact⟨H8.out.1.setP x k,H8.out.2.trans (xD H8.out.1.fresh H8.out.1.cP)⟩)
        clear hW9 v0 v1 v2 v3 v4 v5 p1 fP lP H8;have o1:=H9.out.1.o.cell hxn;have fO:=H9.out.1.o.frozen x;have lO:=H9.out.1.o.lt;obtain⟨v0,v1,v2,v3,v4,v5⟩:=H9.out.1.boxed;rw[HGV.out] at v2
        go_region
        generalize hW10:World.drew _=W10;have H10:Hid (GrW c w W10 U S P O cap n RB RU ru st (k+1)):=qh (by
         obtain⟨u1,u2,u3,u4,u5,u6,hown⟩:=HU.out;rw[hx] at u5;have q0:=H9.out.1.setO x jl;have q1:=q0.drewN 1;have q2:=(H9.out.2.trans (xD (B:=O) (i:=x) (y:= .int .i64 (jl:Int)) H9.out.1.fresh H9.out.1.cO)).trans (zk q0.fresh 1);rw[←hW10];exact⟨c4,bv4,_,_,_,u1.trans q2,q1,u5,u6.step q2 (by decide)⟩)
        clear hW10 v0 v1 v2 v3 v4 v5 o1 fO lO H9 HU;go_wp2
        go_roundw
        case rel=>exact⟨k+1,by go_num,by omega,H10⟩
        case measure=>simp[intOf]<;>omega
       ·clear t1 t2 t3 t4;go_wp2
        go_quiet (fail)
        generalize hD:wr.drewN _=D0;have HG:Hid (GrW c w D0 U S P O cap n RB RU ru st k):=qh (by rw[←hD];exact HX.out.drewN _);clear hD HX x0 x1 x2 x3 x4 x5 hxk hbx hrx hyk hry;obtain⟨c2,bv2,Bs2,pl2,ob2,t1,t2,t3,t4⟩:=HG.out;obtain⟨x0,x1,x2,x3,x4,x5⟩:=t2.boxed;have hba:=zA D0 (.cells #[.int .i64 (k:Nat),.int .i64 (k:Nat),.int .i64 0] 150);have hbz:=box3.new 150 D0 (.int .i64 ((k:Nat):Int)) (.int .i64 ((k:Nat):Int)) (.int .i64 0);obtain⟨ao,cp,w5,hrun,r1,r2,r3,c3,p1,p2⟩:=(t2.under hba).push (X:=D0.heap.size) (b:=(k,k,0)) (fun i u hu=>by
         obtain⟨⟨d0,d1,d2⟩,_⟩:=hbz.cells
         match i,hu with
         | 0,hu=>cases hu;exact d0
         | 1,hu=>cases hu;exact d1
         | 2,hu=>cases hu;exact d2) (by have:=t3.few;omega)
        have H6:Hid (zHL c w (w5.setCell ⟨U,2,none⟩ (.slice ao (Bs2.length+1) cp)) U S P O cap n RB RU ru st k Bs2.length k):=qh (by
         have sA:=(StepC.below (S:=fun a=>a=1) t2.fresh hba).trans p1;refine⟨c3,_,_,pl2,ob2,t1.trans sA,p2,by rw[List.length_append];rfl,by rw[List.getElem?_append_right (Nat.le_refl _),Nat.sub_self];rfl,?_,t4.step sA (by decide)⟩;rw[List.set_append_right _ _ (Nat.le_refl _),Nat.sub_self];exact t3.fresh HST.out.2.1 hlt (fun i hi e=>he (by
          have h1:=HSRT.out (k-1) k (by omega) hlt;have h2:ru (st i)≤ru (st (k-1)):=by
           by_cases c:i=k-1
           ·rw[c];exact Int.le_refl _
           ·exact HSRT.out i (k-1) (by omega) hkm
          rw[hx] at e h1;rw[hy] at h1 h2;omega)))
        clear t1 t2 t3 t4 hba hbz p1 p2 HG;go_wp2_with (at_builtin;refine x8 rfl (.tmp 71) (.tmp 75) 130 (by rfl) (by rfl) (by rfl) hrun ?_)
        clear hrun r1 r2 r3 x0 x1 x2 x3 x4 x5;generalize hW6:World.setCell w5 _ _=W6;rw[hW6] at H6;clear hW6;obtain⟨jl,ff,H7⟩:∃jl ff,Hid (zHL c w W6 U S P O cap n RB RU ru st k jl ff):=⟨_,_,H6⟩;clear H6;obtain⟨c4,bv4,Bs4,pl4,ob4,u1,u2,u3,u4,u5,u6⟩:=H7.out;have hfew:=u5.few;rw[List.length_set] at hfew;obtain⟨g,gc,hgv,hgc,hgl,⟨d0,d1,d2⟩,hgf,_⟩:=u2.g.at_ u4;dsimp only at d0 d1 d2;obtain⟨v0,v1,v2,v3,v4,v5⟩:=u2.boxed;obtain⟨m,hm⟩:∃m,Bs4.length=m:=⟨_,rfl⟩;rw[hgv,hm] at v2;rw[hm] at hgc;have hgf1:=hgf (jl*3+1);have hown:bv4.ownBlock=some g:=(by rw[hgv];rfl);have mi:(m:Int)-1=(jl:Int):=(by omega);have jw:IntKind.i64.wrap (jl:Int)=(jl:Int):=(by rw[IntKind.wrap_i64];omega);have jm:jl<m:=(by omega);have jmi:(jl:Int)<(m:Int):=(by omega);have j0:(0:Int)≤(jl:Int):=(by omega);have HU:=qh (And.intro u1 (And.intro u2 (And.intro u3 (And.intro u4 (And.intro u5 (And.intro u6 hown))))));have HGV:Hid (bv4= .slice (some ⟨g,0,none⟩) m gc):=qh (by rw[hgv,hm]);have kb9:((k:Nat):Int)≤100000:=(by omega);clear u1 u2 u3 u4 u5 u6 hgv hgf hm hfew d0 d2 H7
        go_region
        generalize hW8:World.drew _=W8;have H8:Hid (PtC c4 W8 U S P O cap bv4 n (Bs4.set jl (ff,k+1,0)) st pl4 ob4∧StepC (fun a=>a=1) c4 c4 W6 W8):=qh (by
         obtain⟨u1,u2,u3,u4,u5,u6,hown⟩:=HU.out;rw[←hW8];have hl:=(List.getElem?_eq_some_iff.1 u4).1;have z1:=u2.blkset (Bs':=Bs4.set jl (ff,k+1,0)) (i:=jl*3+1) (v:= .int .i64 ((k+1:Nat):Int)) hown List.length_set (jp Bs4 jl ff k 0 (k+1) u4) (by omega);exact⟨z1.drewN 1,(xD (B:=g) (i:=jl*3+1) (y:= .int .i64 ((k+1:Nat):Int)) u2.fresh (u2.g.col g hown)).trans (zk z1.fresh 1)⟩)
        clear hW8 v0 v1 v2 v3 v4 v5 d1 hgf1 hgl;have p1:=H8.out.1.p.cell hxn;have fP:=H8.out.1.p.frozen x;have lP:=H8.out.1.p.lt;obtain⟨v0,v1,v2,v3,v4,v5⟩:=H8.out.1.boxed;go_wp2
        generalize hW9:World.setCell _ _ _=W9;have H9:Hid (PtC c4 W9 U S P O cap bv4 n (Bs4.set jl (ff,k+1,0)) st (updN pl4 x k) ob4∧StepC (fun a=>a=1) c4 c4 W6 W9):=qh (by
         rw[←hW9];exact⟨H8.out.1.setP x k,H8.out.2.trans (xD H8.out.1.fresh H8.out.1.cP)⟩)
        clear hW9 v0 v1 v2 v3 v4 v5 p1 fP lP H8;have o1:=H9.out.1.o.cell hxn;have fO:=H9.out.1.o.frozen x;have lO:=H9.out.1.o.lt;obtain⟨v0,v1,v2,v3,v4,v5⟩:=H9.out.1.boxed;rw[HGV.out] at v2
        go_region
        generalize hW10:World.drew _=W10;have H10:Hid (GrW c w W10 U S P O cap n RB RU ru st (k+1)):=qh (by
         obtain⟨u1,u2,u3,u4,u5,u6,hown⟩:=HU.out;rw[hx] at u5;have q0:=H9.out.1.setO x jl;have q1:=q0.drewN 1;have q2:=(H9.out.2.trans (xD (B:=O) (i:=x) (y:= .int .i64 (jl:Int)) H9.out.1.fresh H9.out.1.cO)).trans (zk q0.fresh 1);rw[←hW10];exact⟨c4,bv4,_,_,_,u1.trans q2,q1,u5,u6.step q2 (by decide)⟩)
        clear hW10 v0 v1 v2 v3 v4 v5 o1 fO lO H9 HU;go_wp2
        go_roundw
        case rel=>exact⟨k+1,by go_num,by omega,H10⟩
        case measure=>simp[intOf]<;>omega
     ·have hli:¬(k:Int)<(n:Int):=(by omega);have hkn:k=n:=(by omega);have hF:Hid (zJ8 c w wr n ru (.returned (.pointer (some ⟨U,0,none⟩)))):=qh (by
       rw[hkn] at t3;obtain⟨p1,p2,p3⟩:=t3.all HST.out.1 HST.out.2.2;exact⟨U,S,P,O,cap,bv2,Bs2,st,pl2,ob2,c2,rfl,t1,t2,p1,p2,p3⟩)
      clear t1 t2 t3 t4 HX;go_wp2
      go_ret
      exact hF.out
end
end Go.Proofs.YtjeomlickkpebaaGreatDoor
