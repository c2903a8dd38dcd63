/-
  limnerref12.Min: what it returns.
-/
import Derived.Test.YtjeomlickkpebaaGreatDoorBe33
namespace Go.Proofs.YtjeomlickkpebaaGreatDoor
open Go.RowKit
abbrev GoM (d:Dfa) (A:Nat→Nat→Bool) (k:Nat) (xs:List Nat) (rows:List (List Int)):Prop:=GoI (toN d) (qz d A) (xT A) (fun i=>i<d.n) (QM d) 0 k xs rows
abbrev KX (d:Dfa) (A:Nat→Nat→Bool) (x:Nat) (xs:List Nat) (b:Nat):List Nat×List Int:=rowX (toN d) (qz d A) (xT A) x xs b
def zIH (rs:List RuN) (most:Nat) (w':World) (e:Ending):Prop:=e= .returned (.tuple #[.pointer none,.bool false])∨∃mv M xs rows,e= .returned (.tuple #[mv,.bool true])∧QT w' mv M∧IsMin (byF fun w=>qL rs (xI rs) 0 w) M∧GoP rs xs.length xs rows∧xs.length≤max 1 most
theorem Jc {rs:List RuN} (hrs:zGD rs) {xs:List Plc} {rows:List (List Int)} (h:GoP rs xs.length xs rows):OkD ⟨rows,xs.map fun x=>qL rs x 0 []⟩∧∀w,(⟨rows,xs.map fun x=>qL rs x 0 []⟩:Dfa).says 0 w=byF (fun w=>qL rs (xI rs) 0 w) w:=
 ⟨Q4 h fun x _=>Xu rs x 0 [],fun w=>Ka h (Zy rs hrs) (fun _ _=>rfl) (fun x _=>Xu rs x 0 []) w⟩
set_option maxRecDepth 4000 in
set_option maxHeartbeats 16000000 in
theorem zF7 {w:World} {v:Value} {rs:List RuN} (hu:Qg w v rs) (hok:∀r,r∈rs→∀st,st∈r.sets→OkR st) (hrs:zGD rs) (hl:rs.length≤64) (most:Nat) (hmost:most≤1000):
  Calls Tryz.prog 14 #[v,.int .i64 (most:Int)] w fun e w'=>zIH rs most w' e∧Below w.heap.size w w':=by
 have HALL:=qh (zEU hu hok hrs hl most hmost);have HRS:=qh hrs;obtain⟨vo,vc,rfl,_⟩:=hu.form;obtain⟨m,hm⟩:∃m,rs.length=m:=⟨_,rfl⟩;rw[hm] at HALL ⊢;clear hu hok hrs hl hm;go_enter Tryz.func14,Tryz.ntmps14;go_wp2_with fail
 go_fit HALL.out;rintro e w1 ⟨ho,hb1⟩;rcases ho with rfl | ⟨dv,px,prows,rfl,hG,hmx,hD⟩
 ·have HB:=qh hb1;clear hb1 HALL;go_wp2_with fail
  go_ret2
  exact⟨.inl rfl,HB.out⟩
 obtain⟨hok,hsay⟩:=Jc HRS.out hG;obtain⟨d,hd⟩:∃d,(⟨prows,px.map fun x=>qL rs x 0 []⟩:Dfa)=d:=⟨_,rfl⟩;rw[hd] at hD hok hsay;have hnd:d.n=px.length:=by rw[←hd];exact hG.len
 have hnb:d.n≤1000:=by omega
 have HAP:=qh (KP hD hok);have HPL:=qh (And.intro hG (And.intro hmx hsay));have H1:=qh (And.intro hD (And.intro hok hb1));clear hG hmx hD hok hsay hd hb1 HALL hnd;obtain⟨B,dao,dcap,rfl,_,_⟩:=H1.out.1.box;go_wp2_with fail
 go_fit HAP.out;rintro e w2 ⟨⟨O,A,rfl,hA,hM⟩,hb2⟩;have hD2:=H1.out.1.below hb2;obtain⟨n,hn⟩:∃n,d.n=n:=⟨_,rfl⟩;have HN:=qh hn;obtain⟨N,hN⟩:∃N,n+1=N:=⟨_,rfl⟩;have HNN:=qh hN;rw[hn,hN] at hM ⊢;rw[hn] at hnb;have HV:=qh (fun (W:World) (hb:Below w2.heap.size w2 W)=>And.intro (hD2.below hb) (hM.below hb));have HB2:=qh (H1.out.2.2.trans (hb2.mono H1.out.2.2.size));have HA:=qh (And.intro hA H1.out.2.1);have HH:=qh (Xb hA H1.out.2.1);have hst:=StepC.colAt (S:=fun _=>False) (c:=fun _=>0) (A:=6) (w:=w2) (fun _ _=>rfl) (.cells #[.slice none 0 0,.slice none 0 0] 41);have hba:=zA w2 (.cells #[.slice none 0 0,.slice none 0 0] 41);have hbx:XR (w2.alloc (.cells #[.slice none 0 0,.slice none 0 0] 41)) w2.heap.size (.slice none 0 0) (.slice none 0 0):=heap_alloc_new _ _;obtain⟨W3,hW3⟩:∃W,w2.alloc (.cells #[.slice none 0 0,.slice none 0 0] 41)=W:=⟨_,rfl⟩;rw[hW3] at hst hba hbx
 have hw3:jP w2 (colAt (fun _=>0) 6 w2.heap.size) W3 w2.heap.size (.slice none 0 0) (.slice none 0 0) (.slice none 0 0) [] [] []:=
  ⟨hba,hst.fresh,fun k hk=>x9 hk,if_pos rfl,hbx,RowC.nil _ _ _ _,⟨[],rfl,RowC.nil _ _ _ _,fun i x u h=>by simp at h⟩,RowC.nil _ _ _ _⟩
 have hw4:=hw3.first;obtain⟨W4,hW4⟩:∃W,W3.alloc (.cells #[.int .i64 0] 3)=W:=⟨_,rfl⟩;rw[hW4] at hw4;have hg0:GoM d A 0 [0] []:=kU 0 H1.out.2.1.pos;have H4:Hid (∃(c:Col) (pv dn dr:Value) (xs:List Nat) (rows:List (List Int)),pv= .slice (some ⟨W3.heap.size,0,none⟩) 1 1∧jP w2 c W4 w2.heap.size pv dn dr xs rows ((xs.take 0).map fun x=>ruN d x)∧GoM d A 0 xs rows):=qh ⟨_,_,_,_,_,_,rfl,hw4,hg0⟩;clear hD2 hM hst hba hbx hw3 hw4 hg0 hb2 hA H1 HAP hn hN;go_wp2_with fail
 (try rw[hW3]);(try rw[hW4]);clear hW3 hW4;obtain⟨P0,hP0⟩:∃P,W3.heap.size=P:=⟨_,rfl⟩;obtain⟨D,hD⟩:∃P,w2.heap.size=P:=⟨_,rfl⟩;rw[hP0] at H4;(try rw[hP0]);rw[show jP w2=jP w2 from rfl] at H4;have H5:Hid (∃(c:Col) (pv dn dr:Value) (xs:List Nat) (rows:List (List Int)),pv= .slice (some ⟨P0,0,none⟩) 1 1∧jP w2 c W4 D pv dn dr xs rows ((xs.take 0).map fun x=>ruN d x)∧GoM d A 0 xs rows):=qh (by rw[←hD];exact H4.out);(try rw[hD]);clear hP0 hD H4;go_loopw [10,11] (fun s10 s11 wr=>∃k:Nat,s11= .int .i64 (k:Int)∧k≤n∧Hid (∃(c:Col) (pv dn dr:Value) (xs:List Nat) (rows:List (List Int)),pv=s10∧jP w2 c wr D pv dn dr xs rows ((xs.take k).map fun x=>ruN d x)∧GoM d A k xs rows)) (fun _ s11 _=>n-(intOf s11).toNat)
 case atStart=>exact⟨0,rfl,Nat.zero_le _,H5⟩
 case round=>
  obtain⟨k,rfl,hk,HX⟩:=hrel;clear H5;obtain⟨c,pv,dn,dr,xs,rows,rfl,hA,hG⟩:=HX.out;clear HX;have hk0:(0:Int)≤(k:Int):=by omega
  have hkb:(k:Int)≤1000:=by omega
  obtain⟨po,pc,rfl,_⟩:=hA.form;obtain⟨nx,hnx⟩:∃n,xs.length=n:=⟨_,rfl⟩;have HNL:=qh hnx;have hxn:nx≤n:=by have:=zBZ HA.out.1 hG;have:=HN.out;omega
  rw[hnx];by_cases hlt:k<nx
  ·have hli:(k:Int)<(nx:Int):=(by omega);obtain⟨x,hx⟩:∃x,xs[k]? =some x:=⟨_,List.getElem?_eq_getElem (by omega)⟩;have HQ:=qh (And.intro hx hG);have hxl:x<d.n:=hG.good x (List.mem_of_getElem? hx);have HXL:=qh hxl
   have H3:Hid (∃(c:Col) (pv rv:Value) (ys:List Nat) (row:List Int),pv= .slice po nx pc∧rv= .slice none 0 0∧(ys,row)=KX d A x xs 0∧jP w2 c wr D pv dn dr ys rows ((xs.take k).map fun x=>ruN d x)∧RowC c 2 3 wr rv (xK row)):=
    qh ⟨c,_,_,xs,[],rfl,rfl,rfl,by rw[←hnx];exact hA,RowC.nil _ _ _ _⟩
   clear hx hA hG hnx hxl;go_wp2_with fail
   go_loopw [10,12,13] (fun s10 s12 s13 wr=>∃b:Nat,s13= .int .i64 (b:Int)∧b≤256∧Hid (∃(c:Col) (pv rv:Value) (ys:List Nat) (row:List Int),pv=s10∧rv=s12∧(ys,row)=KX d A x xs b∧jP w2 c wr D pv dn dr ys rows ((xs.take k).map fun x=>ruN d x)∧RowC c 2 3 wr rv (xK row))) (fun _ _ s13 _=>256-(intOf s13).toNat)
   case atStart=>exact⟨0,rfl,Nat.zero_le _,H3⟩
   case round=>
    obtain⟨b,rfl,hb,HX⟩:=hrel;clear H3;obtain⟨c,pv,rv,ys,row,rfl,rfl,hyr,hA,hR⟩:=HX.out;clear HX;have b0:(0:Int)≤(b:Int):=(by omega);have bb:(b:Int)≤256:=(by omega);obtain⟨hri,hrl⟩:=Q3 HH.out HXL.out (X8 (x:=x) HQ.out.2) b hb;have hyl:=QI (toN d) (qz d A) (xT A) x xs b;change zHT _ _ _ _ _ xs x rows.flatten (KX d A x xs b).1 (KX d A x xs b).2 at hri;change (KX d A x xs b).2.length=b at hrl;change _≤(KX d A x xs b).1.length∧(KX d A x xs b).1.length≤_ at hyl;rw[←hyr] at hri hrl hyl;dsimp only at hri hrl hyl;obtain⟨po2,pc2,rfl,_⟩:=hA.form;obtain⟨ro,rc,rfl,_⟩:=hR.form;rw[zP,hrl] at hR ⊢;obtain⟨ny,hny⟩:∃n,ys.length=n:=⟨_,rfl⟩;have HNY:=qh hny;rw[hny] at hyl hA ⊢;have hnyb:ny≤1256:=(by have:=HNL.out;omega);have HI:=qh (And.intro hyr (And.intro hri (And.intro hrl hyl)));clear hyr hri hrl hyl hny;by_cases hlb:b<256
    ·have hbi:(b:Int)<256:=(by omega);have hyk:ys[k]? =some x:=by
      obtain⟨t,ht⟩:=HI.out.2.1.pre;rw[ht,List.getElem?_append_left (by have:=HNL.out;omega)];exact HQ.out.1
     obtain⟨gp,op,cp,hpe,hcp⟩:=hA.get hyk;injection hpe with e1 e2 e3
     subst e1;clear e2 e3;obtain⟨t,ht⟩:∃t,toN d x b=t:=⟨_,rfl⟩;have htn:t≤n:=(by rw[←ht,←HN.out];exact qZ HA.out.2 x b);have HTO0:=YV (HV.out wr hA.bel).1 HA.out.2 x b (Nat.le_of_lt HXL.out) hlb;rw[ht] at HTO0;have HTO:=qh HTO0;have hkny:k<ny:=(by have:=HI.out.2.2.2;have:=HNL.out;omega);have hkni:(k:Int)<(ny:Int):=(by omega);have hyx:KX d A x xs (b+1)=kT (toN d) (qz d A) (xT A) x (ys,row) b:=(by rw[HI.out.1];rfl);obtain⟨bo,hbo⟩:∃bo,A t d.n=bo:=⟨_,rfl⟩;have HD1:Hid (bo=false→(ys,row++ [-1])=KX d A x xs (b+1)):=qh fun h=>by
      rw[hyx];unfold kT;rw[if_pos (by unfold qz;rw[ht,hbo,h];rfl)]
     have HD2:Hid (bo=true→xH (xT A) ys t 0<0→(ys++ [t],row++ [(ny:Int)])=KX d A x xs (b+1)):=qh fun h h2=>by
      rw[hyx];unfold kT;rw[if_neg (by unfold qz;rw[ht,hbo,h];decide),ht,if_pos h2,HNY.out]
     have HD3:Hid (bo=true→¬xH (xT A) ys t 0<0→(ys,row++ [xH (xT A) ys t 0])=KX d A x xs (b+1)):=qh fun h h2=>by
      rw[hyx];unfold kT;rw[if_neg (by unfold qz;rw[ht,hbo,h];decide),ht,if_neg h2]
     have hMt:=(HV.out wr hA.bel).2 t (by have:=HNN.out;omega);obtain⟨Gt,m0,m1⟩:=hMt;have m2:=m1 n (by have:=HNN.out;omega);rw[←HN.out,hbo] at m2;rw[HN.out] at m2;obtain⟨dao2,dcap2,hve,dc0,hdn⟩:∃ao cap,Value.pointer (some ⟨B,0,none⟩)= .pointer (some ⟨B,0,none⟩)∧wr.cell? ⟨B,0,none⟩=some (.slice ao n cap)∧n≤cap:=by
      obtain⟨B2,ao,cap,hve,h1,h2⟩:=(HV.out wr hA.bel).1.box;cases hve;rw[HN.out] at h1 h2;exact⟨ao,cap,rfl,h1,h2⟩
     have HJ:=qh (And.intro hA hR);have ti:(t:Int)<(N:Int):=(by have:=HNN.out;omega);have ni:(n:Int)<(N:Int):=(by have:=HNN.out;omega);have t0:(0:Int)≤(t:Int):=(by omega);have n0:(0:Int)≤(n:Int):=(by omega);clear hA hR hyk ht HTO0 hyx hbo m1 hve;go_wp2_with fail
     go_fit HTO.out;rintro e wq ⟨rfl,rfl⟩;clear HTO;cases bo with
     | false=>
      obtain⟨ao,cap,w3,c3,hrun,hA3,hR3⟩:=(HJ.out.1.under (Below.refl _ wq).drew).addR (HJ.out.2.step (S:=fun _=>False) (StepC.below HJ.out.1.fr (Below.refl _ wq).drew) (fun e=>e)) (-1) HI.out.2.2.1 (by omega) 39;have HK:=qh (And.intro (HD1.out (by simp)) (And.intro hA3 hR3));clear hA3 hR3 HD1 HD2 HD3 HJ;go_wp2_with fail
      go_region
      go_wp2_with (at_builtin;refine napp_list (by rfl) _ _ 39 (by rfl) (by rfl) (by rfl) hrun ?_)
      go_roundw
      case rel=>exact⟨b+1,by go_num,hlb,qh ⟨_,_,_,_,_,rfl,rfl,HK.out.1,HK.out.2.1,HK.out.2.2⟩⟩
      case measure=>simp[intOf]<;>omega
     | true=>
      go_wp2_with fail
      go_region
      obtain⟨wo,hwo⟩:∃wo:World,wq=wo:=⟨_,rfl⟩;rw[hwo] at HJ;(try rw[hwo]);clear hwo HD1 dc0 m0 m2 hcp;obtain⟨wd,hwd⟩:∃wd:World,wo.drew=wd:=⟨_,rfl⟩;have HJ2:Hid (jP w2 c wd D (.slice (some ⟨gp,op,none⟩) ny pc2) dn dr ys rows ((xs.take k).map fun x=>ruN d x)∧RowC c 2 3 wd (.slice ro b rc) (xK row)):=qh (by
       rw[←hwd];exact⟨HJ.out.1.under (Below.refl _ wo).drew,HJ.out.2.step (S:=fun _=>False) (StepC.below HJ.out.1.fr (Below.refl _ wo).drew) (fun e=>e)⟩)
      (try rw[hwd]);clear hwd HJ;go_wp2_with fail
      go_loop [15,16] (fun s15 s16=>∃(i:Nat) (z:Int),s16= .int .i64 (i:Int)∧i≤ny∧s15= .int .i64 z∧ -1≤z∧z≤2000∧Hid ((z= -1∧∀(j:Nat) y,j<i→ys[j]? =some y→xT A y t=false)∨0≤z∧xH (xT A) ys t 0=z)) (fun s15 s16=>ny+1-(intOf s16).toNat)
      case atStart=>exact⟨0,-1,rfl,Nat.zero_le _,rfl,by omega,by omega,qh (.inl ⟨rfl,fun j y hj=>by omega⟩)⟩
      case round=>
       obtain⟨i,z,rfl,hi,rfl,hz1,hz2,HT⟩:=hrel;have i0:(0:Int)≤(i:Int):=(by omega);have ib:(i:Int)≤1256:=(by omega);by_cases hzn:0≤z
       ·have hzn1:¬z<0:=(by omega);have hfx:xH (xT A) ys t 0=z:=by
         rcases HT.out with h | h
         ·omega
         ·exact h.2
        have HD3':=HD3.out (by simp) (by rw[hfx];omega);rw[hfx] at HD3';obtain⟨ao,cap,w3,c3,hrun,hA3,hR3⟩:=HJ2.out.1.addR HJ2.out.2 z HI.out.2.2.1 (by omega) 39;have HK:=qh (And.intro HD3' (And.intro hA3 hR3));clear hA3 hR3 HD2 HD3 HJ2 HT hfx HD3';have hci:i=ny∨i<ny:=(by omega);rcases hci with hci | hci
        ·have hni:¬(i:Int)<(ny:Int):=(by omega);go_wp2_with (at_builtin;refine napp_list (by rfl) _ _ 39 (by rfl) (by rfl) (by rfl) hrun ?_)
         go_roundw
         case rel=>exact⟨b+1,by go_num,hlb,qh ⟨_,_,_,_,_,rfl,rfl,HK.out.1,HK.out.2.1,HK.out.2.2⟩⟩
         case measure=>simp[intOf]<;>omega
        ·have hni:(i:Int)<(ny:Int):=(by omega);go_wp2_with (at_builtin;refine napp_list (by rfl) _ _ 39 (by rfl) (by rfl) (by rfl) hrun ?_)
         go_roundw
         case rel=>exact⟨b+1,by go_num,hlb,qh ⟨_,_,_,_,_,rfl,rfl,HK.out.1,HK.out.2.1,HK.out.2.2⟩⟩
         case measure=>simp[intOf]<;>omega
       ·have hzn1:z<0:=(by omega);have hno:∀(j:Nat) y,j<i→ys[j]? =some y→xT A y t=false:=by
         rcases HT.out with h | h
         ·exact h.2
         ·omega
        by_cases hin:i<ny
        ·have hni:(i:Int)<(ny:Int):=(by omega);obtain⟨y,hy⟩:∃y,ys[i]? =some y:=⟨_,List.getElem?_eq_getElem (by have:=HNY.out;omega)⟩;have hyn:y<n:=(by rw[←HN.out];exact HI.out.2.1.good y (List.mem_of_getElem? hy));obtain⟨gq,oq,cq,hpe,hcq⟩:=HJ2.out.1.get hy;injection hpe with e1 e2 e3
         injection e1 with e1
         injection e1 with e1 e4
         subst e1 e4;clear e2 e3;obtain⟨Gy,m0,m1⟩:=(HV.out wd HJ2.out.1.bel).2 y (by have:=HNN.out;omega);have m2:=m1 t (by have:=HNN.out;omega);obtain⟨sb,hsb⟩:∃sb,A y t=sb:=⟨_,rfl⟩;rw[hsb] at m2;have y0:(0:Int)≤(y:Int):=(by omega);have yi:(y:Int)<(N:Int):=(by have:=HNN.out;omega);have HT2:=qh (And.intro hno (And.intro hy hsb));clear hno hy hsb HT m1;cases sb with
         | false=>
          have HF:Hid (xH (xT A) ys t 0=(i:Int)):=qh (by
           rw[yX ys 0 i y HT2.out.2.1 (by unfold xT;rw[HT2.out.2.2];rfl) fun k z hk hz=>HT2.out.1 k z hk hz];congr 1;omega)
          go_wp2_with fail
          go_round
          case rel=>exact⟨i+1,(i:Int),by go_num,hin,rfl,by omega,by omega,qh (.inr ⟨by omega,HF.out⟩)⟩
          case measure=>simp[intOf]<;>omega
         | true=>
          have HF:Hid (∀(j:Nat) y,j<i+1→ys[j]? =some y→xT A y t=false):=qh fun j z hj hz=>by
           by_cases cj:j=i
           ·subst cj;rw[HT2.out.2.1] at hz;cases hz;unfold xT;rw[HT2.out.2.2];rfl
           ·exact HT2.out.1 j z (by omega) hz
          have hzm:z= -1:=(by omega);subst hzm;go_wp2_with fail
          go_round
          case rel=>exact⟨i+1,-1,by go_num,hin,rfl,by omega,by omega,qh (.inl ⟨rfl,HF.out⟩)⟩
          case measure=>simp[intOf]<;>omega
        ·have hni:¬(i:Int)<(ny:Int):=(by omega);have hfx:xH (xT A) ys t 0= -1:=vQ ys 0 fun j y hy=>hno j y (by have:=(List.getElem?_eq_some_iff.1 hy).1;have:=HNY.out;omega) hy;have HD2':=HD2.out (by simp) (by rw[hfx];decide);obtain⟨ao,cap,w3,c3,hrun,hA3,hs3⟩:=HJ2.out.1.addP t (by have:=HNY.out;omega) 39;rw[HNY.out] at hrun hA3;obtain⟨ao4,cap4,w4,c4,hrun4,hA4,hR4⟩:=hA3.addR (HJ2.out.2.step hs3 (by decide)) (ny:Int) HI.out.2.2.1 (by omega) 39;have HK:=qh (And.intro HD2' (And.intro hA4 hR4));clear hA3 hA4 hR4 HD2 HD3 HJ2 HT hfx HD2' hs3 hno;go_wp2_with (at_builtin;first | refine napp_list (by rfl) _ _ 39 (by rfl) (by rfl) (by rfl) hrun ?_ | refine napp_list (by rfl) _ _ 39 (by rfl) (by rfl) (by rfl) hrun4 ?_)
         go_roundw
         case rel=>exact⟨b+1,by go_num,hlb,qh ⟨_,_,_,_,_,rfl,rfl,HK.out.1,HK.out.2.1,HK.out.2.2⟩⟩
         case measure=>simp[intOf]<;>omega
    ·have hbi:¬(b:Int)<256:=(by omega);have hb256:b=256:=(by omega);have hGn:=X9 HH.out HQ.out.2 HQ.out.1;change GoM d A (k+1) (KX d A x xs 256).1 (rows++ [(KX d A x xs 256).2]) at hGn;rw[←hb256,←HI.out.1] at hGn;dsimp only at hGn;have hyk:ys[k]? =some x:=by
      obtain⟨t,ht⟩:=HI.out.2.1.pre;rw[ht,List.getElem?_append_left (by have:=HNL.out;omega)];exact HQ.out.1
     have hacc:((xs.take k).map fun x=>ruN d x)++ [ruN d x]=(ys.take (k+1)).map fun x=>ruN d x:=by
      obtain⟨t,ht⟩:=HI.out.2.1.pre;rw[List.take_add_one,hyk,List.map_append,ht,List.take_append_of_le_length (by have:=HNL.out;omega)];rfl
     have hrl:=HQ.out.2.len;obtain⟨ao,cap,w3,c3,hrun,hc0,hc1,hc2,hA3⟩:=(hA.pale (A:=2) (.inl rfl)).addRow (row:=row) (u:= .slice ro b rc) hR.cel rfl (by omega) 38;obtain⟨d0,d1⟩:=hA.box.cells.1;obtain⟨rn,hrn⟩:∃rn,rows.length+1=rn:=⟨_,rfl⟩;rw[hrn] at hrun hA3;obtain⟨W3,hW3⟩:∃W,w3.setCell ⟨D,0,none⟩ (.slice ao rn cap)=W:=⟨_,rfl⟩;rw[hW3] at hA3;obtain⟨gp,op,cp,hpe,hcp⟩:=hA3.get hyk;injection hpe with e1 e2 e3
     subst e1;clear e2 e3;obtain⟨B2,rg,rro,rrc,hve,q0,hrrc,q1⟩:=(HV.out W3 hA3.bel).1.rules HXL.out;cases hve;rw[HN.out] at q0 hrrc;have hru:d.acc (x:Int)=ruN d x:=(by unfold ruN;rw[if_pos HXL.out]);rw[hru] at q1
     have HAD0:∀W,Below W3.heap.size W3 W→∃ao2 cap2 w' c',(Builtin.append_ #[39,39] 39 #[dr,.slice (some ⟨W.heap.size,0,none⟩) 1 1]).run Tryz.prog (W.alloc (.cells #[.int .i64 (ruN d x)] 3))= .ok (.slice ao2 (k+1) cap2) w'∧w'.cell? ⟨D,1,none⟩=some dr∧w'.frozen? ⟨D,1,none⟩=false∧D<w'.heap.size ∧
       Hid (jP w2 c' (w'.setCell ⟨D,1,none⟩ (.slice ao2 (k+1) cap2)) D (.slice (some ⟨gp,op,none⟩) ny pc2) (.slice ao rn cap) (.slice ao2 (k+1) cap2) ys (rows++ [row]) ((ys.take (k+1)).map fun x=>ruN d x)):=fun W hW=>by
      have hkl:((xs.take k).map fun x=>ruN d x).length=k:=(by rw[List.length_map,List.length_take];have:=HNL.out;omega);obtain⟨ao2,cap2,w',c',h1,h2,h3,h4,h5⟩:=(hA3.under hW).addRule (ruN d x) (by rw[hkl];omega) 39;rw[hkl] at h1 h5;rw[hacc] at h5;exact⟨ao2,cap2,w',c',h1,h2,h3,h4,qh h5⟩
     have HAD:=qh HAD0;have HG2:=qh hGn;have kb:=Below.refl W3.heap.size W3;have kd:=kb.drew;obtain⟨d3,d4⟩:=hA3.box.cells.1;have hDl:D<W3.heap.size:=hA3.box.lt;have hkny:k<ny:=(by have:=HI.out.2.2.2;have:=HNL.out;omega);have hxi:(x:Int)<(n:Int):=(by have:=HXL.out;have:=HN.out;omega);have x0:(0:Int)≤(x:Int):=(by omega);have hBl:=rlt q0;have hgl:=rlt q1;have hpl:=rlt hcp;clear hA hR hGn hyk hacc hA3 HAD0 hb256 hrl d3 hrn hru;go_wp2_with (at_builtin;refine napp_list (by rfl) _ _ 38 (by rfl) (by rfl) (by rfl) hrun ?_)
     (try rw[hW3]);clear hrun hc0 hc1 hc2 d0 d1
     go_region_law (first
      | (obtain⟨ao2,cap2,w8,c8,hrun,s1,s2,s3,HJ⟩:=HAD.out _ kb;refine zw (by rfl) (.tmp 106) (.tmp 117) 39 (by rfl) (by rfl) (by rfl) hrun ?_)
      | (obtain⟨ao2,cap2,w8,c8,hrun,s1,s2,s3,HJ⟩:=HAD.out _ kd;refine zw (by rfl) (.tmp 106) (.tmp 117) 39 (by rfl) (by rfl) (by rfl) hrun ?_))
     all_goals
      go_wp2_with fail
      go_roundw
      case rel=>exact⟨k+1,by go_num,by omega,qh ⟨_,_,_,_,_,_,rfl,HJ.out,HG2.out⟩⟩
      case measure=>simp[intOf]<;>omega
  ·have hli:¬(k:Int)<(nx:Int):=(by omega);have hkn:k=xs.length:=by
    have:=hG.le;omega
   have hF:GoM d A xs.length xs rows:=(by rw[←hkn];exact hG);have hT:QT wr (.pointer (some ⟨D,0,none⟩)) ⟨rows,xs.map (ruN d)⟩:=by
    have h1:=hA.table (by rw[List.length_map,List.length_take,hG.len];omega) (by rw[hG.len];omega) (fun r hr=>by
     obtain⟨j,hj⟩:=List.mem_iff_getElem?.1 hr;exact (hG.row j r hj).1)
    rwa [List.take_of_length_le (by omega)] at h1
   have hI:IsMin (byF fun w=>qL rs (xI rs) 0 w) ⟨rows,xs.map (ruN d)⟩:=(zFA HA.out.1 HA.out.2 hF).conv HPL.out.2.2;have HF:=qh (And.intro hI (And.intro hT (HB2.out.trans (hA.bel.mono HB2.out.size))));clear hA hG hF hT hI hnx;go_wp2_with fail
   go_ret2
   exact⟨.inr ⟨_,_,_,_,rfl,HF.out.2.1,HF.out.1,HPL.out.1,HPL.out.2.1⟩,HF.out.2.2⟩
end Go.Proofs.YtjeomlickkpebaaGreatDoor
