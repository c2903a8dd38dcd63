/-
  limnerlaw12.DfasMin: it returns true, for any rules.
-/
import Derived.Test.YtjeomlickkpebaaGreatDoorBe46
import Derived.Test.YtjeomlickkpebaaGreatDoorBe47
namespace Go.Proofs.YtjeomlickkpebaaGreatDoor
open Go.RowKit
theorem zFQ (d:Dfa) {k:Int} (b:Nat) (h:k<0∨(d.n:Int)≤k):d.to k b= -1:=by
 unfold Dfa.to;split
 ·rename_i h0;rw[xx (l:=d.next) (by show d.n≤k.toNat;omega)];rfl
 ·rfl
theorem zCJ (d:Dfa) (hd:OkD d) {k:Int} (h:k<0∨(d.n:Int)≤k):d.acc k= -1:=by
 unfold Dfa.acc;split
 ·rename_i h0;rw[xx (by rw[hd.rules];omega)]
 ·rfl
set_option maxRecDepth 4000 in
set_option maxHeartbeats 16000000 in
theorem Y7 (v:Value) (L:List ByteArray) (w:World) (he:zFN w) (h:qJ w v L):
  Calls Tryz.prog 3 #[v] w fun e w'=>e= .returned (.bool true)∧Below w.heap.size w w':=by
 have HTB:=qh (fun (W:World) (hb:Below w.heap.size w W)=>(KF (he.below hb)).mono fun e w' h2=>(⟨h2.1,hb.trans (h2.2.mono hb.size)⟩:e= .returned (.bool true)∧Below w.heap.size w w'));have HG:=qh (KE h);have HMD:=qh (fun (W:World) (hb:Below w.heap.size w W)=>JQ (h.below hb) (he.below hb));have HRU:=qh (Vh h);obtain⟨vo,vc,rfl,hvc⟩:=h.form;obtain⟨m,hm⟩:∃m,L.length=m:=⟨_,rfl⟩;rw[hm] at hvc HG HMD HRU ⊢;obtain⟨gb,hgb⟩:∃gb,yV L=gb:=⟨_,rfl⟩;rw[hgb] at HG;obtain⟨er,her⟩:∃er,xG L=er:=⟨_,rfl⟩;rw[her] at HRU;have HE:=qh her;have HGB:=qh hgb;clear h hm he her hgb;cases gb with
 | true=>
  have HX:=qh (HTB.out _ (Below.refl _ _));clear HTB HMD HRU;go_enter Tryz.func3,Tryz.ntmps3;go_wp2_with fail
  go_fit HG.out;rintro e w1 ⟨rfl,rfl⟩;go_wp2_with fail
  go_fit HX.out;rintro e w1 ⟨rfl,hb⟩;have HB:=qh hb;clear hb;go_wp2_with fail
  go_ret
  exact⟨rfl,HB.out⟩
 | false=>
 go_enter Tryz.func3,Tryz.ntmps3;go_wp2_with fail
 go_fit HG.out;rintro e w1 ⟨rfl,rfl⟩;go_wp2_with fail
 go_fit HRU.out;rintro e w2 ⟨⟨r,rfl,hr⟩,hb2⟩;have H2:=qh (And.intro hr hb2);clear hr hb2 HRU HG;go_wp2_with fail
 go_fit (HMD.out _ H2.out.2);rintro e w3 ⟨ho,hb3⟩;have H3:=qh (H2.out.2.trans (hb3.mono H2.out.2.size));have HB3:=qh hb3;rcases ho with ⟨hne,rfl⟩ | ⟨h0,np,hnp,ho⟩
 ·have hn0:¬er=0:=by rw[←HE.out];exact hne
  rw[HE.out];have heb:(er==0)=false:=beq_eq_false_iff_ne.2 hn0;have heb2:(er != 0)=true:=by simpa using hn0
  have hee:(er==er)=true:=beq_self_eq_true _;have HX:=qh (HTB.out _ H3.out);clear hne hn0 hb3 HTB HMD;go_wp2_with fail
  go_fit HX.out;rintro e w4 ⟨rfl,hb⟩;have HB:=qh hb;clear hb;go_wp2_with fail
  go_ret
  exact⟨rfl,HB.out⟩
 ·have her0:er=0:=by rw[←HE.out];exact h0
  subst her0;have hgl:=(jE HE.out).2.1;have HRW:Hid (Qg w3 r (rsE L)):=qh ((H2.out.1 rfl).below hb3);have HMN:=qh (zF7 HRW.out (zHO L) (zGF (zI L) (nodes_good L)) (by have:=zFR L;omega) 60 (by decide));clear h0 hnp hb3 hgl H2;rcases ho with ⟨dp,k,rfl,hD,hk⟩ | ⟨rfl,ls,h4,h5,h6⟩
  ·have HD:=qh (And.intro hD hk);clear hD hk;go_wp2_with fail
   go_fit HMN.out;rintro e w4 ⟨ho,hb4⟩;have H4:=qh (H3.out.trans (hb4.mono H3.out.size));rcases ho with rfl | ⟨mv,M,px,prows,rfl,hMr,hMi,hG,hmx⟩
   ·have HX:=qh (HTB.out _ H4.out);clear hb4 HTB;go_wp2_with fail
    go_fit HX.out;rintro e w5 ⟨rfl,hb⟩;have HB:=qh hb;clear hb;go_wp2_with fail
    go_ret
    exact⟨rfl,HB.out⟩
   ·have hDW:=HD.out.1.below hb4;have HPM:=qh (JT hDW);have HMI:Hid (IsMin (zIK (zI L)) M∧QT w4 mv M):=qh ⟨hMi,hMr⟩;clear hb4 hMr hMi hG hmx hDW HMN;go_wp2_with fail
    go_fit HPM.out;rintro e w5 ⟨xp,M2,rfl,hX,hXi,hb5⟩;have hMM:M2=M:=Vb (hXi.conv (tabL_says HD.out.2).2) HMI.out.1;subst hMM;have H5:=qh (And.intro hX (And.intro (HMI.out.2.below hb5) (H4.out.trans (hb5.mono H4.out.size))));have HOK:=qh HMI.out.1.ok;clear hX hXi hb5 HPM HMI HD;obtain⟨B,mo,mc,rfl,hm0,hmc⟩:=H5.out.2.1.box;obtain⟨n,hn⟩:∃n,M2.n=n:=⟨_,rfl⟩;have HN:=qh hn;have hnb:n≤2000:=(by rw[←hn];exact H5.out.1.few);rw[hn] at hm0 hmc;have HST:=qh (fun (W:World) (hb:Below w5.heap.size w5 W) (k:Int) (b:Nat) (hb2:b<256)=>((XI (H5.out.1.below hb) k b hb2).mono fun e w' h=>(⟨h.1,hb.trans (h.2.mono hb.size)⟩:e= .returned (.int .i64 (M2.to k b))∧Below w5.heap.size w5 w')));have HAC:=qh (fun (W:World) (hb:Below w5.heap.size w5 W) (k:Int)=>((JS (H5.out.1.below hb) k).mono fun e w' h=>(⟨h.1,hb.trans (h.2.mono hb.size)⟩:e= .returned (.int .i64 (M2.acc k))∧Below w5.heap.size w5 w')));have HSN:=qh (fun (W:World) (hb:Below w5.heap.size w5 W)=>((kI (H5.out.1.below hb)).mono fun e w' h=>(⟨by rw[h.1,hn],hb.trans (h.2.mono hb.size)⟩:e= .returned (.int .i64 (n:Int))∧Below w5.heap.size w5 w')));have HRD:=qh (fun (W:World) (hb:Below w5.heap.size w5 W)=>H5.out.2.1.below hb);have HBX:=qh (fun (W:World) (hb:Below w5.heap.size w5 W)=>(keep_below (fun _=>True) hb).cell hm0 trivial);have kk:=Below.refl w5.heap.size w5;have kd:=kk.drew;have hnn:((n:Int) != (n:Int))=false:=(by simp);have hnn2:((n:Int)==(n:Int))=true:=(by simp);clear hn;go_wp2_with fail
    go_region_held3 (fun V=>V.cell? ⟨B,0,none⟩=some (.slice mo n mc))
     (first | with_reducible exact HBX.out _ kk | with_reducible exact HBX.out _ kd)
     (first | (go_at_call 16;go_fit (HSN.out _ ?_);(first | with_reducible exact kk | with_reducible exact kd);rintro e vv ⟨rfl,kk⟩))
    all_goals
     have hx0:=HBX.out _ kk;go_wp2_with fail
     go_loopw [11] (fun s11 wr=>∃k:Nat,s11= .int .i64 (k:Int)∧k≤n∧Hid (Below w5.heap.size w5 wr)) (fun s11 _=>n-(intOf s11).toNat)
     case atStart=>exact⟨0,rfl,Nat.zero_le _,qh (by first | exact kk | exact kd)⟩
     case round=>
      obtain⟨k,rfl,hk,HX⟩:=hrel;clear kk kd hx0;have kk:=HX.out;have hx0:=HBX.out _ kk;have k0:(0:Int)≤(k:Int):=(by omega);have kb:(k:Int)≤2000:=(by omega);by_cases hlt:k<n
      ·have hli:(k:Int)<(n:Int):=(by omega);go_wp2_with fail
       go_loopw [12] (fun s12 wr=>∃b:Nat,s12= .int .i64 (b:Int)∧b≤256∧Hid (Below w5.heap.size w5 wr)) (fun s12 _=>256-(intOf s12).toNat)
       case atStart=>exact⟨0,rfl,Nat.zero_le _,HX⟩
       case round=>
        obtain⟨b,rfl,hb,HY⟩:=hrel;clear kk hx0 HX;have kk:=HY.out;have hx0:=HBX.out _ kk;have b0:(0:Int)≤(b:Int):=(by omega);have bb:(b:Int)≤256:=(by omega);by_cases hlb:b<256
        ·have hbi:(b:Int)<256:=(by omega);have hbw:IntKind.u8.wrap (b:Int)=(b:Int):=(by apply IntWalk.u8_in<;>omega);obtain⟨B2,g,o,cap,u,l,hve,c0,hcap,_,c1,hl,hll,hto⟩:=(HRD.out _ kk).row HOK.out (i:=k) (by rw[HN.out];exact hlt);cases hve;rw[HN.out] at c0 hcap;obtain⟨z,hz⟩:∃z,l[b]? =some z:=⟨_,List.getElem?_eq_getElem (by omega)⟩;obtain⟨g2,o2,cap2,rfl,hc2,c2⟩:=hl.at_ hz;rw[hll] at c1 hc2;have hzz:M2.to (k:Int) b=z:=(by rw[hto b,zj hz]);have HC:=qh (fun (V:World) (hv:Below w5.heap.size w5 V)=>(And.intro (HBX.out V hv) trivial:V.cell? ⟨B,0,none⟩=some (.slice mo n mc)∧True));have e0:mo=some ⟨g,o,none⟩∧mc=cap:=by
          rw[hx0] at c0;cases c0;exact⟨rfl,rfl⟩
         obtain⟨rfl,rfl⟩:=e0;have HCC:=qh (fun (V:World) (hv:Below wr.heap.size wr V)=>(And.intro ((keep_below (fun _=>True) hv).cell c0 trivial) (And.intro ((keep_below (fun _=>True) hv).cell c1 trivial) ((keep_below (fun _=>True) hv).cell c2 trivial))));have HSB:=qh (fun (W:World) (hv:Below wr.heap.size wr W)=>((XI (H5.out.1.below (kk.trans (hv.mono kk.size))) (k:Int) b hlb).mono fun e w' h=>(⟨by rw[h.1,hzz],(kk.trans (hv.mono kk.size)).trans (h.2.mono (kk.trans (hv.mono kk.size)).size),hv.trans (h.2.mono hv.size)⟩:e= .returned (.int .i64 z)∧Below w5.heap.size w5 w'∧Below wr.heap.size wr w')));have q0:=Below.refl wr.heap.size wr;have q1:=q0.drew;have hzn:(z != z)=false:=(by simp);have hzn2:(z==z)=true:=(by simp);have hb256:(b:Int)<((256:Nat):Int):=(by omega);clear hl hto hz hzz HC;go_wp2_with fail
         go_region_held3 (fun V=>V.cell? ⟨B,0,none⟩=some (.slice (some ⟨g,o,none⟩) n mc)∧V.cell? ⟨g,o+k,none⟩=some (.slice (some ⟨g2,o2,none⟩) 256 cap2)∧V.cell? ⟨g2,o2+b,none⟩=some (.int .i64 z))
          (first | with_reducible exact HCC.out _ q0 | with_reducible exact HCC.out _ q1 | exact HCC.out _ q2)
          (first | (go_at_call 17;go_fit (HSB.out _ ?_);(first | with_reducible exact q0 | with_reducible exact q1);rintro e vv ⟨rfl,kk2,qq⟩;have q2:=qq))
         all_goals
          go_wp2_with fail
          go_roundw
          case rel=>exact⟨b+1,by go_num,by omega,qh (by first | exact kk2 | exact kk2.drew)⟩
          case measure=>simp[intOf]<;>omega
        ·have hbi:¬(b:Int)<256:=(by omega);obtain⟨B2,g,o,rc,hve,c0,hrc,c1⟩:=(HRD.out _ kk).rules (i:=k) (by rw[HN.out];exact hlt);cases hve;rw[HN.out] at c0 hrc;obtain⟨z,hz⟩:∃z,M2.acc (k:Int)=z:=⟨_,rfl⟩;rw[hz] at c1;have HCC:=qh (fun (V:World) (hv:Below wr.heap.size wr V)=>(And.intro ((keep_below (fun _=>True) hv).cell c0 trivial) ((keep_below (fun _=>True) hv).cell c1 trivial)));have HSB:=qh (fun (W:World) (hv:Below wr.heap.size wr W)=>((JS (H5.out.1.below (kk.trans (hv.mono kk.size))) (k:Int)).mono fun e w' h=>(⟨by rw[h.1,hz],(kk.trans (hv.mono kk.size)).trans (h.2.mono (kk.trans (hv.mono kk.size)).size),hv.trans (h.2.mono hv.size)⟩:e= .returned (.int .i64 z)∧Below w5.heap.size w5 w'∧Below wr.heap.size wr w')));have q0:=Below.refl wr.heap.size wr;have q1:=q0.drew;have hzn:(z != z)=false:=(by simp);have hzn2:(z==z)=true:=(by simp);clear hz;go_wp2_with fail
         go_region_held3 (fun V=>V.cell? ⟨B,1,none⟩=some (.slice (some ⟨g,o,none⟩) n rc)∧V.cell? ⟨g,o+k,none⟩=some (.int .i64 z))
          (first | with_reducible exact HCC.out _ q0 | with_reducible exact HCC.out _ q1 | exact HCC.out _ q2)
          (first | (go_at_call 18;go_fit (HSB.out _ ?_);(first | with_reducible exact q0 | with_reducible exact q1);rintro e vv ⟨rfl,kk2,qq⟩;have q2:=qq))
         all_goals
          go_wp2_with fail
          go_roundw
          case rel=>exact⟨k+1,by go_num,hlt,qh (by first | exact kk2 | exact kk2.drew)⟩
          case measure=>simp[intOf]<;>omega
      ·have hli:¬(k:Int)<(n:Int):=(by omega);have o1:=zFQ M2 (k:= -1) 97 (.inl (by decide));have o2:=zFQ M2 (k:=(n:Int)) 97 (.inr (by rw[HN.out];exact Int.le_refl _));have o3:=zCJ M2 HOK.out (k:= -1) (.inl (by decide));have o4:=zCJ M2 HOK.out (k:=(n:Int)) (.inr (by rw[HN.out];exact Int.le_refl _));have HO:=qh (And.intro o1 (And.intro o2 (And.intro o3 o4)));have HS1:=HST.out _ kk (-1) 97 (by decide);rw[o1] at HS1;have HS1:=qh HS1;clear o1 o2 o3 o4;go_wp2_with fail
       go_fit HS1.out;rintro e w6 ⟨rfl,k6⟩;have hx6:=HBX.out _ k6;have HS2:=HST.out _ k6 (n:Int) 97 (by decide);rw[HO.out.2.1] at HS2;have HS2:=qh HS2;clear hx0 HS1;go_wp2_with fail
       go_fit HS2.out;rintro e w7 ⟨rfl,k7⟩;have HS3:=HAC.out _ k7 (-1);rw[HO.out.2.2.1] at HS3;have HS3:=qh HS3;clear hx6 HS2;go_wp2_with fail
       go_fit HS3.out;rintro e w8 ⟨rfl,k8⟩;have hx8:=HBX.out _ k8;have HS4:=HAC.out _ k8 (n:Int);rw[HO.out.2.2.2] at HS4;have HS4:=qh HS4;clear HS3;go_wp2_with fail
       go_fit HS4.out;rintro e w9 ⟨rfl,k9⟩;have HX9:=qh (HTB.out _ (H5.out.2.2.trans (k9.mono H5.out.2.2.size)));clear hx8 HS4;go_wp2_with fail
       go_fit HX9.out;rintro e w10 ⟨rfl,hb⟩;have HB:=qh hb;clear hb;go_wp2_with fail
       go_ret
       exact⟨rfl,HB.out⟩
  ·have HD:=qh (And.intro h4 (And.intro h5 h6));clear h4 h5 h6;go_wp2_with fail
   go_fit HMN.out;rintro e w4 ⟨ho,hb4⟩;have H4:=qh (H3.out.trans (hb4.mono H3.out.size));rcases ho with rfl | ⟨mv,M,px,prows,rfl,hMr,hMi,hG,hmx⟩
   ·have HX:=qh (HTB.out _ H4.out);clear hb4 HTB;go_wp2_with fail
    go_fit HX.out;rintro e w5 ⟨rfl,hb⟩;have HB:=qh hb;clear hb;go_wp2_with fail
    go_ret
    exact⟨rfl,HB.out⟩
   ·exfalso;have:=zAU (zI L) (nodes_good L) hG rfl _ HD.out.1 HD.out.2.1;have:=HD.out.2.2;omega
end Go.Proofs.YtjeomlickkpebaaGreatDoor
