/-
  dfas.DFA: parted: what it returns.
-/
import Derived.Test.YtjeomlickkpebaaGreatDoorBe40
namespace Go.Proofs.YtjeomlickkpebaaGreatDoor
open Go.RowKit
def zJ1 (w w':World) (d:Dfa) (e:Ending):Prop:=
 ∃O ob,e= .returned (.tuple #[.slice (some ⟨O,0,none⟩) (d.n+1) (d.n+1),.int .i64 (d.n:Int)])∧ArrF w' O (d.n+1) (jL ob)∧zCU d (fun i k=>decide (ob i≠ob k))∧(∀y,y<d.n+1→ob y<d.n+1)∧Below w.heap.size w w'
theorem zF5 {d:Dfa} {k:Nat} (hk:k<d.n) (i:Nat):(if i=k then d.acc (k:Int) else ruF d k i)=ruF d (k+1) i:=by
 unfold ruF;by_cases c:i=k
 ·subst c;rw[if_pos rfl,if_pos (Nat.lt_succ_self _)]
 ·rw[if_neg c];by_cases e:i<k
  ·rw[if_pos e,if_pos (by omega)]
  ·rw[if_neg e,if_neg (show ¬i<k+1 by omega)]
theorem zHG (d:Dfa) (i:Nat) (hi:i≤d.n):ruF d d.n i=ruN d i:=by
 unfold ruF ruN;by_cases c:i<d.n
 ·rw[if_pos c,if_pos c]
 ·rw[if_neg c,if_neg c,if_pos (by omega)]
theorem zF6 {w:World} {ce zD:List Value} (hz:zx=zD) (hl:ce.length=257) (h1:∀x,x∈ce→x.oneCell'=true):
  ∃W1 W2,w.alloc (.cells zD.toArray 92)=W1∧(storeCells ⟨w.heap.size,0,none⟩ ce 0).run Tryz.prog W1= .ok () W2∧jq W2 w.heap.size ce∧Below w.heap.size w W2:=by
 subst hz;have hb:=zA w (.cells zx.toArray 92);have hn:=jq.new w zx;obtain⟨a1,a2,a3⟩:=hn.store (ds:=ce) qG hl h1;exact⟨_,_,rfl,a1,a2,KeepW.below hb a3 hb.size (fun k hk e=>by omega)⟩
set_option maxRecDepth 8000 in
set_option maxHeartbeats 8000000 in
theorem KW {w:World} {v:Value} {d:Dfa} (h0:DfW w v d):
  Calls Tryz.prog 36 #[v] w fun e w'=>zJ1 w w' d e:=by
 have h:=h0.1;have hd:=h0.ok;have HHI:=qh (fun q=>h0.high q);have hp:=hd.pos;obtain⟨DB,dg,dof,dcap,rfl,d0,hdc,hall⟩:=h.all hp;have hfew:=h.few;have HD:=qh hd;have HALL:=qh hall;have HACC:=qh (fun q=>h.acc_low q);have HTO:=qh (fun q b=>hd.to_in q b);obtain⟨n,hn⟩:∃n,d.n=n:=⟨_,rfl⟩;have HN:=qh hn;rw[hn] at d0 hdc hfew hp HALL HTO;have nb:(n:Int)≤2000:=by omega
 have n0:(0:Int)≤(n:Int):=by omega
 have hz:=Tryz.zeroStD;have hmk1:=zBO (n+1) (by omega);have hmk2:=zIG (n+1) (by omega);have e1:(((n+1:Nat):Int))=(n:Int)+1:=by omega
 rw[e1] at hmk1 hmk2;obtain⟨zD,hzD⟩:∃z,zx=z:=⟨_,rfl⟩;rw[hzD] at hz;have HZD:=qh hzD;have HD0:=qh d0;clear h hd h0 hall hn e1 hzD;go_enter Tryz.func36,Tryz.ntmps36;go_wp2
 go_cut [4,5] from 13 (fun s4 s5 W=>∃RU G,s4= .slice (some ⟨RU,0,none⟩) (n+1) (n+1)∧s5= .slice (some ⟨G,0,none⟩) (n+1) (n+1)∧Hid (yG w W G RU (n+1) (fun _ _=> []) (fun _=>0)))
 case first=>
  go_region
  ·go_wp2
   go_meet
   exact⟨_,_,rfl,rfl,qh (Jb (.inl ⟨rfl,rfl,rfl⟩))⟩
  ·go_wp2
   go_meet
   exact⟨_,_,rfl,rfl,qh (Jb (.inr ⟨rfl,rfl,rfl⟩))⟩
 case rest=>
  obtain⟨RU,G,rfl,rfl,HT⟩:=hcut;have a1:=HT.out.arr.cell (i:=n) (by omega);have a2:=HT.out.arr.frozen n;have a3:=HT.out.arr.lt;have H1:Hid (yG w (wc.setCell ⟨RU,n,none⟩ (.int .i64 (-1))) G RU (n+1) (KU n 0) (ruF d 0)):=qh ((HT.out.rule n (-1)).congr (fun z b _ _=>by
   unfold KU;rw[if_neg (by omega)]) (fun i _=>by
   unfold ruF;rw[if_neg (Nat.not_lt_zero _),HN.out]))
  clear hmk1 hmk2 HT;go_wp2
  generalize hWS:World.setCell wc _ _=WS at H1 ⊢;clear a1 a2 a3 hWS d0;go_loopw [27] (fun s27 wr=>∃b:Nat,s27= .int .i64 (b:Int)∧b≤256∧Hid (yG w wr G RU (n+1) (KU n b) (ruF d 0))) (fun s27 _=>256-(intOf s27).toNat)
  case atStart=>exact⟨0,rfl,by decide,H1⟩
  case round=>
   clear H1;obtain⟨b,rfl,hb,HX⟩:=hrel;have b0:(0:Int)≤(b:Int):=(by omega);rcases (show b=256∨b<256 by omega) with hb2 | hb2
   ·subst hb2;have hbi:¬((256:Nat):Int)<256:=(by omega);have d0:=(keep_below (fun _=>True) HX.out.below).cell HD0.out trivial;have HX2:Hid (yG w wr G RU (n+1) (bkF d 0) (ruF d 0)):=qh (HX.out.congr (fun z b _ hb=>by
     unfold KU bkF;rw[HN.out,List.range_zero,List.filter_nil,List.append_nil];by_cases c:z=n
     ·rw[if_pos ⟨c,hb⟩,if_pos c]
     ·rw[if_neg (fun e=>c e.1),if_neg c]) (fun _ _=>rfl))
    clear HX;go_wp2
    clear d0;go_loopw [43] (fun s43 wr=>∃k:Nat,s43= .int .i64 (k:Int)∧k≤n∧Hid (yG w wr G RU (n+1) (bkF d k) (ruF d k))) (fun s43 _=>n-(intOf s43).toNat)
    case atStart=>exact⟨0,rfl,Nat.zero_le _,HX2⟩
    case round=>
     clear HX2;obtain⟨k,rfl,hk,HX⟩:=hrel;have k0:(0:Int)≤(k:Int):=(by omega);by_cases hlt:k<n
     ·have hli:(k:Int)<(n:Int):=(by omega);obtain⟨r,hr,hto,hrg⟩:=HALL.out k hlt;have kB:=keep_below (fun _=>True) HX.out.below;obtain⟨ce,hce⟩:∃ce,staD (r,d.acc (k:Int))=ce:=⟨_,rfl⟩;have hcl:ce.length=257:=(by rw[←hce];exact qC hr);have hc1:∀x,x∈ce→x.oneCell'=true:=(by rw[←hce];exact QK);have hld:wr.rangeAt dg (dof+k*257) ce:=fun j x hx=>kB.cell (hrg j x (by rw[hce];exact hx)) trivial;obtain⟨W1,W2,hW1,hst,hbk,hbW⟩:=zF6 (w:=wr) HZD.out hcl hc1;have hrc:∀(j:Nat) x,(r.map (Value.int .i64))[j]? =some x→ce[j]? =some x:=fun j x hx=>(by rw[←hce];exact sta_row _ j x hx);have hac:ce[256]? =some (.int .i64 (d.acc (k:Int))):=(by rw[←hce];exact Z3 hr);obtain⟨ac,haq⟩:∃ac,d.acc (k:Int)=ac:=⟨_,rfl⟩;rw[haq] at hac;have hcr:=hbk.cell hac;have T2:=HX.out.under hbW;have a1:=T2.arr.cell (i:=k) (by omega);have a2:=T2.arr.frozen k;have a3:=T2.arr.lt;have H3:Hid (yG w (W2.setCell ⟨RU,k,none⟩ (.int .i64 ac)) G RU (n+1) (bkG d k 0) (ruF d (k+1))∧(W2.setCell ⟨RU,k,none⟩ (.int .i64 ac)).rangeAt wr.heap.size 0 (r.map (Value.int .i64))):=qh (by
       refine⟨(T2.rule k ac).congr (fun z b _ _=>zB8.symm) (fun i _=> ?_),fun j x hx=> ?_⟩
       ·rw[←haq];exact zF5 (by rw[HN.out];exact hlt) i
       ·have hne:RU≠wr.heap.size:=fun e=>(by have:=HX.out.arr.lt;omega);rw[Nat.zero_add];exact (zE (ok:=fun q=>q≠RU) RU k none (.int .i64 ac) W2 fun h=>h rfl).cell (hbk.cell (hrc j x hx)) (fun e=>hne e.symm))
      have hsz:(Tryz.prog.info? 92).map (·.size)=some ce.length:=(by rw[hcl];exact Tryz.sizeStD);obtain⟨ra,hra⟩:∃ra,r.map (Value.int .i64)=ra:=⟨_,rfl⟩;have HRA:Hid (∀b:Nat,b<256→ra.toArray[b]? =some (.int .i64 (d.to (k:Int) b))):=qh fun b hb=>by
       rw[←hra,List.getElem?_toArray,List.getElem?_map,hto b hb];rfl
      have hral:ra.length=256:=(by rw[←hra,List.length_map];exact hr);rw[hra] at H3;have hrr:=H3.out.2;have hsr:(Tryz.prog.info? 90).map (·.size)=some ra.length:=(by rw[hral];exact Tryz.sizeRowD);clear hce hc1 hrg kB hrc hac haq T2 hbk hto hr hbW hra
      go_wp2_with (first
       | refine wpList_load_mid rfl 92 _ rfl dg (dof+k*257) rfl ce _ hld Tryz.underlying92 rfl hsz ?_
       | refine wpList_load_mid rfl 90 _ rfl wr.heap.size 0 rfl ra _ hrr Tryz.rowD rfl hsr ?_)
      generalize hWS:World.setCell W2 _ _=WS at H3 ⊢;have H4:=qh H3.out.1;clear hld hW1 hst hcl hcr a1 a2 a3 hsz hral hrr hsr hWS H3 HX;go_loopw [55] (fun s55 wr=>∃b:Nat,s55= .int .i64 (b:Int)∧b≤256∧Hid (yG w wr G RU (n+1) (bkG d k b) (ruF d (k+1)))) (fun s55 _=>256-(intOf s55).toNat)
      case atStart=>exact⟨0,rfl,by decide,H4⟩
      case round=>
       clear H4;obtain⟨b,rfl,hb,HX⟩:=hrel;have b0:(0:Int)≤(b:Int):=(by omega);rcases (show b=256∨b<256 by omega) with hb2 | hb2
       ·subst hb2;have hbi:¬((256:Nat):Int)<256:=(by omega);have HX2:Hid (yG w wr G RU (n+1) (bkF d (k+1)) (ruF d (k+1))):=qh (HX.out.congr (fun z b _ hb=>zGU hb) (fun _ _=>rfl));clear HX;go_wp2
        go_roundw
        case rel=>exact⟨k+1,by go_num,by omega,HX2⟩
        case measure=>simp[intOf]<;>omega
       ·have hbi:(b:Int)<256:=(by omega);have hix:=VM hb2 (HRA.out b hb2);have htd:=HTO.out (k:Int) b;obtain⟨x,hx⟩:∃x,d.to (k:Int) b=x:=⟨_,rfl⟩;rw[hx] at hix htd;obtain⟨t,ht,htn,HTX⟩:∃t:Nat,(if x= -1 then (n:Int) else x)=(t:Int)∧t≤n∧Hid (toN d k b=t):=by
         by_cases c:x= -1
         ·refine⟨n,if_pos c,Nat.le_refl _,qh ?_⟩;rw[ZD (by rw[hx];omega),HN.out]
         ·refine⟨x.toNat,by rw[if_neg c];omega,by omega,qh ?_⟩;rw[Xa (by rw[HN.out];exact hlt) (by rw[hx];omega),hx]
        have HT1:=HX.out.under (wr':=wr.drew) (Below.refl _ _).drew;obtain⟨ao0,cap0,p1,ao,cap,w2,hrun,p2,p3,p4,HT2⟩:=HT1.push (z:=t) (b:=b) (by omega) hb2 k (by have:=zGV (d:=d) (k:=k) (B:=b) (z:=t) (b:=b);omega);obtain⟨ln,hln⟩:∃ln,(bkG d k b t b).length=ln:=⟨_,rfl⟩;rw[hln] at p1 hrun p4;have p1:wr.cell? ⟨G,t*256+b,none⟩=some (.slice ao0 ln cap0):=p1;have p5:=(keep_below (fun _=>True) (zA wr (.cells #[.int .i64 (k:Int)] 3))).cell p1 trivial;rw[show wr.drew.alloc (.cells #[.int .i64 (k:Int)] 3)=(wr.alloc (.cells #[.int .i64 (k:Int)] 3)).drew from rfl,show wr.drew.heap.size=wr.heap.size from rfl] at hrun;have H5:Hid (yG w (w2.setCell ⟨G,t*256+b,none⟩ (.slice ao (ln+1) cap)) G RU (n+1) (bkG d k (b+1)) (ruF d (k+1))):=qh (by
         rw[hln] at HT2;refine HT2.congr (fun z b' hz hb'=> ?_) (fun _ _=>rfl);unfold zEM;by_cases c:z=t∧b'=b
         ·obtain⟨rfl,rfl⟩:=c;rw[if_pos ⟨rfl,rfl⟩];have:=zE9 (d:=d) (k:=k) (B:=b');rw[HTX.out] at this;exact this.symm
         ·rw[if_neg c];exact (zB9 (by rw[HTX.out];exact c)).symm)
        have t0:(0:Int)≤(t:Int):=(by omega);clear HT1 HT2 hln HX htd hx;have tn1:(t:Int)<(n:Int)+1:=(by omega);have tn2:t<n+1:=(by omega);by_cases c:x= -1
        ·rw[if_pos c] at ht;subst c;obtain rfl:n=t:=(by omega);clear ht;go_wp2
         go_region_law (first
          | (refine zw (by rfl) (.tmp 70) (.tmp 72) 39 (by rfl) (by rfl) (by rfl) hrun ?_))
         all_goals
          go_wp2
          go_roundw
          case rel=>exact⟨b+1,by go_num,hb2,H5⟩
          case measure=>simp[intOf]<;>omega
        ·rw[if_neg c] at ht;subst ht;have hxm:((t:Int)== -1)=false:=beq_eq_false_iff_ne.2 c;clear c;go_wp2
         go_region_law (first
          | (refine zw (by rfl) (.tmp 70) (.tmp 72) 39 (by rfl) (by rfl) (by rfl) hrun ?_))
         all_goals
          go_wp2
          go_roundw
          case rel=>exact⟨b+1,by go_num,hb2,H5⟩
          case measure=>simp[intOf]<;>omega
     ·have hli:¬(k:Int)<(n:Int):=(by omega);have hkn:k=n:=(by omega);have HB:=qh HX.out.below;have HBK:Hid (vJ (fun _=>0) wr G (n+1) (bkF d n)):=qh (by
       have:=HX.out.back
       rwa [hkn] at this)
      have HAR:Hid (ArrF wr RU (n+1) (ruN d)):=qh (HX.out.arr.congr fun i hi=>by
       have h1:=HN.out;have:=zHG d i (by omega)
       rwa [h1,←hkn] at this)
      have HPG:=qh (KV (c:=fun _=>0) (fun _ _=>rfl) HAR.out rfl (fun i _=>by
       have h1:=Kb HD.out i;have h2:ruN d i≤100000:=by
        unfold ruN;split
        ·exact HHI.out _
        ·decide
       omega) (by omega) (by omega) (fun _ _=>by decide))
      clear HX HAR;go_wp2_with fail
      go_fit HPG.out;rintro e w5 ⟨U,S,P,O,cs,bv,Bs,st,pl,ob,c',rfl,x1,x2,x3,x4,x5⟩;obtain⟨wA,rfl⟩:∃x,x=wr:=⟨_,rfl⟩;have H0:Hid (zJ0 wA w5 U S P O cs G (n+1) d (bkF d n) 0 Bs.length):=qh ⟨pale c' 3,bv,Bs,st,pl,ob,x1.paler (fun _=>by decide),x2.pale3,x3,x4,zAL (fun y z hy hz=>x5 y z (by have:=HN.out;omega) (by have:=HN.out;omega)),(HBK.out.step x1 (by decide)).pale,vF c',rfl⟩;have hf0:=x3.few;obtain⟨nb0,hnb0⟩:∃nb,Bs.length=nb:=⟨_,rfl⟩;rw[hnb0] at H0 hf0;clear x1 x2 x3 x4 x5 hnb0 HPG;go_wp2_with fail
      go_loopw [12] (fun s12 wr=>∃j nb:Nat,s12= .int .i64 (j:Int)∧j≤nb∧nb≤n+1∧Hid (zJ0 wA wr U S P O cs G (n+1) d (bkF d n) j nb)) (fun s12 _=>n+1-(intOf s12).toNat)
      case atStart=>exact⟨0,nb0,rfl,Nat.zero_le _,hf0,H0⟩
      case round=>
       clear H0;obtain⟨j,nb,rfl,hj,hnb,HX⟩:=hrel;obtain⟨c1,bv1,Bs1,st1,pl1,ob1,y1,y2,y3,y4,y5,y6,y7,y8⟩:=HX.out;obtain⟨ao1,cap1,rfl,hcap1⟩:=y2.g.form;obtain⟨z0,z1,z2,z3,z4,z5⟩:=y2.boxed;rw[y8] at z2 hcap1;have j0:(0:Int)≤(j:Int):=(by omega);by_cases hlj:j<nb
       ·have hlji:(j:Int)<(nb:Int):=(by omega);have HPB:=qh (zH2 (q0:=j) (gcap:=n+1) y2 y3 y4 HD.out (by rw[HN.out]) (by omega) y6 (by have:=zI5 (d:=d);rwa [HN.out] at this) (by omega) (fun k _=>y7 k));have HYY:=qh (And.intro y1 (And.intro y5 (And.intro y7 y8)));clear y1 y2 y3 y4 y5 y6 y7 y8 HX z0 z1 z3;go_wp2_with fail
        go_fit HPB.out;rintro e w6 ⟨rfl,v6,ws6,c6,bv6,Bs6,st6,pl6,ob6,q1,q2,q3,q4,q5,q6,q7,q8⟩;have H6:Hid (zJ0 wA w6 U S P O cs G (n+1) d (bkF d n) (j+1) Bs6.length):=qh (by
         obtain⟨y1,y5,y7,y8⟩:=HYY.out;exact⟨pale c6 3,bv6,Bs6,st6,pl6,ob6,y1.trans (q1.paler y7),q2.pale3,q3,q4,zDV HD.out y5 q5 (by omega),q8.pale,vF c6,rfl⟩)
        have hf6:=q3.few;have hf7:j+1≤Bs6.length:=(by have:=HYY.out.2.2.2;omega);clear q1 q2 q3 q4 q5 q6 q7 q8 HPB HYY;go_wp2
        go_roundw
        case rel=>exact⟨j+1,Bs6.length,by go_num,hf7,hf6,H6⟩
        case measure=>simp[intOf]<;>omega
       ·have hlji:¬(j:Int)<(nb:Int):=(by omega);have HF:Hid (zJ1 w wr d (.returned (.tuple #[.slice (some ⟨O,0,none⟩) (n+1) (n+1),.int .i64 (n:Int)]))):=qh (by
         unfold zJ1;rw[HN.out];refine⟨O,ob1,rfl,y2.o,zGC HD.out y5 (fun y hy=> ?_),fun y hy=>Nat.lt_of_lt_of_le (y3.lt hy) y3.few,HB.out.trans ((y1.under0 (by decide)).mono HB.out.size)⟩;have h1:=y3.lt (x:=y) (by have:=HN.out;omega);omega)
        clear y1 y2 y3 y4 y5 y6 y7 y8 HX z0 z1;go_wp2
        go_ret2
        exact HF.out
   ·have hbi:(b:Int)<256:=(by omega);have HXa:=HX.out.under (zA wr (.cells #[.int .i64 (n:Int)] 3));obtain⟨c,_,y2,_⟩:=HXa;obtain⟨u,hu,_⟩:=y2.at_ (z:=n) (b:=b) (by omega) hb2;have hfz:=y2.frozen (n*256+b);have hgl:=y2.lt;have H2:Hid (yG w ((wr.alloc (.cells #[.int .i64 (n:Int)] 3)).setCell ⟨G,n*256+b,none⟩ (.slice (some ⟨wr.heap.size,0,none⟩) 1 1)) G RU (n+1) (KU n (b+1)) (ruF d 0)):=qh ((HX.out.sink (z:=n) hb2 n).congr (fun z b' _ _=>by
     unfold zEM KU;by_cases c:z=n∧b'=b
     ·rw[if_pos c,if_pos ⟨c.1,by omega⟩]
     ·rw[if_neg c];by_cases e:z=n∧b'<b
      ·rw[if_pos e,if_pos ⟨e.1,by omega⟩]
      ·rw[if_neg e,if_neg (by omega)]) (fun _ _=>rfl))
    clear y2 HX;go_wp2
    go_roundw
    case rel=>exact⟨b+1,by go_num,hb2,H2⟩
    case measure=>simp[intOf]<;>omega
end Go.Proofs.YtjeomlickkpebaaGreatDoor
