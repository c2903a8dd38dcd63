/-
  limnerlaw12.DfasMatch: it returns true, for any rules, text and place.
-/
import Derived.Test.YtjeomlickkpebaaGreatDoorBe2
import Derived.Test.YtjeomlickkpebaaGreatDoorBe47
import Derived.Test.YtjeomlickkpebaaGreatDoorBe37
import Derived.Test.YtjeomlickkpebaaGreatDoorBe46
import Derived.Test.YtjeomlickkpebaaGreatDoorBe36
namespace Go.Proofs.YtjeomlickkpebaaGreatDoor
open Go.RowKit
theorem small_70 {L:List ByteArray} (h:greatD L=false):makeE L≠70:=by
 obtain⟨h1,h2⟩:=greatd_false h;have hs:∀l:List ByteArray,(∀s,s∈l→s.size≤24)→sizeP l≤24*l.length:=fun l=>by
  induction l with
  | nil=>exact fun _=>Nat.le_refl _
  | cons s l ih=>
   intro hl;have h3:=hl s (by simp);have h4:=ih fun t ht=>hl t (by simp[ht]);rw[sizeP,List.length_cons];omega
 have h3:=hs L h2;have h4:=errs_cases L;unfold makeE;split
 ·decide
 ·split
  ·omega
  ·rw[if_neg (by omega)];decide
def FulI (rs:List RuN) (i:Nat) (f:Bool):Prop:=f=true→∀r,r∈rs.take i→FullN r
def FulK (rs:List RuN) (i:Nat) (r:RuN) (k:Nat) (f:Bool):Prop:=f=true→(∀r,r∈rs.take i→FullN r)∧∀s,s∈(r.sets.take k).tail→∃b,b<256∧hasR s b=true
theorem fulK_start {rs:List RuN} {i:Nat} {r:RuN} {f:Bool} (h:FulI rs i f):FulK rs i r 1 f:=fun e=>⟨h e,fun s hs=>by
 cases hr:r.sets with
 | nil=>rw[hr] at hs;simp at hs
 | cons a l=>rw[hr] at hs;simp at hs⟩
theorem fulK_end {rs:List RuN} {i:Nat} {r:RuN} {f:Bool} (hr:rs[i]? =some r) (h:FulK rs i r r.sets.length f):FulI rs (i+1) f:=fun e q hq=>by
 rw[List.take_add_one,hr,List.mem_append] at hq;rcases hq with hq | hq
 ·exact (h e).1 q hq
 ·have:q=r:=by simpa using hq
  subst this;intro s hs;have:=(h e).2 s;rw[List.take_length] at this;exact this hs
theorem fulK_step {rs:List RuN} {i k:Nat} {r:RuN} {s:St4} {f g:Bool} (h:FulK rs i r k f) (hs:r.sets[k]? =some s) (hk:1≤k) (hg:g=true→f=true∧∃b,b<256∧hasR s b=true):FulK rs i r (k+1) g:=fun e=>by
 obtain⟨e1,e2⟩:=hg e;refine⟨(h e1).1,fun t ht=> ?_⟩;rw[List.take_add_one,hs] at ht;have hne:r.sets.take k≠ []:=fun e=>by
  have h1:=congrArg List.length e;have h2:=(List.getElem?_eq_some_iff.1 hs).1;rw[List.length_take,List.length_nil] at h1;omega
 rw[List.tail_append_of_ne_nil hne,List.mem_append] at ht;rcases ht with ht | ht
 ·exact (h e1).2 t ht
 ·have:t=s:=by simpa using ht
  rw[this];exact e2
set_option maxRecDepth 4000 in
set_option maxHeartbeats 16000000 in
theorem dfasMatch_any (v:Value) (L:List ByteArray) (s:ByteArray) (at_:Int) (w:World) (he:EnvW w) (h:StrsW w v L):
  Calls Tryz.prog 4 #[v,.string s,.int .i64 at_] w fun e w'=>e= .returned (.bool true)∧Below w.heap.size w w':=by
 have HTB:=qh (fun (W:World) (hb:Below w.heap.size w W)=>(tabled_any (he.below hb)).mono fun e w' h2=>(⟨h2.1,hb.trans (h2.2.mono hb.size)⟩:e= .returned (.bool true)∧Below w.heap.size w w'));have HG:=qh (greatd_any h);have HMD:=qh (fun (W:World) (hb:Below w.heap.size w W)=>dmade_any (h.below hb) (he.below hb));have HRU:=qh (rrules_any h);obtain⟨vo,vc,rfl,hvc⟩:=h.form;obtain⟨m,hm⟩:∃m,L.length=m:=⟨_,rfl⟩;rw[hm] at hvc HG HMD HRU ⊢;have HS7:=qh (small_70 (L:=L));obtain⟨gb,hgb⟩:∃gb,greatD L=gb:=⟨_,rfl⟩;rw[hgb] at HG HS7;obtain⟨er,her⟩:∃er,makeE L=er:=⟨_,rfl⟩;rw[her] at HRU HS7;have HE:=qh her;have hs0:(0:Int)≤(s.size:Int):=by omega
 clear h hm hgb her he;cases gb with
 | true=>
  go_enter Tryz.func4,Tryz.ntmps4;go_wp2_with fail
  go_fit HG.out;rintro e w1 ⟨rfl,rfl⟩;have HX:=qh (HTB.out _ (Below.refl _ _));clear HMD HRU HE HTB;go_wp2_with fail
  go_fit HX.out;rintro e w9 ⟨rfl,hb⟩;have HB:=qh hb;clear hb;go_wp2_with fail
  go_ret
  exact⟨rfl,HB.out⟩
 | false=>
 have h70:=HS7.out rfl;by_cases hs9:60<s.size
 ·have hsi:(s.size:Int)>60:=by omega
  go_enter Tryz.func4,Tryz.ntmps4;go_wp2_with fail
  go_fit HG.out;rintro e w1 ⟨rfl,rfl⟩;have HX:=qh (HTB.out _ (Below.refl _ _));clear HMD HRU HE HTB;go_wp2_with fail
  go_fit HX.out;rintro e w9 ⟨rfl,hb⟩;have HB:=qh hb;clear hb;go_wp2_with fail
  go_ret
  exact⟨rfl,HB.out⟩
 have hsi:¬(s.size:Int)>60:=by omega
 have hs60:(s.size:Int)≤60:=by omega
 go_enter Tryz.func4,Tryz.ntmps4;go_wp2_with fail
 go_fit HG.out;rintro e w1 ⟨rfl,rfl⟩;go_wp2_with fail
 go_fit HRU.out;rintro e w2 ⟨⟨r,rfl,hr⟩,hb2⟩;have H2:=qh (And.intro hr hb2);clear hr hb2 HRU HG;go_wp2_with fail
 go_fit (HMD.out _ H2.out.2);rintro e w3 ⟨ho,hb3⟩;have H3:=qh (H2.out.2.trans (hb3.mono H2.out.2.size));rcases ho with ⟨hne,rfl⟩ | ⟨h0,np,hnp,ho⟩
 ·have hn0:¬er=0:=by rw[←HE.out];exact hne
  rw[HE.out];have heb:(er==0)=false:=beq_eq_false_iff_ne.2 hn0;have heb2:(er != 0)=true:=by simpa using hn0
  have he7:(er==70)=false:=beq_eq_false_iff_ne.2 h70;have hed:decide (er=0)=false:=decide_eq_false hn0;have hed7:decide (er=70)=false:=decide_eq_false h70;have HX:=qh (HTB.out _ H3.out);clear hne hn0 hb3 HTB HMD h70;go_wp2_with fail
  go_fit HX.out;rintro e w4 ⟨rfl,hb⟩;have HB:=qh hb;clear hb;go_wp2_with fail
  go_ret
  exact⟨rfl,HB.out⟩
 ·have her0:er=0:=by rw[←HE.out];exact h0
  subst her0;have hgl:=(make_good HE.out).2.1;have HRW:Hid (RusW w3 r (rsE L)):=qh ((H2.out.1 rfl).below hb3);clear h0 hnp hb3 hgl H2 h70;rcases ho with ⟨dp,k,rfl,hD,hk⟩ | ⟨rfl,ls,h4,h5,h6⟩
  ·have HD:=qh (And.intro hD hk);clear hD hk HMD;obtain⟨ro,rc,rfl,hrc⟩:=HRW.out.form;rw[rsE_len] at hrc HRW ⊢;obtain⟨rl,hrl⟩:∃rl,L.length=rl:=⟨_,rfl⟩;have HRL:=qh hrl;rw[hrl] at hrc HRW ⊢;clear hrl;have H0:Hid (FulI (rsE L) 0 true):=qh fun _ q hq=>(by simp at hq);have rb:(rl:Int)≤64:=by
    have h1:=(make_good HE.out).2.1;have h2:=HRL.out;omega
   go_wp2_with fail
   go_loop [12,13] (fun s12 s13=>∃(i:Nat) (f:Bool),s12= .bool f∧s13= .int .i64 (i:Int)∧i≤rl∧Hid (FulI (rsE L) i f)) (fun _ s13=>rl-(intOf s13).toNat)
   case atStart=>exact⟨0,true,rfl,rfl,Nat.zero_le _,H0⟩
   case round=>
    clear H0;obtain⟨i,f,rfl,rfl,hi,HZ⟩:=hrel;have i0:(0:Int)≤(i:Int):=(by omega);by_cases hlt:i<rl
    ·have hli:(i:Int)<(rl:Int):=(by omega);obtain⟨q,hq⟩:∃q,(rsE L)[i]? =some q:=⟨_,List.getElem?_eq_getElem (by rw[rsE_len,HRL.out];exact hlt)⟩;obtain⟨g,o,cap,p,hve,c0,hru⟩:=HRW.out.get hq;injection hve with e1 e2 e3
     subst e1;clear e2 e3;have hpos:=hru.pos;have hfew:=hru.few;have HLEN:=qh hru.len;obtain⟨s1,hs1⟩:∃s1,q.sets[0]? =some s1:=⟨_,List.getElem?_eq_getElem (by rw[HLEN.out];exact hpos)⟩;obtain⟨R,sg,so,scap,hpe,d0,hsc,_⟩:=RuO.setAt hru hs1;injection hpe with hpe
     subst hpe;have HRQ:=qh hru;have HQ:=qh hq;obtain⟨mq,hmq⟩:∃mq,q.m=mq:=⟨_,rfl⟩;rw[hmq] at hpos hfew HLEN d0 hsc;have mb:(mq:Int)≤100000:=(by omega);have HMQ:=qh hmq;have H1:Hid (FulK (rsE L) i q 1 f):=qh (fulK_start HZ.out);clear hq hru hs1 hmq HZ;go_wp2_with fail
     go_loop [12,14] (fun s12 s14=>∃(j:Nat) (f:Bool),s12= .bool f∧s14= .int .i64 (j:Int)∧1≤j∧j≤mq∧Hid (FulK (rsE L) i q j f)) (fun _ s14=>mq-(intOf s14).toNat)
     case atStart=>exact⟨1,f,rfl,rfl,Nat.le_refl _,hpos,H1⟩
     case round=>
      clear H1;obtain⟨j,f2,rfl,rfl,hj1,hj,HZ⟩:=hrel;have j0:(0:Int)≤(j:Int):=(by omega);by_cases hlj:j<mq
      ·have hlji:(j:Int)<(mq:Int):=(by omega);obtain⟨st,hst⟩:∃st,q.sets[j]? =some st:=⟨_,List.getElem?_eq_getElem (by rw[HLEN.out];exact hlj)⟩;obtain⟨R2,sg2,so2,scap2,hpe2,d2,_,hcc⟩:=RuO.setAt HRQ.out hst;cases hpe2;rw[HMQ.out] at d2;rw[d0] at d2;cases d2;have a0:=hcc 0 _ (by decide) rfl;have a1:=hcc 1 _ (by decide) rfl;have a2:=hcc 2 _ (by decide) rfl;have a3:=hcc 3 _ (by decide) rfl;rw[Nat.add_zero] at a0;simp only[←Nat.add_assoc] at a0 a1 a2 a3;have HEQ:=qh (fun W=>set_eqIn st noR W);have hok:OkR st:=rsE_ok L q (List.mem_of_getElem? HQ.out) st (List.mem_of_getElem? hst);unfold setV at HEQ;cases f2 with
       | false=>
        have H5:Hid (FulK (rsE L) i q (j+1) false):=qh (fulK_step HZ.out hst hj1 (fun e=>by cases e));clear hcc a0 a1 a2 a3 HEQ hok hst HZ;go_wp2_with fail
        go_round
        case rel=>exact⟨j+1,false,rfl,by go_num,by omega,by omega,H5⟩
        case measure=>simp[intOf]<;>omega
       | true=>
        by_cases hsn:st=noR
        ·rw[decide_eq_true hsn] at HEQ;have heq:∀W,(Op.equalIn 10000 51 (.agg #[.int .u64 (st.1:Int),.int .u64 (st.2.1:Int),.int .u64 (st.2.2.1:Int),.int .u64 (st.2.2.2:Int)]) (.agg #[.int .u64 0,.int .u64 0,.int .u64 0,.int .u64 0])).run Tryz.prog W= .ok true W:=HEQ.out;have H5:Hid (FulK (rsE L) i q (j+1) false):=qh (fulK_step HZ.out hst hj1 (fun e=>by cases e));clear hcc HEQ hok hst HZ hsn;go_wp2_with fail
         go_round
         case rel=>exact⟨j+1,false,rfl,by go_num,by omega,by omega,H5⟩
         case measure=>simp[intOf]<;>omega
        ·have hhas:=set_has hok hsn;rw[decide_eq_false hsn] at HEQ;have heq:∀W,(Op.equalIn 10000 51 (.agg #[.int .u64 (st.1:Int),.int .u64 (st.2.1:Int),.int .u64 (st.2.2.1:Int),.int .u64 (st.2.2.2:Int)]) (.agg #[.int .u64 0,.int .u64 0,.int .u64 0,.int .u64 0])).run Tryz.prog W= .ok false W:=HEQ.out;have H5:Hid (FulK (rsE L) i q (j+1) true):=qh (fulK_step HZ.out hst hj1 (fun _=>⟨rfl,hhas⟩));clear hcc HEQ hok hst HZ hsn hhas;go_wp2_with fail
         go_round
         case rel=>exact⟨j+1,true,rfl,by go_num,by omega,by omega,H5⟩
         case measure=>simp[intOf]<;>omega
      ·have hlji:¬(j:Int)<(mq:Int):=(by omega);have hjm:j=mq:=(by omega);have H5:Hid (FulI (rsE L) (i+1) f2):=qh (fulK_end HQ.out (by rw[HLEN.out,←hjm];exact HZ.out));clear HZ;go_wp2_with fail
       go_round
       case rel=>exact⟨i+1,f2,rfl,by go_num,by omega,H5⟩
       case measure=>simp[intOf]<;>omega
    ·have hli:¬(i:Int)<(rl:Int):=(by omega);have HFU:Hid (f=true→∀n,n∈nodesP L→FullN (ruleN n)):=qh fun e n hn=>HZ.out e _ (by
      rw[List.take_of_length_le (by rw[rsE_len,HRL.out];omega)];unfold rsE;exact List.mem_map.2 ⟨n,hn,rfl⟩)
     have HMN:=qh (pmin_any HD.out.1);clear HZ;go_wp2_with fail
     go_fit HMN.out;rintro e w5 ⟨xp,M,rfl,hX,hXi,hb5⟩;have H5:=qh (And.intro (HD.out.1.below hb5) (And.intro hX (And.intro hXi (H3.out.trans (hb5.mono H3.out.size)))));have HM0:Hid (∀(W:World) (a:Int),Below w5.heap.size w5 W→Calls Tryz.prog 19 #[.slice ro rl rc,.string s,.int .i64 a] W fun e w'=>e= .returned (.tuple #[.int .i64 (matchGA (rsE L) s a).1,.int .i64 (matchGA (rsE L) s a).2,.int .i64 (farA (rsE L) s a)])∧Below W.heap.size W w'):=qh fun W a hb=>
      rmatch_far (HRW.out.below (hb5.trans (hb.mono hb5.size))) (rsE_ok L) (by rw[rsE_len];exact (make_good HE.out).2.1) s (by omega) a
     have HM1:Hid (∀(W:World) (a:Int),Below w5.heap.size w5 W→Calls Tryz.prog 20 #[.pointer dp,.string s,.int .i64 a] W fun e w'=>e= .returned (.tuple #[.int .i64 (matchDA (tabL L k) s a).1,.int .i64 (matchDA (tabL L k) s a).2.1,.int .i64 (matchDA (tabL L k) s a).2.2])∧Below W.heap.size W w'):=qh fun W a hb=>pdmatch_any (H5.out.1.below hb) s (by omega) a;have HM2:Hid (∀(W:World) (a:Int),Below w5.heap.size w5 W→Calls Tryz.prog 20 #[.pointer xp,.string s,.int .i64 a] W fun e w'=>e= .returned (.tuple #[.int .i64 (matchDA M s a).1,.int .i64 (matchDA M s a).2.1,.int .i64 (matchDA M s a).2.2])∧Below W.heap.size W w'):=qh fun W a hb=>pdmatch_any (H5.out.2.1.below hb) s (by omega) a;have HFACT:Hid (∀a:Int,∃x y c z fr:Int,matchDA (tabL L k) s a=(x,y,c)∧matchDA M s a=(x,y,z)∧matchGA (rsE L) s a=(x,y)∧farA (rsE L) s a=fr∧¬c<z∧(f=true→z=fr)):=qh fun a=>by
      obtain⟨x,y,c,z,f1,f2,f3,_,_,f6⟩:=mda_least L HD.out.1.ok (says_tab HD.out.2) H5.out.2.2.1 s a;refine⟨x,y,c,z,_,f1,f2,f3,rfl,by omega,fun e=> ?_⟩;have:=mda_far L (says_tab HD.out.2) H5.out.2.2.1 (HFU.out e) s a;rw[f2] at this;exact this
     have HB0:=qh (Below.refl w5.heap.size w5);clear hX hXi hb5 HMN;go_wp2_with fail
     go_loopw [16] (fun s16 wr=>∃(j:Int),s16= .int .i64 j∧ -1≤j∧j≤(s.size:Int)+3∧Hid (Below w5.heap.size w5 wr)) (fun s16 _=>((s.size:Int)+3-intOf s16).toNat)
     case atStart=>exact⟨-1,rfl,by omega,by omega,HB0⟩
     case round=>
      obtain⟨j,rfl,hk1,hk2,HX⟩:=hrel;clear HB0;have hwr:IntKind.i64.wrap ((s.size:Int)+2)=(s.size:Int)+2:=(by apply IntWalk.i64_in<;>omega);have hkw:IntKind.i64.wrap (j+1)=j+1:=(by apply IntWalk.i64_in<;>omega);by_cases hlj:j≤(s.size:Int)+2
      ·obtain⟨a,ha⟩:∃a,(if j=(s.size:Int)+2 then at_ else j)=a:=⟨_,rfl⟩;obtain⟨x,y,c,z,fr,f1,f2,f3,f4,f5,f6⟩:=HFACT.out a;have M0:Hid (∀W:World,Below w5.heap.size w5 W→Calls Tryz.prog 19 #[.slice ro rl rc,.string s,.int .i64 a] W fun e w'=>e= .returned (.tuple #[.int .i64 x,.int .i64 y,.int .i64 fr])∧Below W.heap.size W w'):=qh fun W hb=>(HM0.out W a hb).mono fun e w' h2=>⟨by rw[h2.1,f3,f4],h2.2⟩;have M1:Hid (∀W:World,Below w5.heap.size w5 W→Calls Tryz.prog 20 #[.pointer dp,.string s,.int .i64 a] W fun e w'=>e= .returned (.tuple #[.int .i64 x,.int .i64 y,.int .i64 c])∧Below W.heap.size W w'):=qh fun W hb=>(HM1.out W a hb).mono fun e w' h2=>⟨by rw[h2.1,f1],h2.2⟩;have M2:Hid (∀W:World,Below w5.heap.size w5 W→Calls Tryz.prog 20 #[.pointer xp,.string s,.int .i64 a] W fun e w'=>e= .returned (.tuple #[.int .i64 x,.int .i64 y,.int .i64 z])∧Below W.heap.size W w'):=qh fun W hb=>(HM2.out W a hb).mono fun e w' h2=>⟨by rw[h2.1,f2],h2.2⟩;have xx:(x != x)=false:=(by simp);have yy:(y != y)=false:=(by simp);have xx2:(x==x)=true:=(by simp);have yy2:(y==y)=true:=(by simp);have HF6:=qh f6;clear f1 f2 f3 f4 f6 HM0 HM1 HM2;by_cases hk:j=(s.size:Int)+2
       ·rw[if_pos hk] at ha;subst ha;have hkb:(j==(s.size:Int)+2)=true:=(by rw[hk];exact beq_self_eq_true _);go_wp2_with fail
        go_fit (M0.out _ HX.out);rintro e w6 ⟨rfl,hb⟩;have H6:=qh (HX.out.trans (hb.mono HX.out.size));clear hb HX;go_wp2_with fail
        go_fit (M1.out _ H6.out);rintro e w7 ⟨rfl,hb⟩;have H7:=qh (H6.out.trans (hb.mono H6.out.size));clear hb H6;go_wp2_with fail
        go_fit (M2.out _ H7.out);rintro e w8 ⟨rfl,hb⟩;have H8:=qh (H7.out.trans (hb.mono H7.out.size));clear hb H7 M0 M1 M2;cases f with
        | false=>
         go_wp2_with fail
         go_roundw
         case rel=>exact⟨j+1,by go_num,by omega,by omega,H8⟩
         case measure=>simp[intOf]<;>omega
        | true=>
         have hzf:=HF6.out rfl;subst hzf;have zz:(z != z)=false:=(by simp);have zz2:(z==z)=true:=(by simp);go_wp2_with fail
         go_roundw
         case rel=>exact⟨j+1,by go_num,by omega,by omega,H8⟩
         case measure=>simp[intOf]<;>omega
       ·rw[if_neg hk] at ha;subst ha;have hkb:(j==(s.size:Int)+2)=false:=beq_eq_false_iff_ne.2 hk;go_wp2_with fail
        go_fit (M0.out _ HX.out);rintro e w6 ⟨rfl,hb⟩;have H6:=qh (HX.out.trans (hb.mono HX.out.size));clear hb HX;go_wp2_with fail
        go_fit (M1.out _ H6.out);rintro e w7 ⟨rfl,hb⟩;have H7:=qh (H6.out.trans (hb.mono H6.out.size));clear hb H6;go_wp2_with fail
        go_fit (M2.out _ H7.out);rintro e w8 ⟨rfl,hb⟩;have H8:=qh (H7.out.trans (hb.mono H7.out.size));clear hb H7 M0 M1 M2;cases f with
        | false=>
         go_wp2_with fail
         go_roundw
         case rel=>exact⟨j+1,by go_num,by omega,by omega,H8⟩
         case measure=>simp[intOf]<;>omega
        | true=>
         have hzf:=HF6.out rfl;subst hzf;have zz:(z != z)=false:=(by simp);have zz2:(z==z)=true:=(by simp);go_wp2_with fail
         go_roundw
         case rel=>exact⟨j+1,by go_num,by omega,by omega,H8⟩
         case measure=>simp[intOf]<;>omega
      ·clear HM0 HM1 HM2 HFACT hwr hkw;have HX2:=qh (HTB.out _ (H5.out.2.2.2.trans (HX.out.mono H5.out.2.2.2.size)));clear HX HTB;go_wp2_with fail
       go_fit HX2.out;rintro e w9 ⟨rfl,hb⟩;have HB:=qh hb;clear hb;go_wp2_with fail
       go_ret
       exact⟨rfl,HB.out⟩
  ·have HX:=qh (HTB.out _ H3.out);clear HTB h4 h5 h6;go_wp2_with fail
   go_fit HX.out;rintro e w9 ⟨rfl,hb⟩;have HB:=qh hb;clear hb;go_wp2_with fail
   go_ret
   exact⟨rfl,HB.out⟩
end Go.Proofs.YtjeomlickkpebaaGreatDoor
