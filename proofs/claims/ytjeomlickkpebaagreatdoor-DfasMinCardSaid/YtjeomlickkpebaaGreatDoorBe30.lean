/-
  Texts of this proof, one behind the other; each begins with its own remark.
-/
import Derived.Test.YtjeomlickkpebaaGreatDoorBe12
import Derived.Test.YtjeomlickkpebaaGreatDoorBe21
set_option maxHeartbeats 8000000
namespace Go.Proofs.YtjeomlickkpebaaGreatDoor
open Go.RowKit
section
variable {w:World} {v fv:Value} {q:List Sta} {first l:List Int}
theorem Vm (h:kD w v q first) (hq:∀(i:Nat) (s:Sta),q[i]? =some s→Zh q.length s) (hi:InQ q first):
  Calls Tryz.prog 21 #[v] w fun e w'=>∃r,e= .returned r∧yZ w.heap.size w' r (reachP q first)∧Below w.heap.size w w':=by
 obtain⟨B,ao,cap,fo,fc,hv,c0,hn,c1,hfc,hf⟩:=h.form;have H:=qh (Zp h hq hf hi);subst hv;clear h hq hi hf;go_enter Tryz.func21,Tryz.ntmps21;go_wp2_with fail
 go_fit H.out;rintro e w2 ⟨r,rfl,h1,h2⟩;have HX:=qh (And.intro h1 h2);clear h1 h2;go_wp2_with fail
 go_ret
 exact⟨_,rfl,HX.out⟩
def zFG (w:World) (v:Value) (q:List Sta):Prop:=v= .pointer none∧q= []∨∃first,kD w v q first
theorem zFG.below {w w':World} (h:zFG w v q) (hb:Below w.heap.size w w'):zFG w' v q:=h.imp id fun⟨f,h⟩=>⟨f,h.below hb⟩
theorem zA8 (h:zFG w v q) (a:Int) (k:Nat):Calls Tryz.prog 43 #[v,.int .i64 a,.int .i64 (k:Int)] w fun e w'=>e= .returned (.bool (isP q a k))∧w'=w:=by
 rcases h with ⟨rfl,rfl⟩ | ⟨f,h⟩
 ·have e0:lookS [] a=none:=by unfold lookS;simp
  rw[show isP [] a k=false by unfold isP;rw[e0]];exact zG7 a k w
 ·exact Jx h a k
theorem Yo {s:Sta} {a:Int} {k:Nat} (h:lookS q a=some s):isP q a k=(s.kind==k):=by unfold isP;rw[h]
theorem isP_none {a:Int} {k:Nat} (h:lookS q a=none):isP q a k=false:=by unfold isP;rw[h]
theorem zFG.sta {s:Sta} {a:Int} (h:zFG w v q) (hs:lookS q a=some s):
  ∃B g o cap,v= .pointer (some ⟨B,0,none⟩)∧w.cell? ⟨B,0,none⟩=some (.slice (some ⟨g,o,none⟩) q.length cap)∧q.length≤cap∧∀(j:Nat) x,j<8→(staC s)[j]? =some x→w.cell? ⟨g,o+(a.toNat*8+j),none⟩=some x:=by
 obtain⟨h0,h1,h2⟩:=yu hs;rcases h with ⟨rfl,rfl⟩ | ⟨f,h⟩
 ·simp at h2
 ·exact h.sta h2
theorem zDM (q:List Sta) (a:Int) (r:Int):accP q [a] r=match lookS q a with
  | none=>r
  | some s=>if s.kind=2∧(r= -1∨(s.rule:Int)<r) then (s.rule:Int) else r:=by
 rw[accP];rcases lookS q a with _ | s
 ·rfl
 ·simp only[accP]
set_option maxRecDepth 4000 in
theorem naccept_any (h:zFG w v q) (hl:jG w fv l):
  Calls Tryz.prog 22 #[v,fv] w fun e w'=>e= .returned (.int .i64 (accP q l (-1)))∧w'=w:=by
 obtain⟨fo,fc,rfl,hfc⟩:=hl.form;have hflen:=hl.2;have HI:=qh (fun a=>zA8 h a 2);have HL:=qh hl;have HV:=qh h;obtain⟨m,hlm⟩:∃m,l.length=m:=⟨_,rfl⟩;have HLM:=qh hlm;rw[hlm] at hfc hflen HL ⊢;clear hl h hlm;have H0:Hid (-1=accP q (l.take 0) (-1)):=qh (by rw[List.take_zero,accP]);go_enter Tryz.func22,Tryz.ntmps22;go_wp2_with fail
 go_loop [5,11] (fun s5 s11=>∃(i:Nat) (r:Int),s11= .int .i64 (i:Int)∧i≤m∧s5= .int .i64 r∧Hid (r=accP q (l.take i) (-1))) (fun _ s11=>m-(intOf s11).toNat)
 case atStart=>exact⟨0,-1,rfl,Nat.zero_le _,rfl,H0⟩
 case round=>
  obtain⟨i,r,rfl,hi,rfl,HR⟩:=hrel;clear H0;have i0:(0:Int)≤(i:Int):=by omega
  have ib:(i:Int)≤1000000:=by omega
  by_cases hlt:i<m
  ·have hli:(i:Int)<(m:Int):=(by omega);have hla:i<l.length:=(by have:=HLM.out;omega);have hil:l[i]? =some l[i]:=List.getElem?_eq_getElem hla;obtain⟨a,ha⟩:∃a:Int,l[i]=a:=⟨_,rfl⟩;rw[ha] at hil;obtain⟨g,o,c2,hfv,_,hx⟩:=HL.out.at_ (i:=i) hil;injection hfv with e1 e2 e3
   subst e1;clear e2 e3;have HT:Hid (accP q (l.take (i+1)) (-1)=accP q [a] r):=qh (by rw[List.take_add_one,hil,X5,HR.out];rfl);have H2:=qh (HI.out a);rw[zDM] at HT;rcases hs:lookS q a with _ | s
   ·rw[isP_none hs] at H2;rw[hs] at HT;have HT2:Hid (r=accP q (l.take (i+1)) (-1)):=qh HT.out.symm;clear hil ha hla hs HT;go_wp2_with fail
    go_fit H2.out;rintro e w2 ⟨rfl,rfl⟩;go_wp2_with fail
    go_round
    case rel=>exact⟨i+1,r,by go_num,hlt,rfl,HT2⟩
    case measure=>simp[intOf];omega
   ·rw[Yo hs] at H2;rw[hs] at HT;simp only at HT;by_cases hk:s.kind=2
    ·rw[hk] at H2;obtain⟨B,g2,o2,cap,rfl,c0,hn,hc⟩:=HV.out.sta hs;obtain⟨h0,h1,_⟩:=yu hs;have c7:=hc 7 _ (by decide) rfl;have i7:o2+(a.toNat*8+7)=o2+a.toNat*8+7:=(by omega);rw[i7] at c7;obtain⟨ru,hru⟩:∃ru:Nat,s.rule=ru:=⟨_,rfl⟩;rw[hru] at c7 HT;by_cases hcnd:r= -1∨(ru:Int)<r
     ·rw[if_pos ⟨hk,hcnd⟩] at HT;have HT2:Hid ((ru:Int)=accP q (l.take (i+1)) (-1)):=qh HT.out.symm;clear hil ha hla hs HT hk hc hru i7;have hru0:(0:Int)≤(ru:Int):=(by omega);by_cases hr:r= -1
      ·subst hr;clear hcnd;go_wp2_with fail
       go_fit H2.out;rintro e w2 ⟨rfl,rfl⟩;go_wp2_with fail
       go_round
       case rel=>exact⟨i+1,_,by go_num,hlt,rfl,HT2⟩
       case measure=>simp[intOf];omega
      ·have hrl:=hcnd.resolve_left hr;have hrb:(r== -1)=false:=beq_eq_false_iff_ne.2 hr;clear hcnd;go_wp2_with fail
       go_fit H2.out;rintro e w2 ⟨rfl,rfl⟩;go_wp2_with fail
       go_round
       case rel=>exact⟨i+1,_,by go_num,hlt,rfl,HT2⟩
       case measure=>simp[intOf];omega
     ·rw[if_neg (fun h=>hcnd h.2)] at HT;have HT2:Hid (r=accP q (l.take (i+1)) (-1)):=qh HT.out.symm;clear hil ha hla hs HT hk hc hru i7;have hr:¬r= -1:=fun h=>hcnd (.inl h);have hrl:¬(ru:Int)<r:=fun h=>hcnd (.inr h);have hrb:(r== -1)=false:=beq_eq_false_iff_ne.2 hr;clear hcnd;go_wp2_with fail
      go_fit H2.out;rintro e w2 ⟨rfl,rfl⟩;go_wp2_with fail
      go_round
      case rel=>exact⟨i+1,_,by go_num,hlt,rfl,HT2⟩
      case measure=>simp[intOf];omega
    ·rw[show (s.kind==2)=false from beq_eq_false_iff_ne.2 hk] at H2;rw[if_neg (fun h=>hk h.1)] at HT;have HT2:Hid (r=accP q (l.take (i+1)) (-1)):=qh HT.out.symm;clear hil ha hla hs HT hk;go_wp2_with fail
     go_fit H2.out;rintro e w2 ⟨rfl,rfl⟩;go_wp2_with fail
     go_round
     case rel=>exact⟨i+1,r,by go_num,hlt,rfl,HT2⟩
     case measure=>simp[intOf];omega
  ·have hli:¬(i:Int)<(m:Int):=(by omega);have HF:Hid (r=accP q l (-1)):=qh (by rw[HR.out,List.take_of_length_le (by have:=HLM.out;omega)]);go_wp2_with fail
   go_ret
   exact⟨by rw[←HF.out];rfl,rfl⟩
end
structure NxW (w0 w:World) (v:Value) (l:List Int):Prop where
 o:Zt w0.heap.size w v l
 b:Below w0.heap.size w0 w
theorem NxW.push {w0 w:World} {v:Value} {l:List Int} (h:NxW w0 w v l) (a:Int) (t ty:TypeId) (ht:Tryz.prog.underlying t=some (.slice 3)) (hl:l.length≤100000):
  ∃v' w',(Builtin.append_ #[t,t] ty #[v,.slice (some ⟨w.heap.size,0,none⟩) 1 1]).run Tryz.prog (w.alloc (.cells #[.int .i64 a] 3))= .ok v' w'∧NxW w0 w' v' (l++ [a]):=by
 have hba:=zA w (.cells #[.int .i64 a] 3);have ho1:=h.o.below hba;have hb1:=h.b.trans (hba.mono h.b.size);obtain⟨v',w',hr,h1,h2,_⟩:=ZP t ty ht ho1 (by have:=cell_one_new w (.int .i64 a) 3 0 _ rfl;rw[Zr] at this;exact this) (by have:=hba.size;have:=h.b.size;omega) hl;exact⟨v',w',hr,h1,KeepW.below hb1 h2 hb1.size fun k hk e=>by have:=(World.ownsRow.lt ho1 k e).1;omega⟩
theorem NxW.under {w0 w w':World} {v:Value} {l:List Int} (h:NxW w0 w v l) (hb:Below w.heap.size w w'):NxW w0 w' v l:=⟨h.o.below hb,h.b.trans (hb.mono h.b.size)⟩
theorem Qv (q:List Sta) (b:Nat):∀l,(nextsP q b l).length≤l.length
 | []=>Nat.le_refl _
 | a::l=>by
  have:=Qv q b l;rw[nextsP,List.length_cons];split
  ·omega
  ·split
   ·rw[List.length_cons];omega
   ·omega
theorem zDN (q:List Sta) (b:Nat) (a:Int):nextsP q b [a]=match lookS q a with
  | none=> []
  | some s=>if s.kind=0∧xf s.set b=true then [(s.next:Int)] else []:=by
 rw[nextsP];rcases lookS q a with _ | s
 ·rfl
 ·simp only[nextsP]
section
variable {w:World} {v fv:Value} {q:List Sta} {l:List Int}
set_option maxRecDepth 4000 in
theorem zA9 (h:zFG w v q) (hq:∀(i:Nat) (s:Sta),q[i]? =some s→Zh q.length s) (hl:jG w fv l) (hlen:l.length≤100000) (b:Nat) (hb:b<256):
  Calls Tryz.prog 23 #[v,fv,.int .u8 (b:Int)] w fun e w'=>∃r,e= .returned r∧yZ w.heap.size w' r (zy q b l)∧Below w.heap.size w w':=by
 obtain⟨fo,fc,rfl,hfc⟩:=hl.form;have hflen:=hl.2;have HI:=qh (fun (a:Int) (W:World) (hb:Below w.heap.size w W)=>zA8 (h.below hb) a 0);have HH:=qh (fun (s:St4) (hs:OkR s) (W:World)=>zDQ s b W hs hb);have HL:=qh hl;have HV:=qh h;have HQ:=qh hq;have HNL:=qh (Qv q b);have HR:=qh (fun (W:World) (r:Value) (first:List Int) (hb:Below w.heap.size w W) (hv:kD W v q first) (hr:jG W r (nextsP q b l))=>Zp hv hq hr (nexts_in q hq b l));obtain⟨m,hlm⟩:∃m,l.length=m:=⟨_,rfl⟩;have HLM:=qh hlm;rw[hlm] at hfc hflen HL hlen ⊢;clear hl h hlm hq;have H0:Hid (∃vv,vv=Value.slice none 0 0∧NxW w w vv (nextsP q b (l.take 0))):=qh ⟨_,rfl,Zt.nil _ _,Below.refl _ _⟩;go_enter Tryz.func23,Tryz.ntmps23;go_wp2_with fail
 go_loopw [7,12] (fun s7 s12 wr=>∃i:Nat,s12= .int .i64 (i:Int)∧i≤m∧Hid (∃vv,vv=s7∧NxW w wr vv (nextsP q b (l.take i)))) (fun _ s12 _=>m-(intOf s12).toNat)
 case atStart=>exact⟨0,rfl,Nat.zero_le _,H0⟩
 case round=>
  obtain⟨i,rfl,hi,HX⟩:=hrel;clear H0;obtain⟨vv,hvv,hX⟩:=HX.out;subst hvv;have H1:=qh hX;clear HX hX;have i0:(0:Int)≤(i:Int):=by omega
  have ib:(i:Int)≤1000000:=by omega
  by_cases hlt:i<m
  ·have hli:(i:Int)<(m:Int):=(by omega);have hla:i<l.length:=(by have:=HLM.out;omega);have hil:l[i]? =some l[i]:=List.getElem?_eq_getElem hla;obtain⟨a,ha⟩:∃a:Int,l[i]=a:=⟨_,rfl⟩;rw[ha] at hil;obtain⟨g,o,c2,hfv,_,hx⟩:=(HL.out.below H1.out.b).at_ (i:=i) hil;injection hfv with e1 e2 e3
   subst e1;clear e2 e3;have HT:Hid (nextsP q b (l.take (i+1))=nextsP q b (l.take i)++nextsP q b [a]):=qh (by rw[List.take_add_one,hil,←Q2];rfl);have H2:=qh (HI.out a wr H1.out.b);have hcl:(nextsP q b (l.take i)).length≤100000:=by
    have:=HNL.out (l.take i);rw[List.length_take] at this;omega
   rw[zDN] at HT;rcases hs:lookS q a with _ | s
   ·rw[isP_none hs] at H2;rw[hs] at HT;have HT2:Hid (NxW w wr vv (nextsP q b (l.take (i+1)))):=qh (by rw[HT.out,List.append_nil];exact H1.out);clear hil ha hla hs HT hcl;go_wp2_with fail
    go_fit H2.out;rintro e w2 ⟨rfl,rfl⟩;go_wp2_with fail
    go_roundw
    case rel=>exact⟨i+1,by go_num,hlt,qh ⟨_,rfl,HT2.out⟩⟩
    case measure=>simp[intOf];omega
   ·rw[Yo hs] at H2;rw[hs] at HT;simp only at HT;by_cases hk:s.kind=0
    ·rw[hk] at H2;obtain⟨B,g2,o2,cap,rfl,c0,hn,hc⟩:=(HV.out.below H1.out.b).sta hs;obtain⟨h0,h1,h2⟩:=yu hs;obtain⟨_,_,_,hso⟩:=HQ.out _ s h2;have c1:=hc 1 _ (by decide) rfl;have c2:=hc 2 _ (by decide) rfl;have c3:=hc 3 _ (by decide) rfl;have c4:=hc 4 _ (by decide) rfl;have c5:=hc 5 _ (by decide) rfl;simp only[←Nat.add_assoc] at c1 c2 c3 c4 c5;have H3:=qh (HH.out s.set hso wr);obtain⟨d,hd⟩:∃d,xf s.set b=d:=⟨_,rfl⟩;rw[hd] at HT H3;obtain⟨⟨s0,s1,s2,s3⟩,hse⟩:∃x,s.set=x:=⟨_,rfl⟩;rw[hse] at c1 c2 c3 c4 H3;unfold xW at H3;simp only at c1 c2 c3 c4 H3;obtain⟨nx,hnx⟩:∃nx:Nat,s.next=nx:=⟨_,rfl⟩;rw[hnx] at c5 HT;have HC:=qh (fun W (hb:Below wr.heap.size wr W)=>And.intro ((keep_below (fun _=>True) hb).cell c0 trivial) ((keep_below (fun _=>True) hb).cell c5 trivial));cases d with
     | false=>
      have HT2:Hid (nextsP q b (l.take (i+1))=nextsP q b (l.take i)):=qh (by rw[HT.out,if_neg (fun h=>absurd h.2 (by decide)),List.append_nil]);clear hil ha hla hs HT hk hc hd hse hnx hcl h2 hso c5;go_wp2_with fail
      go_fit H2.out;rintro e w2 ⟨rfl,rfl⟩;go_wp2_with fail
      go_fit H3.out;rintro e w2 ⟨rfl,hb3⟩;have H4:=qh (H1.out.under hb3);clear hb3;go_wp2_with fail
      go_roundw
      case rel=>exact⟨i+1,by go_num,hlt,qh ⟨_,rfl,by rw[HT2.out];exact H4.out⟩⟩
      case measure=>simp[intOf];omega
     | true=>
      have HT2:Hid (nextsP q b (l.take (i+1))=nextsP q b (l.take i)++ [(nx:Int)]):=qh (by rw[HT.out,if_pos ⟨hk,rfl⟩]);clear hil ha hla hs HT hk hc hd hse hnx h2 hso c5;go_wp2_with fail
      go_fit H2.out;rintro e w2 ⟨rfl,rfl⟩;go_wp2_with fail
      go_fit H3.out;rintro e w2 ⟨rfl,hb3⟩;have H4:=qh (H1.out.under hb3);obtain⟨d0,d5⟩:=HC.out w2 hb3;obtain⟨v',w',hr,hR⟩:=H4.out.push (nx:Int) 39 39 Tryz.underlying39 hcl;have H5:=qh hR;clear hb3 hR hcl c0;go_wp2_with (at_builtin;refine napp_list (by rfl) _ _ 39 (by rfl) (by rfl) (by rfl) hr ?_)
      go_roundw
      case rel=>exact⟨i+1,by go_num,hlt,qh ⟨_,rfl,by rw[HT2.out];exact H5.out⟩⟩
      case measure=>simp[intOf];omega
    ·rw[show (s.kind==0)=false from beq_eq_false_iff_ne.2 hk] at H2;rw[if_neg (fun h=>hk h.1),List.append_nil] at HT;have HT2:Hid (NxW w wr vv (nextsP q b (l.take (i+1)))):=qh (by rw[HT.out];exact H1.out);clear hil ha hla hs HT hk hcl;go_wp2_with fail
     go_fit H2.out;rintro e w2 ⟨rfl,rfl⟩;go_wp2_with fail
     go_roundw
     case rel=>exact⟨i+1,by go_num,hlt,qh ⟨_,rfl,HT2.out⟩⟩
     case measure=>simp[intOf];omega
  ·have hli:¬(i:Int)<(m:Int):=(by omega);have hall:l.take i=l:=List.take_of_length_le (by have:=HLM.out;omega);rw[hall] at H1;have hcl:=HNL.out l;have HB:=qh (And.intro H1.out.b (H1.out.o.ints (by have:=HLM.out;omega)));obtain⟨ao,cp,hvv,hcp⟩:=HB.out.2.form;subst hvv;by_cases he:nextsP q b l= []
   ·have HE:Hid (zy q b l= []):=qh (by unfold zy;rw[if_pos he]);have hz:(nextsP q b l).length=0:=(by rw[he];rfl);obtain⟨k,hk⟩:∃k,(nextsP q b l).length=k:=⟨_,rfl⟩;have hk0:k=0:=(by omega);rw[hk];subst hk0;clear hk hz hcl hall;go_wp2_with fail
    go_ret
    exact⟨_,rfl,by rw[HE.out];exact yZ.nil _ _,HB.out.1⟩
   ·have HE:Hid (zy q b l=reachP q (nextsP q b l)):=qh (by unfold zy;rw[if_neg he]);have hz:0<(nextsP q b l).length:=List.length_pos_iff.2 he;have hv2:=HV.out.below H1.out.b;rcases hv2 with ⟨_,hq0⟩ | ⟨first,hv2⟩
    ·exfalso;apply he;have:=nexts_in q HQ.out b l;rcases hx:nextsP q b l with _ | ⟨x,r⟩
     ·rfl
     ·have:=this x (by rw[hx];simp);rw[hq0] at this;simp at this;omega
    have H3:=qh (HR.out _ _ first H1.out.b hv2 HB.out.2);obtain⟨k,hk⟩:∃k,(nextsP q b l).length=k:=⟨_,rfl⟩;rw[hk] at H3 hz ⊢;have hk0:((k:Int)==0)=false:=beq_eq_false_iff_ne.2 (by omega);clear hk hcl hall hv2 he;go_wp2_with fail
    go_fit H3.out;rintro e w2 ⟨r,rfl,h1,h2⟩;have HF:=qh (show yZ w.heap.size w2 r (zy q b l)∧Below w.heap.size w w2 from⟨by rw[HE.out];exact h1.mono HB.out.1.size,HB.out.1.trans (h2.mono HB.out.1.size)⟩);clear h1 h2;go_wp2_with fail
    go_ret
    exact⟨_,rfl,HF.out⟩
end
end Go.Proofs.YtjeomlickkpebaaGreatDoor
