/-
  Texts of this proof, one behind the other; each begins with its own remark.
-/
import Derived.Test.YtjeomlickkpebaaGreatDoorBe16
import Derived.Test.YtjeomlickkpebaaGreatDoorBe32
import Derived.Test.YtjeomlickkpebaaGreatDoorBe7
set_option maxHeartbeats 16000000
namespace Go.Proofs.YtjeomlickkpebaaGreatDoor
open Go.RowKit
def PlcC (c:Col) (w:World) (v:Value) (rs:List RuN) (x:List (Nat→Bool)):Prop:=
 ∃us:List Value,us.length=rs.length∧x.length=rs.length∧yO c w v us∧∀(i:Nat) (r:RuN) (a:Nat→Bool) (u:Value),rs[i]? =some r→x[i]? =some a→us[i]? =some u→QP c w u r.m a
def zEP (w:World) (v:Value) (rs:List RuN) (x:List (Nat→Bool)):Prop:=
 x.length=rs.length∧∃ao cap,v= .slice ao rs.length cap∧rs.length≤cap∧∀(i:Nat) (r:RuN) (a:Nat→Bool),rs[i]? =some r→x[i]? =some a→∃g o u,ao=some ⟨g,o,none⟩∧w.cell? ⟨g,o+i,none⟩=some u∧zCL w u r.m a
section
variable {S:Nat→Prop} {c c':Col} {w w':World} {A:Nat} {v u:Value} {rs:List RuN} {x y:List (Nat→Bool)}
theorem PlcC.step (h:PlcC c w v rs x) (hs:StepC S c c' w w') (h0:¬S 0):PlcC c' w' v rs x:=by
 obtain⟨us,h1,h2,h3,h4⟩:=h;exact⟨us,h1,h2,h3.step hs h0,fun i r a u hr ha hu=>(h4 i r a u hr ha hu).step hs h0⟩
theorem PlcC.pale (h:PlcC c w v rs x):PlcC (pale c A) w v rs x:=by
 obtain⟨us,h1,h2,h3,h4⟩:=h;exact⟨us,h1,h2,h3.pale,fun i r a u hr ha hu=>(h4 i r a u hr ha hu).pale⟩
theorem PlcC.read (h:PlcC c w v rs x):zEP w v rs x:=by
 obtain⟨us,h1,h2,⟨ao,cap,hv,hn,hc⟩,h4⟩:=h;refine⟨h2,ao,cap,by rw[←h1];exact hv,by omega,fun i r a hr ha=> ?_⟩;obtain⟨u,hu⟩:∃u,us[i]? =some u:=⟨_,List.getElem?_eq_getElem (by rw[h1];exact (List.getElem?_eq_some_iff.1 hr).1)⟩;obtain⟨g,o,hao,_,hg⟩:=hc i u hu;exact⟨g,o,u,hao,hg,(h4 i r a u hr ha hu).read⟩
theorem zEP.below (h:zEP w v rs x) (hb:Below w.heap.size w w'):zEP w' v rs x:=by
 obtain⟨h1,ao,cap,hv,hn,hc⟩:=h;refine⟨h1,ao,cap,hv,hn,fun i r a hr ha=> ?_⟩;obtain⟨g,o,u,h2,h3,h4⟩:=hc i r a hr ha;exact⟨g,o,u,h2,(keep_below (fun _=>True) hb).cell h3 trivial,h4.below hb⟩
theorem KN (rs:List RuN) (x y:List (Nat→Bool)) (i:Nat):(∀(j:Nat) r a b,j<i→rs[j]? =some r→x[j]? =some a→y[j]? =some b→eqF a b r.m=true)→x.length=rs.length→y.length=rs.length→rs.length≤i→zr rs x y=true:=by
 induction rs generalizing x y i with
 | nil=>intros;cases x<;>cases y<;>rfl
 | cons r rs ih=>
  intro h hx hy hi
  match x,y,hx,hy,i,hi with
  | a::x,b::y,hx,hy,i+1,hi=>
   rw[zr,Bool.and_eq_true];exact⟨h 0 r a b (by omega) rfl rfl rfl,ih x y i (fun j r a b hj h1 h2 h3=>h (j+1) r a b (by omega) h1 h2 h3) (by simpa using hx) (by simpa using hy) (by simpa using hi)⟩
theorem zEQ (rs:List RuN) (x y:List (Nat→Bool)) (i p:Nat) {r:RuN} {a b:Nat→Bool} (hr:rs[i]? =some r) (ha:x[i]? =some a) (hb:y[i]? =some b) (hp:p<r.m) (hne:a p≠b p):zr rs x y=false:=by
 induction rs generalizing x y i with
 | nil=>simp at hr
 | cons q rs ih=>
  match x,y,i,hr,ha,hb with
  | c::x,d::y,0,hr,ha,hb=>
   cases hr;cases ha;cases hb;rw[zr,Bool.and_eq_false_iff];left;rcases h:eqF a b r.m with _ | _
   ·rfl
   ·exact absurd ((eqF_iff a b r.m).1 h p hp) hne
  | c::x,d::y,i+1,hr,ha,hb=>
   rw[zr,Bool.and_eq_false_iff];exact .inr (ih x y i hr ha hb)
theorem zBW (hx:zEP w v rs x) (hy:zEP w u rs y) (hm:∀r,r∈rs→r.m≤1000) (hl:rs.length≤100):
  Calls Tryz.prog 55 #[v,u] w fun e w'=>e= .returned (.bool (zr rs x y))∧Below w.heap.size w w':=by
 obtain⟨hx1,ao,ac,rfl,hac,hxc⟩:=hx;obtain⟨hy1,bo,bc,rfl,hbc,hyc⟩:=hy;obtain⟨n,hn⟩:∃n,rs.length=n:=⟨_,rfl⟩;have HX:=qh (And.intro hx1 hxc);have HY:=qh (And.intro hy1 hyc);have HN:=qh hn;have HM:=qh hm;rw[hn] at hac hbc hl ⊢;obtain⟨R,hR⟩:∃R,zr rs x y=R:=⟨_,rfl⟩;have HR:=qh hR;rw[hR];have H0:Hid (Below w.heap.size w w∧∀(j:Nat) r a b,j<0→rs[j]? =some r→x[j]? =some a→y[j]? =some b→eqF a b r.m=true):=qh ⟨Below.refl _ _,fun j r a b hj=>by omega⟩;clear hx1 hxc hy1 hyc hm hn hR;go_enter Tryz.func55,Tryz.ntmps55;go_wp2_with fail
 go_loopw [5] (fun s5 wr=>∃i:Nat,s5= .int .i64 (i:Int)∧i≤n∧Hid (Below w.heap.size w wr∧∀(j:Nat) r a b,j<i→rs[j]? =some r→x[j]? =some a→y[j]? =some b→eqF a b r.m=true)) (fun s5 _=>n-(intOf s5).toNat)
 case atStart=>exact⟨0,rfl,Nat.zero_le _,H0⟩
 case round=>
  obtain⟨i,rfl,hi,HA⟩:=hrel;clear H0;have i0:(0:Int)≤(i:Int):=by omega
  have ib:(i:Int)≤100:=by omega
  by_cases hlt:i<n
  ·have hli:(i:Int)<(n:Int):=(by omega);have hir:i<rs.length:=(by have:=HN.out;omega);obtain⟨r,hr⟩:∃r,rs[i]? =some r:=⟨_,List.getElem?_eq_getElem hir⟩;obtain⟨a,ha⟩:∃a,x[i]? =some a:=⟨_,List.getElem?_eq_getElem (by rw[HX.out.1];exact hir)⟩;obtain⟨b,hb⟩:∃b,y[i]? =some b:=⟨_,List.getElem?_eq_getElem (by rw[HY.out.1];exact hir)⟩;obtain⟨ga,oa,ua,rfl,hca,_,ga2,ca2,rfl,hca2,_,hba⟩:=HX.out.2 i r a hr ha;obtain⟨gb,ob,ub,rfl,hcb,_,gb2,cb2,rfl,hcb2,_,hbb⟩:=HY.out.2 i r b hr hb;obtain⟨m,hm⟩:∃m,r.m=m:=⟨_,rfl⟩;have hmb:m≤1000:=(by rw[←hm];exact HM.out r (List.mem_of_getElem? hr));rw[hm] at hca hcb hca2 hcb2 hba hbb;have HCA:=qh (fun (W:World) (h:Below w.heap.size w W)=>(keep_below (fun _=>True) h).cell hca trivial);have HCB:=qh (fun (W:World) (h:Below w.heap.size w W)=>(keep_below (fun _=>True) h).cell hcb trivial);have HBA:=qh (fun (W:World) (h:Below w.heap.size w W) (p:Nat) (hp:p<m)=>(keep_below (fun _=>True) h).cell (hba p hp) trivial);have HBB:=qh (fun (W:World) (h:Below w.heap.size w W) (p:Nat) (hp:p<m)=>(keep_below (fun _=>True) h).cell (hbb p hp) trivial);have HI:=qh (And.intro hr (And.intro ha (And.intro hb hm)));have HP0:Hid (Below w.heap.size w wr∧∀q,q<0→a q=b q):=qh ⟨HA.out.1,fun q hq=>by omega⟩;clear hba hbb hr ha hb hm hir hca hcb;go_wp2_with fail
   go_loopw [6] (fun s6 wr=>∃p:Nat,s6= .int .i64 (p:Int)∧p≤m∧Hid (Below w.heap.size w wr∧∀q,q<p→a q=b q)) (fun s6 _=>m-(intOf s6).toNat)
   case atStart=>exact⟨0,rfl,Nat.zero_le _,HP0⟩
   case round=>
    obtain⟨p,rfl,hp,HP⟩:=hrel;clear HP0;have p0:(0:Int)≤(p:Int):=(by omega);have pb:(p:Int)≤1000:=(by omega);have c0:=HCA.out _ HP.out.1;have c1:=HCB.out _ HP.out.1;by_cases hpl:p<m
    ·have hpi:(p:Int)<(m:Int):=(by omega);have x0:=HBA.out _ HP.out.1 p hpl;have y0:=HBB.out _ HP.out.1 p hpl;obtain⟨A,hA⟩:∃A,a p=A:=⟨_,rfl⟩;obtain⟨B,hB⟩:∃B,b p=B:=⟨_,rfl⟩;rw[hA] at x0;rw[hB] at y0;have HD:=qh HP.out.1.drew;by_cases hAB:A=B
     ·have hne:(A != B)=false:=(by rw[hAB];simp);have hne2:(A==B)=true:=(by rw[hAB];simp);have HP2:Hid (∀q,q<p+1→a q=b q):=qh fun q hq=>by
       by_cases c:q=p
       ·rw[c,hA,hB,hAB]
       ·exact HP.out.2 q (by omega)
      clear hA hB hAB HP;go_wp2_with fail
      go_region
      go_wp2_with fail
      go_roundw
      case rel=>exact⟨p+1,by go_num,hpl,HD.out,HP2.out⟩
      case measure=>simp[intOf]<;>omega
     ·have hne:(A != B)=true:=(by simpa using hAB);have hne2:(A==B)=false:=(by simpa using hAB);have HF:Hid (R=false):=qh (by
       rw[←HR.out];exact zEQ rs x y i p HI.out.1 HI.out.2.1 HI.out.2.2.1 (by rw[HI.out.2.2.2];exact hpl) (by rw[hA,hB];exact hAB))
      clear hA hB hAB HP;go_wp2_with fail
      go_region
      go_wp2_with fail
      go_ret
      exact⟨by rw[HF.out];rfl,HD.out⟩
    ·have hpi:¬(p:Int)<(m:Int):=(by omega);have HA2:Hid (Below w.heap.size w wr∧∀(j:Nat) r a b,j<i+1→rs[j]? =some r→x[j]? =some a→y[j]? =some b→eqF a b r.m=true):=qh ⟨HP.out.1,fun j r2 a2 b2 hj h1 h2 h3=>by
      by_cases c:j=i
      ·subst c;rw[HI.out.1] at h1;rw[HI.out.2.1] at h2;rw[HI.out.2.2.1] at h3;cases h1;cases h2;cases h3;exact (eqF_iff _ _ _).2 fun q hq=>HP.out.2 q (by have:=HI.out.2.2.2;omega)
      ·exact HA.out.2 j r2 a2 b2 (by omega) h1 h2 h3⟩
     clear HP;go_wp2_with fail
     go_roundw
     case rel=>exact⟨i+1,by go_num,hlt,HA2⟩
     case measure=>simp[intOf]<;>omega
  ·have hli:¬(i:Int)<(n:Int):=(by omega);have HF:Hid (R=true∧Below w.heap.size w wr):=qh ⟨by
    rw[←HR.out];exact KN rs x y i HA.out.2 HX.out.1 HY.out.1 (by have:=HN.out;omega),HA.out.1⟩
   clear HA;go_wp2_with fail
   go_ret
   exact⟨by rw[HF.out.1];rfl,HF.out.2⟩
end
theorem zER (rs:List RuN) (x:List (Nat→Bool)) (i:Nat) {r:RuN} {a:Nat→Bool} (hr:rs[i]? =some r) (ha:x[i]? =some a) (h:vS r a=true):ZR rs x=true:=by
 induction rs generalizing x i with
 | nil=>simp at hr
 | cons q rs ih=>
  match x,i,hr,ha with
  | c::x,0,hr,ha=>
   cases hr;cases ha;rw[ZR,h];rfl
  | c::x,i+1,hr,ha=>
   rw[ZR,ih x i hr ha,Bool.or_true]
theorem zH6 (rs:List RuN) (x:List (Nat→Bool)) (h:∀(i:Nat) r a,rs[i]? =some r→x[i]? =some a→vS r a=false):ZR rs x=false:=by
 induction rs generalizing x with
 | nil=>cases x<;>rfl
 | cons q rs ih=>
  match x with
  | []=>rfl
  | c::x=>
   rw[ZR,h 0 q c rfl rfl,ih x fun i r a hr ha=>h (i+1) r a hr ha];rfl
theorem zES (rs:List RuN) (x:List (Nat→Bool)) (i j:Nat) {r:RuN} {a:Nat→Bool} (hr:rs[i]? =some r) (ha:x[i]? =some a) (h:jC r a=true) (hno:∀(k:Nat) r a,k<i→rs[k]? =some r→x[k]? =some a→jC r a=false):qL rs x j []=((j+i:Nat):Int):=by
 induction rs generalizing x i j with
 | nil=>simp at hr
 | cons q rs ih=>
  match x,i,hr,ha with
  | c::x,0,hr,ha=>
   cases hr;cases ha;rw[qL,if_pos (show jC r (stepsG r [] a)=true from h)];rfl
  | c::x,i+1,hr,ha=>
   rw[qL,if_neg (by
    have:=hno 0 q c (by omega) rfl rfl;rw[show stepsG q [] c=c from rfl,this];decide),ih x i (j+1) hr ha fun k r a hk h1 h2=>hno (k+1) r a (by omega) h1 h2]
   congr 1;omega
theorem zH7 (rs:List RuN) (x:List (Nat→Bool)) (j:Nat) (h:∀(i:Nat) r a,rs[i]? =some r→x[i]? =some a→jC r a=false):qL rs x j []= -1:=by
 induction rs generalizing x j with
 | nil=>cases x<;>rfl
 | cons q rs ih=>
  match x with
  | []=>rfl
  | c::x=>
   rw[qL,if_neg (by
    have:=h 0 q c rfl rfl;rw[show stepsG q [] c=c from rfl,this];decide),ih x (j+1) fun i r a hr ha=>h (i+1) r a hr ha]
section
variable {w w':World} {v u:Value} {rs:List RuN} {x:List (Nat→Bool)}
theorem zET (hx:zEP w v rs x) (hm:∀r,r∈rs→r.m≤1000) (hl:rs.length≤100):
  Calls Tryz.prog 54 #[v] w fun e w'=>e= .returned (.bool (ZR rs x))∧w'=w:=by
 obtain⟨hx1,ao,ac,rfl,hac,hxc⟩:=hx;obtain⟨n,hn⟩:∃n,rs.length=n:=⟨_,rfl⟩;have HX:=qh (And.intro hx1 hxc);have HN:=qh hn;have HM:=qh hm;rw[hn] at hac hl ⊢;obtain⟨R,hR⟩:∃R,ZR rs x=R:=⟨_,rfl⟩;have HR:=qh hR;rw[hR];clear hx1 hxc hm hn hR;go_enter Tryz.func54,Tryz.ntmps54;go_wp2_with fail
 go_loop [3] (fun s3=>∃i:Nat,s3= .int .i64 (i:Int)∧i≤n∧Hid (∀(j:Nat) r a,j<i→rs[j]? =some r→x[j]? =some a→vS r a=false)) (fun s3=>n-(intOf s3).toNat)
 case atStart=>exact⟨0,rfl,Nat.zero_le _,fun j r a hj=>by omega⟩
 case round=>
  obtain⟨i,rfl,hi,HA⟩:=hrel;have i0:(0:Int)≤(i:Int):=by omega
  have ib:(i:Int)≤100:=by omega
  by_cases hlt:i<n
  ·have hli:(i:Int)<(n:Int):=(by omega);have hir:i<rs.length:=(by have:=HN.out;omega);obtain⟨r,hr⟩:∃r,rs[i]? =some r:=⟨_,List.getElem?_eq_getElem hir⟩;obtain⟨a,ha⟩:∃a,x[i]? =some a:=⟨_,List.getElem?_eq_getElem (by rw[HX.out.1];exact hir)⟩;obtain⟨ga,oa,ua,rfl,hca,hua⟩:=HX.out.2 i r a hr ha;have HC:=qh (zDD hua (by have:=HM.out r (List.mem_of_getElem? hr);omega));have HI:=qh (And.intro hr ha);obtain⟨b,hb⟩:∃b,vS r a=b:=⟨_,rfl⟩;have HB:=qh hb;change Hid (Calls _ _ _ _ fun e w'=>e= .returned (.bool (vS r a))∧w'=w) at HC;rw[hb] at HC;clear hua hr ha hb hir;go_wp2_with fail
   go_fit HC.out;rintro e w1 ⟨rfl,rfl⟩;cases b with
   | true=>
    have HF:Hid (R=true):=qh (by rw[←HR.out];exact zER rs x i HI.out.1 HI.out.2 HB.out);go_wp2_with fail
    go_ret
    exact⟨by rw[HF.out];rfl,rfl⟩
   | false=>
    have HA2:Hid (∀(j:Nat) r a,j<i+1→rs[j]? =some r→x[j]? =some a→vS r a=false):=qh fun j r2 a2 hj h1 h2=>by
     by_cases c:j=i
     ·subst c;rw[HI.out.1] at h1;rw[HI.out.2] at h2;cases h1;cases h2;exact HB.out
     ·exact HA.out j r2 a2 (by omega) h1 h2
    go_wp2_with fail
    go_round
    case rel=>exact⟨i+1,by go_num,hlt,HA2⟩
    case measure=>simp[intOf]<;>omega
  ·have hli:¬(i:Int)<(n:Int):=(by omega);have HF:Hid (R=false):=qh (by
    rw[←HR.out];exact zH6 rs x fun j r a h1 h2=>HA.out j r a (by have:=(List.getElem?_eq_some_iff.1 h1).1;have:=HN.out;omega) h1 h2)
   go_wp2_with fail
   go_ret
   exact⟨by rw[HF.out];rfl,rfl⟩
theorem zBX (hu:Qg w u rs) (hx:zEP w v rs x) (hl:rs.length≤100):
  Calls Tryz.prog 56 #[u,v] w fun e w'=>e= .returned (.int .i64 (qL rs x 0 []))∧Below w.heap.size w w':=by
 have HU:=qh (fun (W:World) (hb:Below w.heap.size w W)=>hu.below hb);have HXB:=qh (fun (W:World) (hb:Below w.heap.size w W)=>hx.below hb);obtain⟨uo,uc,rfl,huc⟩:=hu.form;obtain⟨hx1,ao,ac,rfl,hac,hxc⟩:=hx;obtain⟨n,hn⟩:∃n,rs.length=n:=⟨_,rfl⟩;have HX:=qh (And.intro hx1 hxc);have HN:=qh hn;rw[hn] at hac huc hl HU HXB ⊢;obtain⟨R,hR⟩:∃R,qL rs x 0 []=R:=⟨_,rfl⟩;have HR:=qh hR;rw[hR];have H0:Hid (Below w.heap.size w w∧∀(j:Nat) r a,j<0→rs[j]? =some r→x[j]? =some a→jC r a=false):=qh ⟨Below.refl _ _,fun j r a hj=>by omega⟩;clear hx1 hxc hn hR hu;go_enter Tryz.func56,Tryz.ntmps56;go_wp2_with fail
 go_loopw [5] (fun s5 wr=>∃i:Nat,s5= .int .i64 (i:Int)∧i≤n∧Hid (Below w.heap.size w wr∧∀(j:Nat) r a,j<i→rs[j]? =some r→x[j]? =some a→jC r a=false)) (fun s5 _=>n-(intOf s5).toNat)
 case atStart=>exact⟨0,rfl,Nat.zero_le _,H0⟩
 case round=>
  obtain⟨i,rfl,hi,HA⟩:=hrel;clear H0;have i0:(0:Int)≤(i:Int):=by omega
  have ib:(i:Int)≤100:=by omega
  by_cases hlt:i<n
  ·have hli:(i:Int)<(n:Int):=(by omega);have hir:i<rs.length:=(by have:=HN.out;omega);obtain⟨r,hr⟩:∃r,rs[i]? =some r:=⟨_,List.getElem?_eq_getElem hir⟩;obtain⟨a,ha⟩:∃a,x[i]? =some a:=⟨_,List.getElem?_eq_getElem (by rw[HX.out.1];exact hir)⟩;obtain⟨ga,oa,ua,rfl,hca,hua⟩:=HX.out.2 i r a hr ha;obtain⟨gu,ou,cu,p,hue,hcu,hru⟩:=Qg.get (HU.out w (Below.refl _ _)) hr;injection hue with e1 e2 e3
   subst e1;clear e2 e3;have HCA:=qh (fun (W:World) (h:Below w.heap.size w W)=>And.intro ((keep_below (fun _=>True) h).cell hca trivial) ((keep_below (fun _=>True) h).cell hcu trivial));obtain⟨b,hb⟩:∃b,jC r a=b:=⟨_,rfl⟩;have HC0:∀(W:World),Below w.heap.size w W→Calls Tryz.prog 40 #[.pointer p,ua] W fun e w'=>e= .returned (.bool b)∧w'=W:=fun W h=>by
    rw[←hb];exact Kr (hru.below h) (hua.below h)
   have HC:=qh HC0;have HI:=qh (And.intro hr (And.intro ha hb));clear hua hru hr ha hb hir hca hcu HC0;have kk:=HA.out.1;have kd:=kk.drew;obtain⟨c0,c1⟩:=HCA.out _ kk;have HA3:=qh HA.out.2;clear HA;go_wp2_with fail
   go_region_held3 (fun V=>V.cell? ⟨ga,oa+i,none⟩=some ua∧V.cell? ⟨gu,ou+i,none⟩=some (.pointer p))
    (first | with_reducible exact HCA.out _ kk | with_reducible exact HCA.out _ kd)
    (first | (go_at_call 40;go_fit (HC.out _ ?_);(first | with_reducible exact kk | with_reducible exact kd);rintro e vv ⟨rfl,rfl⟩))
   all_goals
    cases b with
    | true=>
     have HF:Hid (R=(i:Int)):=qh (by
      rw[←HR.out,zES rs x i 0 HI.out.1 HI.out.2.1 HI.out.2.2 HA3.out];congr 1;omega)
     go_wp2_with fail
     go_ret
     exact⟨by rw[HF.out];rfl,by first | exact kk | exact kd⟩
    | false=>
     have HA2:Hid (∀(j:Nat) r a,j<i+1→rs[j]? =some r→x[j]? =some a→jC r a=false):=qh fun j r2 a2 hj h1 h2=>by
      by_cases c:j=i
      ·subst c;rw[HI.out.1] at h1;rw[HI.out.2.1] at h2;cases h1;cases h2;exact HI.out.2.2
      ·exact HA3.out j r2 a2 (by omega) h1 h2
     go_wp2_with fail
     go_roundw
     case rel=>exact⟨i+1,by go_num,hlt,by first | exact kk | exact kd,HA2.out⟩
     case measure=>simp[intOf]<;>omega
  ·have hli:¬(i:Int)<(n:Int):=(by omega);have HF:Hid (R= -1∧Below w.heap.size w wr):=qh ⟨by
    rw[←HR.out];exact zH7 rs x 0 fun j r a h1 h2=>HA.out.2 j r a (by have:=(List.getElem?_eq_some_iff.1 h1).1;have:=HN.out;omega) h1 h2,HA.out.1⟩
   clear HA;go_wp2_with fail
   go_ret
   exact⟨by rw[HF.out.1];rfl,HF.out.2⟩
end
theorem Tryz.infoBoolsD:(Tryz.prog.info? 46).map (fun i=>(i.zero,i.size,i.bytes))=some (some (.slice none 0 0),1,24):=by kernel_rfl
theorem Tryz.infoPlcD:(Tryz.prog.info? 119).map (fun i=>(i.zero,i.size,i.bytes))=some (some (.slice none 0 0),1,24):=by kernel_rfl
theorem Tryz.infoIntsD:(Tryz.prog.info? 39).map (fun i=>(i.zero,i.size,i.bytes))=some (some (.slice none 0 0),1,24):=by kernel_rfl
section
variable {S:Nat→Prop} {c c':Col} {w w':World} {A:Nat} {T:TypeId} {v u:Value} {us:List Value}
theorem RowC.pushA {z:Value} {b:Nat} (hf:xA c w) (h:RowC c A T w v us) (t ty:TypeId) (ht:Tryz.prog.underlying t=some (.slice T)) (hi:(Tryz.prog.info? T).map (fun i=>(i.zero,i.size,i.bytes))=some (some z,1,b)) (hz:z.cells.size=1) (hb:b≤1000)
  (hu:u.oneCell'=true) (hs:us.length≤100000):
  ∃ao cap w' c',(Builtin.append_ #[t,t] ty #[v,.slice (some ⟨w.heap.size,0,none⟩) 1 1]).run Tryz.prog (w.alloc (.cells #[u] T))= .ok (.slice ao (us.length+1) cap) w'∧RowC c' A T w' (.slice ao (us.length+1) cap) (us++ [u])∧StepC (fun a=>a=A) c c' w w':=by
 have hba:=zA w (.cells #[u] T);have hcell:=cell_one_new w u T 0 _ rfl;rw[Zr] at hcell;obtain⟨ao,cap,w',c',h1,h2,h3⟩:=(h.step (S:=fun _=>False) (StepC.below hf hba) (fun e=>e)).push (hf.below hba) t ty ht hi hz hb hcell hu hs;exact⟨ao,cap,w',c',h1,h2,(StepC.below hf hba).trans h3⟩
def colAt (c:Col) (A g:Nat):Col:=fun k=>if k=g then A else c k
theorem x9 {g k:Nat} (h:k<g):colAt c A g k=c k:=if_neg (by omega)
theorem StepC.colAt (hf:xA c w) (o:Obj):StepC S c (colAt c A w.heap.size) w (w.alloc o) where
 keep:=keep_below _ (zA w o)
 same:=fun _ hk=>x9 hk
 fresh:=fun k hk=>by
  rw[zC] at hk;unfold Go.Proofs.YtjeomlickkpebaaGreatDoor.colAt;rw[if_neg (by omega)];exact hf k (by omega)
theorem RowC.one:RowC (Go.Proofs.YtjeomlickkpebaaGreatDoor.colAt c A w.heap.size) A T (w.alloc (.cells #[u] T)) (.slice (some ⟨w.heap.size,0,none⟩) 1 1) [u] where
 own:=World.ownsRow_lit (base:=0) (e:=T) (size:=1) w #[u] 1 (Nat.zero_le _) (by unfold maxLen;decide) (by simp)
 col:=fun k e=>by
  have:w.heap.size=k:=Option.some.inj e;subst this;exact if_pos rfl
end
abbrev Plc:=List (Nat→Bool)
def XR (w:World) (D:Nat) (dn dr:Value):Prop:=w.heap[D]? =some (.cells #[dn,dr] 41 (0,0))
section
variable {w w':World} {D:Nat} {dn dr:Value}
theorem XR.lt (h:XR w D dn dr):D<w.heap.size:=(Array.getElem?_eq_some_iff.1 h).1
theorem XR.cells (h:XR w D dn dr):(w.cell? ⟨D,0,none⟩=some dn∧w.cell? ⟨D,1,none⟩=some dr)∧w.frozen? ⟨D,0,none⟩=false∧w.frozen? ⟨D,1,none⟩=false:=by
 unfold XR at h;refine⟨⟨?_,?_⟩,?_,?_⟩<;>first | (unfold World.cell?;rw[h];rfl) | (unfold World.frozen?;rw[h];simp)
theorem XR.keep {ok:Nat→Prop} (h:XR w D dn dr) (hk:KeepW ok w w') (ho:ok D):XR w' D dn dr:=(hk.same D h.lt ho).trans h
theorem XR.set0 (h:XR w D dn dr) (v:Value):XR (w.setCell ⟨D,0,none⟩ v) D v dr:=by
 unfold XR at h ⊢;unfold World.setCell;simp only[Array.getElem?_modify,if_true,h,Option.map_some];rfl
theorem XR.set1 (h:XR w D dn dr) (v:Value):XR (w.setCell ⟨D,1,none⟩ v) D dn v:=by
 unfold XR at h ⊢;unfold World.setCell;simp only[Array.getElem?_modify,if_true,h,Option.map_some];rfl
end
structure jM (w0:World) (rs:List RuN) (c:Col) (w:World) (D:Nat) (pv dn dr:Value) (xs:List Plc) (rows:List (List Int)) (rl:List Int):Prop where
 bel:Below w0.heap.size w0 w
 fr:xA c w
 old:∀k,k<w0.heap.size→c k=0
 dcol:c D=6
 box:XR w D dn dr
 pp:∃us:List Value,us.length=xs.length∧RowC c 1 119 w pv us∧∀(i:Nat) x u,xs[i]? =some x→us[i]? =some u→PlcC c w u rs x
 dd:∃us:List Value,us.length=rows.length∧RowC c 4 39 w dn us∧∀(i:Nat) l u,rows[i]? =some l→us[i]? =some u→yO c w u (xK l)
 rr:RowC c 5 3 w dr (xK rl)
section
variable {S:Nat→Prop} {w0 w w':World} {rs:List RuN} {c c':Col} {D:Nat} {pv dn dr u:Value} {xs:List Plc} {rows:List (List Int)} {rl row:List Int} {x:Plc}
theorem jM.step (h:jM w0 rs c w D pv dn dr xs rows rl) (hs:StepC S c c' w w') (hS:∀a,S a→a=2∨a=3):jM w0 rs c' w' D pv dn dr xs rows rl:=by
 have h0:¬S 0:=fun e=>by have:=hS 0 e;omega
 have hD:=h.box.lt;obtain⟨us,p1,p2,p3⟩:=h.pp;obtain⟨vs,d1,d2,d3⟩:=h.dd
 exact⟨hs.under h.bel h.bel.size fun k hk e=>h0 (by rw[h.old k hk] at e;exact e),hs.fresh,fun k hk=>by rw[hs.same k (Nat.lt_of_lt_of_le hk h.bel.size)];exact h.old k hk,
  by rw[hs.same D hD];exact h.dcol,h.box.keep hs.keep (by rw[h.dcol];exact fun e=>by have:=hS 6 e;omega),
  ⟨us,p1,p2.step hs fun e=>by have:=hS 1 e;omega,fun i x u hx hu=>(p3 i x u hx hu).step hs h0⟩,
  ⟨vs,d1,d2.step hs fun e=>by have:=hS 4 e;omega,fun i l u hl hu=>(d3 i l u hl hu).step hs h0⟩,
  h.rr.step hs fun e=>by have:=hS 5 e;omega⟩
theorem jM.under (h:jM w0 rs c w D pv dn dr xs rows rl) (hb:Below w.heap.size w w'):jM w0 rs c w' D pv dn dr xs rows rl:=h.step (S:=fun _=>False) (StepC.below h.fr hb) fun _ e=>e.elim
theorem jM.pale {A:Nat} (h:jM w0 rs c w D pv dn dr xs rows rl) (hA:A=2∨A=3):jM w0 rs (pale c A) w D pv dn dr xs rows rl:=by
 obtain⟨us,p1,p2,p3⟩:=h.pp;obtain⟨vs,d1,d2,d3⟩:=h.dd;exact⟨h.bel,h.fr.pale,fun k hk=>jF (h.old k hk),zu h.dcol (by omega),h.box,⟨us,p1,p2.pale (by omega),fun i x u hx hu=>(p3 i x u hx hu).pale⟩,⟨vs,d1,d2.pale (by omega),fun i l u hl hu=>(d3 i l u hl hu).pale⟩,h.rr.pale (by omega)⟩
theorem jM.get (h:jM w0 rs c w D pv dn dr xs rows rl) {i:Nat} (hi:xs[i]? =some x):∃g o cap u,pv= .slice (some ⟨g,o,none⟩) xs.length cap∧w.cell? ⟨g,o+i,none⟩=some u∧PlcC c w u rs x:=by
 obtain⟨us,p1,p2,p3⟩:=h.pp;obtain⟨ao,cap,hv,hn,hc⟩:=p2.rowZ;obtain⟨u,hu⟩:∃u,us[i]? =some u:=⟨_,List.getElem?_eq_getElem (by rw[p1];exact (List.getElem?_eq_some_iff.1 hi).1)⟩;obtain⟨g,o,ha,_,hg⟩:=hc i u hu;exact⟨g,o,cap,u,by rw[hv,ha,p1],hg,p3 i x u hi hu⟩
theorem jM.form (h:jM w0 rs c w D pv dn dr xs rows rl):∃ao cap,pv= .slice ao xs.length cap∧xs.length≤cap:=by
 obtain⟨us,p1,p2,_⟩:=h.pp;obtain⟨ao,cap,hv,hn⟩:=p2.form;exact⟨ao,cap,by rw[hv,p1],by omega⟩
theorem jM.addP (h:jM w0 rs c w D pv dn dr xs rows rl) (hx:PlcC c w u rs x) (hu:u.oneCell'=true) (hl:xs.length≤100000) (ty:TypeId):
  ∃ao cap w' c',(Builtin.append_ #[120,120] ty #[pv,.slice (some ⟨w.heap.size,0,none⟩) 1 1]).run Tryz.prog (w.alloc (.cells #[u] 119))= .ok (.slice ao (xs.length+1) cap) w' ∧
   jM w0 rs c' w' D (.slice ao (xs.length+1) cap) dn dr (xs++ [x]) rows rl∧StepC (fun a=>a=1) c c' w w':=by
 obtain⟨us,p1,p2,p3⟩:=h.pp;obtain⟨vs,d1,d2,d3⟩:=h.dd;obtain⟨ao,cap,w',c',hr,h2,hs⟩:=p2.pushA (u:=u) h.fr 120 ty Tryz.underlying120 Tryz.infoPlcD rfl (by decide) hu (by omega);rw[p1] at hr h2;have h0:¬(0:Nat)=1:=by decide
 refine⟨ao,cap,w',c',hr,⟨hs.under h.bel h.bel.size fun k hk e=>h0 (by rw[h.old k hk] at e;exact e),hs.fresh,fun k hk=>by rw[hs.same k (Nat.lt_of_lt_of_le hk h.bel.size)];exact h.old k hk,
  by rw[hs.same D h.box.lt];exact h.dcol,h.box.keep hs.keep (by rw[h.dcol];decide),⟨us++ [u],by rw[List.length_append,List.length_append,p1];rfl,h2,fun i y v hy hv=> ?_⟩,
  ⟨vs,d1,d2.step hs (by decide),fun i l u hl hu=>(d3 i l u hl hu).step hs h0⟩,h.rr.step hs (by decide)⟩,hs⟩
 by_cases ci:i<xs.length
 ·rw[List.getElem?_append_left ci] at hy;rw[List.getElem?_append_left (by omega)] at hv;exact (p3 i y v hy hv).step hs h0
 ·have hil:=(List.getElem?_eq_some_iff.1 hy).1;rw[List.length_append] at hil;have hil:i=xs.length:=by simp at hil;omega
  subst hil;rw[List.getElem?_append_right (Nat.le_refl _),Nat.sub_self] at hy;rw[List.getElem?_append_right (by omega),p1,Nat.sub_self] at hv;cases hy;cases hv;exact hx.step hs h0
theorem jM.first (h:jM w0 rs c w D (.slice none 0 0) dn dr [] rows rl) (hx:PlcC c w u rs x):jM w0 rs (colAt c 1 w.heap.size) (w.alloc (.cells #[u] 119)) D (.slice (some ⟨w.heap.size,0,none⟩) 1 1) dn dr [x] rows rl:=by
 have hs:=StepC.colAt (S:=fun _=>False) (A:=1) h.fr (.cells #[u] 119);obtain⟨vs,d1,d2,d3⟩:=h.dd;have hno:∀a,¬(fun _:Nat=>False) a:=fun _ e=>e
 exact⟨hs.under h.bel h.bel.size fun _ _ e=>e,hs.fresh,fun k hk=>by rw[hs.same k (Nat.lt_of_lt_of_le hk h.bel.size)];exact h.old k hk,by rw[hs.same D h.box.lt];exact h.dcol,h.box.keep hs.keep (fun e=>e),
  ⟨[u],rfl,RowC.one,fun i y v hy hv=>by
    match i,hy,hv with
    | 0,hy,hv=>cases hy;cases hv;exact hx.step hs (fun e=>e)⟩,
  ⟨vs,d1,d2.step hs (fun e=>e),fun i l v hl hv=>(d3 i l v hl hv).step hs (fun e=>e)⟩,h.rr.step hs (fun e=>e)⟩
theorem jM.addRow (h:jM w0 rs c w D pv dn dr xs rows rl) (hx:yO c w u (xK row)) (hu:u.oneCell'=true) (hl:rows.length≤100000) (ty:TypeId):
  ∃ao cap w' c',(Builtin.append_ #[38,38] ty #[dn,.slice (some ⟨w.heap.size,0,none⟩) 1 1]).run Tryz.prog (w.alloc (.cells #[u] 39))= .ok (.slice ao (rows.length+1) cap) w'∧w'.cell? ⟨D,0,none⟩=some dn∧w'.frozen? ⟨D,0,none⟩=false∧D<w'.heap.size ∧
   jM w0 rs c' (w'.setCell ⟨D,0,none⟩ (.slice ao (rows.length+1) cap)) D pv (.slice ao (rows.length+1) cap) dr xs (rows++ [row]) rl:=by
 obtain⟨us,p1,p2,p3⟩:=h.pp;obtain⟨vs,d1,d2,d3⟩:=h.dd;obtain⟨ao,cap,w',c',hr,h2,hs⟩:=d2.pushA (u:=u) h.fr 38 ty Tryz.underlying38 Tryz.infoIntsD rfl (by decide) hu (by omega);rw[d1] at hr h2;have h0:¬(0:Nat)=4:=by decide
 have hbox:=h.box.keep hs.keep (by rw[h.dcol];decide);have hD':c' D=6:=by rw[hs.same D h.box.lt];exact h.dcol
 have hz:(w'.setCell ⟨D,0,none⟩ (.slice ao (rows.length+1) cap)).heap.size=w'.heap.size:=by show (w'.heap.modify _ _).size=_;rw[Array.size_modify]
 have hs2:StepC (fun a=>a=6) c' c' w' (w'.setCell ⟨D,0,none⟩ (.slice ao (rows.length+1) cap)):=⟨zE D 0 none _ w' (by rw[hD'];decide),fun _ _=>rfl,fun k hk=>hs.fresh k (by rw[←hz];exact hk)⟩;have hss:=(hs.mono (S':=fun a=>a=4∨a=6) fun a e=> .inl e).trans (hs2.mono fun a e=> .inr e)
 refine⟨ao,cap,w',c',hr,hbox.cells.1.1,hbox.cells.2.1,hbox.lt,⟨hss.under h.bel h.bel.size fun k hk e=>by rw[h.old k hk] at e;omega,hss.fresh,fun k hk=>by rw[hss.same k (Nat.lt_of_lt_of_le hk h.bel.size)];exact h.old k hk,
  hD',hbox.set0 _,⟨us,p1,p2.step hss (by decide),fun i x u hx hu=>(p3 i x u hx hu).step hss (by decide)⟩,⟨vs++ [u],by rw[List.length_append,List.length_append,d1];rfl,h2.step hs2 (by decide),fun i l v hl hv=> ?_⟩,h.rr.step hss (by decide)⟩⟩
 by_cases ci:i<rows.length
 ·rw[List.getElem?_append_left ci] at hl;rw[List.getElem?_append_left (by omega)] at hv;exact (d3 i l v hl hv).step hss (by decide)
 ·have hil:=(List.getElem?_eq_some_iff.1 hl).1;rw[List.length_append] at hil;have hil:i=rows.length:=by simp at hil;omega
  subst hil;rw[List.getElem?_append_right (Nat.le_refl _),Nat.sub_self] at hl;rw[List.getElem?_append_right (by omega),d1,Nat.sub_self] at hv;cases hl;cases hv;exact hx.step hss (by decide)
theorem jM.addRule (h:jM w0 rs c w D pv dn dr xs rows rl) (a:Int) (hl:rl.length≤100000) (ty:TypeId):
  ∃ao cap w' c',(Builtin.append_ #[39,39] ty #[dr,.slice (some ⟨w.heap.size,0,none⟩) 1 1]).run Tryz.prog (w.alloc (.cells #[.int .i64 a] 3))= .ok (.slice ao (rl.length+1) cap) w'∧w'.cell? ⟨D,1,none⟩=some dr∧w'.frozen? ⟨D,1,none⟩=false∧D<w'.heap.size ∧
   jM w0 rs c' (w'.setCell ⟨D,1,none⟩ (.slice ao (rl.length+1) cap)) D pv dn (.slice ao (rl.length+1) cap) xs rows (rl++ [a]):=by
 obtain⟨us,p1,p2,p3⟩:=h.pp;obtain⟨vs,d1,d2,d3⟩:=h.dd;obtain⟨ao,cap,w',c',hr,h2,hs⟩:=h.rr.pushA (u:= .int .i64 a) h.fr 39 ty Tryz.underlying39 Tryz.infoIntN rfl (by decide) rfl (by rw[zP];exact hl);rw[zP] at hr h2;have h0:¬(0:Nat)=5:=by decide
 have hbox:=h.box.keep hs.keep (by rw[h.dcol];decide);have hD':c' D=6:=by rw[hs.same D h.box.lt];exact h.dcol
 have hz:(w'.setCell ⟨D,1,none⟩ (.slice ao (rl.length+1) cap)).heap.size=w'.heap.size:=by show (w'.heap.modify _ _).size=_;rw[Array.size_modify]
 have hs2:StepC (fun a=>a=6) c' c' w' (w'.setCell ⟨D,1,none⟩ (.slice ao (rl.length+1) cap)):=⟨zE D 1 none _ w' (by rw[hD'];decide),fun _ _=>rfl,fun k hk=>hs.fresh k (by rw[←hz];exact hk)⟩;have hss:=(hs.mono (S':=fun a=>a=5∨a=6) fun a e=> .inl e).trans (hs2.mono fun a e=> .inr e);have hrow:xK rl++ [Value.int .i64 a]=xK (rl++ [a]):=by unfold xK;rw[List.map_append];rfl
 rw[hrow] at h2
 exact⟨ao,cap,w',c',hr,hbox.cells.1.2,hbox.cells.2.2,hbox.lt,⟨hss.under h.bel h.bel.size fun k hk e=>by rw[h.old k hk] at e;omega,hss.fresh,fun k hk=>by rw[hss.same k (Nat.lt_of_lt_of_le hk h.bel.size)];exact h.old k hk,
  hD',hbox.set1 _,⟨us,p1,p2.step hss (by decide),fun i x u hx hu=>(p3 i x u hx hu).step hss (by decide)⟩,⟨vs,d1,d2.step hss (by decide),fun i l u hl hu=>(d3 i l u hl hu).step hss (by decide)⟩,h2.step hs2 (by decide)⟩⟩
end
section
variable {w0 w:World} {rs:List RuN} {c:Col} {D:Nat} {pv dn dr rv:Value} {xs:List Plc} {rows:List (List Int)} {rl row:List Int}
theorem jM.addR (h:jM w0 rs c w D pv dn dr xs rows rl) (hR:RowC c 2 3 w rv (xK row)) (a:Int) {b:Nat} (hb:row.length=b) (hl:b≤1000) (ty:TypeId):
  ∃ao cap w' c',(Builtin.append_ #[39,39] ty #[rv,.slice (some ⟨w.heap.size,0,none⟩) 1 1]).run Tryz.prog (w.alloc (.cells #[.int .i64 a] 3))= .ok (.slice ao (b+1) cap) w' ∧
   jM w0 rs c' w' D pv dn dr xs rows rl∧RowC c' 2 3 w' (.slice ao (b+1) cap) (xK (row++ [a])):=by
 obtain⟨ao,cap,w',c',hr,h2,hs⟩:=hR.pushA (u:= .int .i64 a) h.fr 39 ty Tryz.underlying39 Tryz.infoIntN rfl (by decide) rfl (by rw[zP];omega);rw[zP,hb] at hr h2;have hrow:xK row++ [Value.int .i64 a]=xK (row++ [a]):=by unfold xK;rw[List.map_append];rfl
 rw[hrow] at h2;exact⟨ao,cap,w',c',hr,h.step hs fun _ e=> .inl e,h2⟩
end
def km (c:Col) (w:World) (v:Value) (rs:List RuN) (x:Plc):Prop:=
 x.length≤rs.length∧∃us:List Value,us.length=x.length∧RowC c 3 46 w v us∧∀(i:Nat) (r:RuN) (a:Nat→Bool) (u:Value),rs[i]? =some r→x[i]? =some a→us[i]? =some u→QP c w u r.m a
section
variable {S:Nat→Prop} {w w':World} {rs:List RuN} {c c':Col} {v u:Value} {x:Plc} {r:RuN} {a:Nat→Bool}
theorem km.nil (c:Col) (w:World) (rs:List RuN):km c w (.slice none 0 0) rs []:=⟨Nat.zero_le _,[],rfl,RowC.nil _ _ _ _,fun i r a u _ h=>by simp at h⟩
theorem km.step (h:km c w v rs x) (hs:StepC S c c' w w') (h0:¬S 0) (h3:¬S 3):km c' w' v rs x:=by
 obtain⟨h1,us,h2,h4,h5⟩:=h;exact⟨h1,us,h2,h4.step hs h3,fun i r a u hr ha hu=>(h5 i r a u hr ha hu).step hs h0⟩
theorem km.form (h:km c w v rs x):∃ao cap,v= .slice ao x.length cap∧x.length≤cap:=by
 obtain⟨h1,us,h2,h4,_⟩:=h;obtain⟨ao,cap,hv,hn⟩:=h4.form;exact⟨ao,cap,by rw[hv,h2],by omega⟩
theorem km.add (hf:xA c w) (h:km c w v rs x) (hr:rs[x.length]? =some r) (ha:QP c w u r.m a) (hu:u.oneCell'=true) (hl:rs.length≤1000) (ty:TypeId):
  ∃ao cap w' c',(Builtin.append_ #[119,119] ty #[v,.slice (some ⟨w.heap.size,0,none⟩) 1 1]).run Tryz.prog (w.alloc (.cells #[u] 46))= .ok (.slice ao (x.length+1) cap) w'∧km c' w' (.slice ao (x.length+1) cap) rs (x++ [a])∧StepC (fun b=>b=3) c c' w w':=by
 obtain⟨h1,us,h2,h4,h5⟩:=h;have hlt:=(List.getElem?_eq_some_iff.1 hr).1;obtain⟨ao,cap,w',c',hrun,h6,hs⟩:=h4.pushA (u:=u) hf 119 ty Tryz.underlying119 Tryz.infoBoolsD rfl (by decide) hu (by omega);rw[h2] at hrun h6;refine⟨ao,cap,w',c',hrun,⟨by rw[List.length_append];exact hlt,us++ [u],by rw[List.length_append,List.length_append,h2];rfl,h6,fun i r2 a2 u2 hr2 ha2 hu2=> ?_⟩,hs⟩;by_cases ci:i<x.length
 ·rw[List.getElem?_append_left ci] at ha2;rw[List.getElem?_append_left (by omega)] at hu2;exact (h5 i r2 a2 u2 hr2 ha2 hu2).step hs (by decide)
 ·have hil:=(List.getElem?_eq_some_iff.1 ha2).1;rw[List.length_append] at hil;have hil:i=x.length:=by simp at hil;omega
  subst hil;rw[List.getElem?_append_right (Nat.le_refl _),Nat.sub_self] at ha2;rw[List.getElem?_append_right (by omega),h2,Nat.sub_self] at hu2;cases ha2;cases hu2;rw[hr] at hr2;cases hr2;exact ha.step hs (by decide)
theorem km.done (h:km c w v rs x) (hl:x.length=rs.length):PlcC (pale c 3) w v rs x:=by
 obtain⟨_,us,h2,h4,h5⟩:=h;exact⟨us,by omega,hl,h4.cel,fun i r a u hr ha hu=>(h5 i r a u hr ha hu).pale⟩
theorem km.read (h:km c w v rs x) (hl:x.length=rs.length):zEP w v rs x:=(h.done hl).read
end
theorem zw {w w':World} {v u v':Value} {ops:Array Oper} {o:Oper} {a:Act} {K:Act→World→Prop} {Q:Exit→Act→World→Prop} {E:Prop} (hgd:o.guard=none) (s x:Operand) (t:TypeId)
  (ho:o.op= .call ⟨ .builtin .append,#[s,x],#[t,t]⟩)
  (hs:a.eval s=v) (hx:a.eval x=u) (hr:(Builtin.append_ #[t,t] o.type #[v,u]).run Tryz.prog w= .ok v' w') (h:K (a.put o.dst v') w'):
  if Region.wanted o (yielded ops a.tmps)=true then Oper.wp Tryz.prog o a w K Q else E:=by
 have hw:Region.wanted o (yielded ops a.tmps)=true:=by simp[Region.wanted,hgd]
 rw[if_pos hw];unfold Oper.wp execOp;simp only[ho,resolve,invoke,builtin,Sem.run_bind,Sem.run_pure,Result.andThen_ok,List.map_toArray,List.map_cons,List.map_nil,hs,hx,hr];exact h
theorem QI {α:Type} (step:α→Nat→α) (dead:α→Bool) (same:α→α→Bool) (x:α) (xs:List α):∀b,xs.length≤(rowX step dead same x xs b).1.length∧(rowX step dead same x xs b).1.length≤xs.length+b
 | 0=>⟨Nat.le_refl _,Nat.le_refl _⟩
 | b+1=>by
  have:=QI step dead same x xs b;rw[rowX];unfold kT;split
  ·dsimp only;omega
  ·split
   ·dsimp only;rw[List.length_append,List.length_singleton];omega
   ·dsimp only;omega
abbrev KO (rs:List RuN) (x:Plc) (xs:List Plc) (b:Nat):List Plc×List Int:=rowX (zO rs) (vb rs) (zr rs) x xs b
abbrev GoP (rs:List RuN) (k:Nat) (xs:List Plc) (rows:List (List Int)):Prop:=GoI (zO rs) (vb rs) (zr rs) (fun x=>x.length=rs.length) (fun x w=>qL rs x 0 w) (xI rs) k xs rows
structure QT (w:World) (v:Value) (d:Dfa):Prop where
 few:d.n≤2000
 same:d.rule.length=d.n
 at_:∃B ao cap ro rc,v= .pointer (some ⟨B,0,none⟩)∧w.cell? ⟨B,0,none⟩=some (.slice ao d.n cap)∧w.cell? ⟨B,1,none⟩=some (.slice ro d.n rc)∧d.n≤cap∧jG w (.slice ro d.n rc) d.rule ∧
  ∀(i:Nat) l,d.next[i]? =some l→∃g o u,ao=some ⟨g,o,none⟩∧w.cell? ⟨g,o+i,none⟩=some u∧jG w u l
theorem QT.below {w w':World} {v:Value} {d:Dfa} (h:QT w v d) (hb:Below w.heap.size w w'):QT w' v d:=by
 obtain⟨h1,h2,B,ao,cap,ro,rc,hv,c0,c1,hn,hr,hl⟩:=h;have hk:=keep_below (fun _=>True) hb;refine⟨h1,h2,B,ao,cap,ro,rc,hv,hk.cell c0 trivial,hk.cell c1 trivial,hn,hr.below hb,fun i l hi=> ?_⟩;obtain⟨g,o,u,h3,h4,h5⟩:=hl i l hi;exact⟨g,o,u,h3,hk.cell h4 trivial,h5.below hb⟩
theorem jM.table {w0 w:World} {rs:List RuN} {c:Col} {D:Nat} {pv dn dr:Value} {xs:List Plc} {rows:List (List Int)} {rl:List Int} (h:jM w0 rs c w D pv dn dr xs rows rl) (hl:rl.length=rows.length) (hn:rows.length≤2000) (h256:∀r,r∈rows→r.length=256):QT w (.pointer (some ⟨D,0,none⟩)) ⟨rows,rl⟩:=by
 obtain⟨vs,d1,d2,d3⟩:=h.dd;obtain⟨ao,cap,hv,hc,hcell⟩:=d2.rowZ;obtain⟨ro,rc,hrv,hrn,hrc⟩:=h.rr.rowZ;refine⟨hn,hl,D,ao,cap,ro,rc,rfl,?_,?_,?_,?_,fun i l hi=> ?_⟩
 ·rw[h.box.cells.1.1,hv,d1];rfl
 ·rw[h.box.cells.1.2,hrv,zP,hl];rfl
 ·show rows.length≤cap;omega
 ·refine⟨⟨ro,rc,?_,?_,fun j u hu=> ?_⟩,?_⟩
  ·show Value.slice ro rows.length rc=Value.slice ro rl.length rc;rw[hl]
  ·rw[zP] at hrn;exact hrn
  ·obtain⟨g,o,h1,_,h3⟩:=hrc j u hu;exact⟨g,o,h1,trivial,h3⟩
  ·show rl.length≤1000000;omega
 ·obtain⟨u,hu⟩:∃u,vs[i]? =some u:=⟨_,List.getElem?_eq_getElem (by rw[d1];exact (List.getElem?_eq_some_iff.1 hi).1)⟩;obtain⟨g,o,h1,_,h3⟩:=hcell i u hu;refine⟨g,o,u,h1,h3,?_,by have:=h256 l (List.mem_of_getElem? hi);omega⟩;have:=(d3 i l u hi hu).read;rw[zP] at this;exact this
def zI8 (rs:List RuN) (most:Nat) (w':World) (e:Ending):Prop:=e= .returned (.tuple #[.pointer none,.bool false])∨∃dv xs rows,e= .returned (.tuple #[dv,.bool true])∧GoP rs xs.length xs rows∧xs.length≤max 1 most∧QT w' dv ⟨rows,xs.map fun x=>qL rs x 0 []⟩
set_option maxRecDepth 4000 in
theorem zEU {w:World} {v:Value} {rs:List RuN} (hu:Qg w v rs) (hok:∀r,r∈rs→∀st,st∈r.sets→OkR st) (hrs:zGD rs) (hl:rs.length≤64) (most:Nat) (hmost:most≤1000):
  Calls Tryz.prog 32 #[v,.int .i64 (most:Int)] w fun e w'=>zI8 rs most w' e∧Below w.heap.size w w':=by
 have HU:=qh (fun (W:World) (hb:Below w.heap.size w W)=>hu.below hb);have HOK:=qh hok;have HH:=qh (Zy rs hrs);have HMM:=qh (fun (r:RuN) (hr:r∈rs)=>(by
  obtain⟨i,hi⟩:=List.mem_iff_getElem?.1 hr;obtain⟨_,_,_,_,_,_,h⟩:=hu.get hi;exact h.few:r.m≤1000))
 obtain⟨vo,vc,rfl,hvc⟩:=hu.form;obtain⟨m,hm⟩:∃m,rs.length=m:=⟨_,rfl⟩;have HM:=qh hm;rw[hm] at hvc hl HU ⊢;clear hu hok hrs hm;have hba:=zA w (.cells #[.slice none 0 0,.slice none 0 0] 41);have hsz:=zC w (.cells #[.slice none 0 0,.slice none 0 0] 41);have hbx:XR (w.alloc (.cells #[.slice none 0 0,.slice none 0 0] 41)) w.heap.size (.slice none 0 0) (.slice none 0 0):=heap_alloc_new _ _;have hst:=StepC.colAt (S:=fun _=>False) (c:=fun _=>0) (A:=6) (w:=w) (fun _ _=>rfl) (.cells #[.slice none 0 0,.slice none 0 0] 41);obtain⟨W1,hW1⟩:∃W,w.alloc (.cells #[.slice none 0 0,.slice none 0 0] 41)=W:=⟨_,rfl⟩;rw[hW1] at hba hsz hbx hst
 have H0:Hid (∃(c:Col) (x:Plc) (nv:Value),nv= .slice none 0 0∧x=(xI rs).take 0∧jM w rs c W1 w.heap.size (.slice none 0 0) (.slice none 0 0) (.slice none 0 0) [] [] []∧km c W1 nv rs x):=
  qh ⟨colAt (fun _=>0) 6 w.heap.size,_,_,rfl,rfl,⟨hba,hst.fresh,fun k hk=>x9 hk,if_pos rfl,hbx,⟨[],rfl,RowC.nil _ _ _ _,fun i x u h=>by simp at h⟩,⟨[],rfl,RowC.nil _ _ _ _,fun i x u h=>by simp at h⟩,RowC.nil _ _ _ _⟩,km.nil _ _ _⟩
 clear hba hsz hbx hst;go_enter Tryz.func32,Tryz.ntmps32;go_wp2_with fail
 (try rw[hW1]);clear hW1;obtain⟨D,hD⟩:∃D,w.heap.size=D:=⟨_,rfl⟩;(try rw[hD]);have H1:Hid (∃(c:Col) (x:Plc) (nv:Value),nv= .slice none 0 0∧x=(xI rs).take 0∧jM w rs c W1 D (.slice none 0 0) (.slice none 0 0) (.slice none 0 0) [] [] []∧km c W1 nv rs x):=qh (by rw[←hD];exact H0.out);clear H0 hD;go_loopw [7,8] (fun s7 s8 wr=>∃r:Nat,s8= .int .i64 (r:Int)∧r≤m∧Hid (∃(c:Col) (x:Plc) (nv:Value),nv=s7∧x=(xI rs).take r∧jM w rs c wr D (.slice none 0 0) (.slice none 0 0) (.slice none 0 0) [] [] []∧km c wr nv rs x)) (fun _ s8 _=>m-(intOf s8).toNat)
 case atStart=>exact⟨0,rfl,Nat.zero_le _,H1⟩
 case round=>
  obtain⟨r,rfl,hr,HX⟩:=hrel;clear H1;obtain⟨c,x,nv,rfl,hx,hA,hN⟩:=HX.out;clear HX;have r0:(0:Int)≤(r:Int):=by omega
  have rb:(r:Int)≤64:=by omega
  obtain⟨no,nc,rfl,_⟩:=hN.form;have hxl:x.length=r:=by rw[hx,List.length_take,xz,HM.out];omega
  by_cases hlt:r<m
  ·have hli:(r:Int)<(m:Int):=(by omega);have hla:r<rs.length:=(by have:=HM.out;omega);obtain⟨R,hR⟩:∃R,rs[r]? =some R:=⟨_,List.getElem?_eq_getElem hla⟩;obtain⟨g,o,cu,p,hue,hcu,hru⟩:=Qg.get (HU.out wr hA.bel) hR;injection hue with e1 e2 e3
   subst e1;clear e2 e3;have HA:=qh (Vi hru);have HQ:=qh (And.intro hx (And.intro hA (And.intro hN (And.intro hxl hR))));obtain⟨L,hL⟩:∃L,x.length=L:=⟨_,rfl⟩;clear hx hA hN hru;rw[hL] at hxl;rw[hL];clear hL hR;go_wp2_with fail
   go_fit HA.out;rintro e w2 ⟨G,rfl,hB,hb2⟩;have hA2:=HQ.out.2.1.under hb2;have hN2:=HQ.out.2.2.1.step (S:=fun _=>False) (StepC.below HQ.out.2.1.fr hb2) (fun e=>e) (fun e=>e);have hB2:QP c w2 (.slice (some ⟨G,0,none⟩) R.m R.m) R.m jB:=QP.of HQ.out.2.1.fr hB;obtain⟨ao,cap,w3,c3,hrun,hN3,hs3⟩:=km.add hA2.fr hN2 (by rw[HQ.out.2.2.2.1];exact HQ.out.2.2.2.2) hB2 rfl (by have:=HM.out;omega) 119;have hA3:=hA2.step hs3 fun a e=> .inr e;have hxn:x++ [jB]=(xI rs).take (r+1):=by
    rw[HQ.out.1,List.take_add_one];unfold xI;rw[List.getElem?_map,HQ.out.2.2.2.2];rfl
   have HR:=qh (And.intro hA3 (And.intro hN3 hxn));have hlx:=HQ.out.2.2.2.1;clear hA2 hN2 hB2 hA3 hN3 hs3 hxn hB hb2 HA HQ;rw[hlx] at hrun HR;clear hlx;go_wp2_with (at_builtin;refine napp_list (by rfl) _ _ 119 (by rfl) (by rfl) (by rfl) hrun ?_)
   go_roundw
   case rel=>exact⟨r+1,by go_num,hlt,qh ⟨_,_,_,rfl,HR.out.2.2,HR.out.1,HR.out.2.1⟩⟩
   case measure=>simp[intOf]<;>omega
  ·have hli:¬(r:Int)<(m:Int):=(by omega);have hrm:x=xI rs:=(by rw[hx,List.take_of_length_le (by rw[xz,HM.out];omega)]);have hA2:=(hA.pale (A:=3) (.inr rfl)).first (hN.done (by rw[hrm,xz]));rw[hxl] at hA2;obtain⟨W2,hW2⟩:∃W,wr.alloc (.cells #[.slice no r nc] 119)=W:=⟨_,rfl⟩;rw[hW2] at hA2;have hG:=kU (step:=zO rs) (dead:=vb rs) (same:=zr rs) (G:=fun x=>x.length=rs.length) (sem:=fun x w=>qL rs x 0 w) (xI rs) (xz rs);rw[hrm] at hA2
   have H2:Hid (∃(c:Col) (pv dn dr:Value) (xs:List Plc) (rows:List (List Int)),pv= .slice (some ⟨wr.heap.size,0,none⟩) 1 1∧jM w rs c W2 D pv dn dr xs rows ((xs.take 0).map fun x=>qL rs x 0 [])∧GoP rs 0 xs rows∧xs.length≤max 1 most):=
    qh ⟨_,_,_,_,[xI rs],[],rfl,hA2,hG,by show 1≤_;omega⟩
   clear hA2 hG hx hA hN hrm;go_wp2_with fail
   (try rw[hW2]);clear hW2;obtain⟨P0,hP0⟩:∃P,wr.heap.size=P:=⟨_,rfl⟩;rw[hP0] at H2;(try rw[hP0]);clear hP0;go_loopw [9,10] (fun s9 s10 wr=>∃k:Nat,s10= .int .i64 (k:Int)∧k≤max 1 most∧Hid (∃(c:Col) (pv dn dr:Value) (xs:List Plc) (rows:List (List Int)),pv=s9∧jM w rs c wr D pv dn dr xs rows ((xs.take k).map fun x=>qL rs x 0 [])∧GoP rs k xs rows∧xs.length≤max 1 most)) (fun _ s10 _=>max 1 most-(intOf s10).toNat)
   case atStart=>exact⟨0,rfl,Nat.zero_le _,H2⟩
   case round=>
    obtain⟨k,rfl,hk,HX⟩:=hrel;clear H2;obtain⟨c,pv,dn,dr,xs,rows,rfl,hA,hG,hmx⟩:=HX.out;clear HX;have hk0:(0:Int)≤(k:Int):=(by omega);have hkb:(k:Int)≤1000:=(by omega);obtain⟨po,pc,rfl,_⟩:=hA.form;obtain⟨n,hn⟩:∃n,xs.length=n:=⟨_,rfl⟩;have HNL:=qh hn;have hnb:n≤1000:=(by omega);rw[hn];by_cases hlt:k<n
    ·have hli:(k:Int)<(n:Int):=(by omega);obtain⟨x,hx⟩:∃x,xs[k]? =some x:=⟨_,List.getElem?_eq_getElem (by omega)⟩;have HQ:=qh (And.intro hx (And.intro hG hmx));have hxl:x.length=rs.length:=hG.good x (List.mem_of_getElem? hx);have HXL:=qh hxl
     have H3:Hid (∃(c:Col) (pv rv:Value) (ys:List Plc) (row:List Int),pv= .slice po n pc∧rv= .slice none 0 0∧(ys,row)=KO rs x xs 0∧jM w rs c wr D pv dn dr ys rows ((xs.take k).map fun x=>qL rs x 0 [])∧RowC c 2 3 wr rv (xK row)):=
      qh ⟨c,_,_,xs,[],rfl,rfl,rfl,by rw[←hn];exact hA,RowC.nil _ _ _ _⟩
     clear hx hA hG hmx hn hxl;go_wp2_with fail
     go_loopw [9,11,12] (fun s9 s11 s12 wr=>∃b:Nat,s12= .int .i64 (b:Int)∧b≤256∧Hid (∃(c:Col) (pv rv:Value) (ys:List Plc) (row:List Int),pv=s9∧rv=s11∧(ys,row)=KO rs x xs b∧jM w rs c wr D pv dn dr ys rows ((xs.take k).map fun x=>qL rs x 0 [])∧RowC c 2 3 wr rv (xK row))) (fun _ _ s12 _=>256-(intOf s12).toNat)
     case atStart=>exact⟨0,rfl,Nat.zero_le _,H3⟩
     case round=>
      obtain⟨b,rfl,hb,HX⟩:=hrel;clear H3;obtain⟨c,pv,rv,ys,row,rfl,rfl,hyr,hA,hR⟩:=HX.out;clear HX;have b0:(0:Int)≤(b:Int):=(by omega);have bb:(b:Int)≤256:=(by omega);obtain⟨hri,hrl⟩:=Q3 HH.out HXL.out (X8 (x:=x) HQ.out.2.1) b hb;have hyl:=QI (zO rs) (vb rs) (zr rs) x xs b;change zHT _ _ _ _ _ xs x rows.flatten (KO rs x xs b).1 (KO rs x xs b).2 at hri;change (KO rs x xs b).2.length=b at hrl;change _≤(KO rs x xs b).1.length∧(KO rs x xs b).1.length≤_ at hyl;rw[←hyr] at hri hrl hyl;dsimp only at hri hrl hyl;obtain⟨po2,pc2,rfl,_⟩:=hA.form;obtain⟨ro,rc,rfl,_⟩:=hR.form;rw[zP,hrl] at hR ⊢;obtain⟨ny,hny⟩:∃n,ys.length=n:=⟨_,rfl⟩;have HNY:=qh hny;rw[hny] at hyl hA ⊢;have hnyb:ny≤1256:=(by have:=HNL.out;omega);have HI:=qh (And.intro hyr (And.intro hri (And.intro hrl hyl)));clear hyr hri hrl hyl hny;by_cases hlb:b<256
      ·have hbi:(b:Int)<256:=by omega
       have H4:Hid (∃(c:Col) (nv:Value) (px:Plc),nv= .slice none 0 0∧px=(zO rs x b).take 0∧jM w rs c wr D (.slice po2 ny pc2) dn dr ys rows ((xs.take k).map fun x=>qL rs x 0 [])∧RowC c 2 3 wr (.slice ro b rc) (xK row)∧km c wr nv rs px):=
        qh ⟨c,_,_,rfl,rfl,hA,hR,km.nil _ _ _⟩
       clear hA hR;go_wp2_with fail
       go_loopw [13,14] (fun s13 s14 wr=>∃r:Nat,s14= .int .i64 (r:Int)∧r≤m∧Hid (∃(c:Col) (nv:Value) (px:Plc),nv=s13∧px=(zO rs x b).take r∧jM w rs c wr D (.slice po2 ny pc2) dn dr ys rows ((xs.take k).map fun x=>qL rs x 0 [])∧RowC c 2 3 wr (.slice ro b rc) (xK row)∧km c wr nv rs px)) (fun _ s14 _=>m-(intOf s14).toNat)
       case atStart=>exact⟨0,rfl,Nat.zero_le _,H4⟩
       case round=>
        obtain⟨r,rfl,hr,HX⟩:=hrel;clear H4;obtain⟨c,nv,px,rfl,hpx,hA,hR,hN⟩:=HX.out;clear HX;have r0:(0:Int)≤(r:Int):=(by omega);have rb:(r:Int)≤64:=(by omega);obtain⟨no,nc,rfl,_⟩:=hN.form;have hpl:px.length=r:=(by rw[hpx,List.length_take,xV rs x b HXL.out,HM.out];omega);rw[hpl] at hN ⊢;by_cases hlt:r<m
        ·have hri:(r:Int)<(m:Int):=(by omega);have hla:r<rs.length:=(by have:=HM.out;omega);obtain⟨R,hRr⟩:∃R,rs[r]? =some R:=⟨_,List.getElem?_eq_getElem hla⟩;obtain⟨a,ha⟩:∃a,x[r]? =some a:=⟨_,List.getElem?_eq_getElem (by rw[HXL.out];exact hla)⟩;obtain⟨g,o,cu,p,hue,hcu,hru⟩:=Qg.get (HU.out wr hA.bel) hRr;injection hue with e1 e2 e3
         subst e1;clear e2 e3;have hyk:ys[k]? =some x:=by
          obtain⟨t,ht⟩:=HI.out.2.1.pre;rw[ht,List.getElem?_append_left (by have:=HNL.out;omega)];exact HQ.out.1
         obtain⟨gp,op,cp,ux,hpe,hcp,hpc⟩:=hA.get hyk;injection hpe with e1 e2 e3
         subst e1;clear e2 e3;obtain⟨_,xo,xc,rfl,hxc,hxcell⟩:=hpc.read;obtain⟨gx,ox,ua,rfl,hcx,hba⟩:=hxcell r R a hRr ha;rw[HM.out] at hcp hxc;have hbw:IntKind.u8.wrap (b:Int)=(b:Int):=(by apply IntWalk.u8_in<;>omega);have HST0:∀W,Below wr.heap.size wr W→Calls Tryz.prog 41 #[.pointer p,ua,.int .u8 (b:Int)] W fun e w'=>∃G,e= .returned (.slice (some ⟨G,0,none⟩) R.m R.m)∧Hid (QP c w' (.slice (some ⟨G,0,none⟩) R.m R.m) R.m (qI R a b)∧Below wr.heap.size wr w'):=fun W hW=>
          (zC1 (hru.below hW) (HOK.out R (List.mem_of_getElem? hRr)) (hba.below hW) b (by omega)).mono fun e w' ⟨G,h1,h2,h3⟩=>⟨G,h1,qh ⟨QP.of (hA.fr.below hW) h2,hW.trans (h3.mono hW.size)⟩⟩
         have HST:=qh HST0;have hnx:px++ [qI R a b]=(zO rs x b).take (r+1):=by
          rw[hpx,List.take_add_one];congr 1;rw[kF rs x b hRr ha];rfl
         have HAD0:∀W,Below wr.heap.size wr W→∀G,QP c W (.slice (some ⟨G,0,none⟩) R.m R.m) R.m (qI R a b)→∃ao cap w' c',(Builtin.append_ #[119,119] 119 #[.slice no r nc,.slice (some ⟨W.heap.size,0,none⟩) 1 1]).run Tryz.prog (W.alloc (.cells #[.slice (some ⟨G,0,none⟩) R.m R.m] 46))= .ok (.slice ao (r+1) cap) w' ∧
           Hid (jM w rs c' w' D (.slice (some ⟨gp,op,none⟩) ny pc2) dn dr ys rows ((xs.take k).map fun x=>qL rs x 0 [])∧RowC c' 2 3 w' (.slice ro b rc) (xK row)∧km c' w' (.slice ao (r+1) cap) rs (px++ [qI R a b])):=fun W hW G hB=>by
          have hA2:=hA.under hW;have hN2:=hN.step (S:=fun _=>False) (StepC.below hA.fr hW) (fun e=>e) (fun e=>e);have hR2:=hR.step (S:=fun _=>False) (StepC.below hA.fr hW) (fun e=>e);obtain⟨ao,cap,w3,c3,hrun,hN3,hs3⟩:=km.add hA2.fr hN2 (by rw[hpl];exact hRr) hB rfl (by have:=HM.out;omega) 119;rw[hpl] at hrun hN3;exact⟨ao,cap,w3,c3,hrun,qh ⟨hA2.step hs3 fun a e=> .inr e,hR2.step hs3 (by decide),hN3⟩⟩
         have HAD:=qh HAD0;have HNX:=qh hnx;have kb:=Below.refl wr.heap.size wr;have kd:=kb.drew;have hkny:k<ny:=(by have:=HI.out.2.2.2;have:=HNL.out;omega);clear hpx hA hR hN hpl hnx HST0 HAD0 hru hba hpc hxcell hyk hRr ha hla;go_wp2_with fail
         go_region_law (first
          | (go_simp;go_at_call 41;go_must (go_fit (HST.out _ ?_));(first | with_reducible exact kb | with_reducible exact kd);rintro e w5 ⟨G,rfl,HB5⟩)
          | (obtain⟨ao,cap,w8,c8,hrun,HJ⟩:=HAD.out _ HB5.out.2 G HB5.out.1;refine zw (by rfl) (.tmp 51) (.tmp 66) 119 (by rfl) (by rfl) (by rfl) hrun ?_))
         all_goals
          go_wp2_with fail
          go_roundw
          case rel=>exact⟨r+1,by go_num,hlt,qh ⟨_,_,_,rfl,HNX.out,HJ.out⟩⟩
          case measure=>simp[intOf]<;>omega
        ·have hri:¬(r:Int)<(m:Int):=(by omega);have hpf:px=zO rs x b:=(by rw[hpx,List.take_of_length_le (by rw[xV rs x b HXL.out,HM.out];omega)]);have hpxl:px.length=rs.length:=(by rw[hpl,HM.out];omega);obtain⟨bo,hbo⟩:∃bo,ZR rs px=bo:=⟨_,rfl⟩;have hyx:KO rs x xs (b+1)=kT (zO rs) (vb rs) (zr rs) x (ys,row) b:=(by rw[HI.out.1];rfl);have HD1:Hid (bo=false→(ys,row++ [-1])=KO rs x xs (b+1)):=qh fun h=>by
          rw[hyx];unfold kT;rw[if_pos (by unfold vb;rw[←hpf,hbo,h];rfl)]
         have HD2:Hid (bo=true→xH (zr rs) ys px 0<0→(ys++ [px],row++ [(ny:Int)])=KO rs x xs (b+1)):=qh fun h h2=>by
          rw[hyx];unfold kT;rw[if_neg (by unfold vb;rw[←hpf,hbo,h];decide),←hpf,if_pos h2,HNY.out]
         have HD3:Hid (bo=true→¬xH (zr rs) ys px 0<0→(ys,row++ [xH (zr rs) ys px 0])=KO rs x xs (b+1)):=qh fun h h2=>by
          rw[hyx];unfold kT;rw[if_neg (by unfold vb;rw[←hpf,hbo,h];decide),←hpf,if_neg h2]
         have HAN0:=zET (hN.read hpxl) HMM.out (by rw[HM.out];omega);rw[hbo] at HAN0;have HAN:=qh HAN0;have HJ:=qh (And.intro hA (And.intro hR (And.intro hN hpxl)));clear hpx hA hR hN hpl hpf hpxl hbo hyx HAN0;go_wp2_with fail
         go_fit HAN.out;rintro e w2 ⟨rfl,rfl⟩;cases bo with
         | false=>
          obtain⟨ao,cap,w3,c3,hrun,hA3,hR3⟩:=HJ.out.1.addR HJ.out.2.1 (-1) HI.out.2.2.1 (by omega) 39;have HK:=qh (And.intro (HD1.out (by simp)) (And.intro hA3 hR3));clear hA3 hR3 HD1 HD2 HD3 HJ HAN;go_wp2_with (at_builtin;refine napp_list (by rfl) _ _ 39 (by rfl) (by rfl) (by rfl) hrun ?_)
          go_roundw
          case rel=>exact⟨b+1,by go_num,hlb,qh ⟨_,_,_,_,_,rfl,rfl,HK.out.1,HK.out.2.1,HK.out.2.2⟩⟩
          case measure=>simp[intOf]<;>omega
         | true=>
          obtain⟨wo,hwo⟩:∃wo:World,w2=wo:=⟨_,rfl⟩;rw[hwo] at HJ;(try rw[hwo]);clear hwo HAN HD1;go_wp2_with fail
          go_loopw [15,16] (fun s15 s16 wr=>∃(i:Nat) (t:Int),s16= .int .i64 (i:Int)∧i≤ny∧s15= .int .i64 t∧ -1≤t∧t≤2000∧Hid (Below wo.heap.size wo wr∧((t= -1∧∀(j:Nat) y,j<i→ys[j]? =some y→zr rs y px=false)∨0≤t∧xH (zr rs) ys px 0=t))) (fun s15 s16 _=>ny+1-(intOf s16).toNat)
          case atStart=>exact⟨0,-1,rfl,Nat.zero_le _,rfl,by omega,by omega,qh ⟨Below.refl _ _,.inl ⟨rfl,fun j y hj=>by omega⟩⟩⟩
          case round=>
           obtain⟨i,t,rfl,hi,rfl,ht1,ht2,HT⟩:=hrel;have i0:(0:Int)≤(i:Int):=(by omega);have ib:(i:Int)≤1256:=(by omega);have hA6:=HJ.out.1.under HT.out.1;have hR6:=HJ.out.2.1.step (S:=fun _=>False) (StepC.below HJ.out.1.fr HT.out.1) (fun e=>e);have hN6:=HJ.out.2.2.1.step (S:=fun _=>False) (StepC.below HJ.out.1.fr HT.out.1) (fun e=>e) (fun e=>e);by_cases htn:0≤t
           ·have htn1:¬t<0:=(by omega);have hfx:xH (zr rs) ys px 0=t:=by
             rcases HT.out.2 with h | h
             ·omega
             ·exact h.2
            have HD3':=HD3.out (by simp) (by rw[hfx];omega);rw[hfx] at HD3';obtain⟨ao,cap,w3,c3,hrun,hA3,hR3⟩:=hA6.addR hR6 t HI.out.2.2.1 (by omega) 39;have HK:=qh (And.intro HD3' (And.intro hA3 hR3));clear hA3 hR3 HD2 HD3 HJ hA6 hR6 hN6 HT hfx HD3';have hci:i=ny∨i<ny:=(by omega);rcases hci with hci | hci
            ·have hni:¬(i:Int)<(ny:Int):=(by omega);go_wp2_with (at_builtin;refine napp_list (by rfl) _ _ 39 (by rfl) (by rfl) (by rfl) hrun ?_)
             go_roundw
             case rel=>exact⟨b+1,by go_num,hlb,qh ⟨_,_,_,_,_,rfl,rfl,HK.out.1,HK.out.2.1,HK.out.2.2⟩⟩
             case measure=>simp[intOf]<;>omega
            ·have hni:(i:Int)<(ny:Int):=(by omega);go_wp2_with (at_builtin;refine napp_list (by rfl) _ _ 39 (by rfl) (by rfl) (by rfl) hrun ?_)
             go_roundw
             case rel=>exact⟨b+1,by go_num,hlb,qh ⟨_,_,_,_,_,rfl,rfl,HK.out.1,HK.out.2.1,HK.out.2.2⟩⟩
             case measure=>simp[intOf]<;>omega
           ·have htn1:t<0:=(by omega);have hno:∀(j:Nat) y,j<i→ys[j]? =some y→zr rs y px=false:=by
             rcases HT.out.2 with h | h
             ·exact h.2
             ·omega
            by_cases hin:i<ny
            ·have hni:(i:Int)<(ny:Int):=(by omega);obtain⟨y,hy⟩:∃y,ys[i]? =some y:=⟨_,List.getElem?_eq_getElem (by have:=HNY.out;omega)⟩;obtain⟨gp,op,cp,ux,hpe,hcp,hpc⟩:=hA6.get hy;injection hpe with e1 e2 e3
             subst e1;clear e2 e3;have HSM0:=zBW hpc.read (hN6.read HJ.out.2.2.2) HMM.out (by rw[HM.out];omega);obtain⟨sb,hsb⟩:∃sb,zr rs y px=sb:=⟨_,rfl⟩;rw[hsb] at HSM0;have HSM:=qh HSM0;have HT2:=qh (And.intro HT.out.1 (And.intro hno (And.intro hy hsb)));clear hno hy hsb HSM0 HT hA6 hR6 hN6 hpc;go_wp2_with fail
             go_fit HSM.out;rintro e w7 ⟨rfl,hb7⟩;have HB7:=qh (HT2.out.1.trans (hb7.mono HT2.out.1.size));clear hb7;cases sb with
             | true=>
              have HF:Hid (xH (zr rs) ys px 0=(i:Int)):=qh (by
               rw[yX ys 0 i y HT2.out.2.2.1 HT2.out.2.2.2 fun k z hk hz=>HT2.out.2.1 k z hk hz];congr 1;omega)
              go_wp2_with fail
              go_roundw
              case rel=>exact⟨i+1,(i:Int),by go_num,hin,rfl,by omega,by omega,HB7.out,.inr ⟨by omega,HF.out⟩⟩
              case measure=>simp[intOf]<;>omega
             | false=>
              have HF:Hid (∀(j:Nat) y,j<i+1→ys[j]? =some y→zr rs y px=false):=qh fun j z hj hz=>by
               by_cases cj:j=i
               ·subst cj;rw[HT2.out.2.2.1] at hz;cases hz;exact HT2.out.2.2.2
               ·exact HT2.out.2.1 j z (by omega) hz
              have htm:t= -1:=(by omega);subst htm;go_wp2_with fail
              go_roundw
              case rel=>exact⟨i+1,-1,by go_num,hin,rfl,by omega,by omega,HB7.out,.inl ⟨rfl,HF.out⟩⟩
              case measure=>simp[intOf]<;>omega
            ·have hni:¬(i:Int)<(ny:Int):=(by omega);have hfx:xH (zr rs) ys px 0= -1:=vQ ys 0 fun j y hy=>hno j y (by have:=(List.getElem?_eq_some_iff.1 hy).1;have:=HNY.out;omega) hy;have HD2':=HD2.out (by simp) (by rw[hfx];decide);have hA7:=hA6.pale (A:=3) (.inr rfl);have hR7:=hR6.pale (A:=3) (by decide);have hX7:=hN6.done HJ.out.2.2.2;obtain⟨ao,cap,w3,c3,hrun,hA3,hs3⟩:=hA7.addP hX7 rfl (by have:=HNY.out;omega) 120;rw[HNY.out] at hrun hA3;obtain⟨ao4,cap4,w4,c4,hrun4,hA4,hR4⟩:=hA3.addR (hR7.step hs3 (by decide)) (ny:Int) HI.out.2.2.1 (by omega) 39;have HK:=qh (And.intro HD2' (And.intro hA4 hR4));clear hA3 hR7 hA4 hR4 HD2 HD3 HJ hA6 hR6 hN6 HT hfx HD2' hA7 hX7 hs3 hno;go_wp2_with (at_builtin;first | refine napp_list (by rfl) _ _ 120 (by rfl) (by rfl) (by rfl) hrun ?_ | refine napp_list (by rfl) _ _ 39 (by rfl) (by rfl) (by rfl) hrun4 ?_)
             go_roundw
             case rel=>exact⟨b+1,by go_num,hlb,qh ⟨_,_,_,_,_,rfl,rfl,HK.out.1,HK.out.2.1,HK.out.2.2⟩⟩
             case measure=>simp[intOf]<;>omega
      ·have hbi:¬(b:Int)<256:=(by omega);have hb256:b=256:=(by omega);by_cases hms:most<ny
       ·have hmi:(ny:Int)>(most:Int):=(by omega);have HB:=qh hA.bel;clear hA hR hb256;go_wp2_with fail
        go_ret2
        exact⟨.inl rfl,HB.out⟩
       ·have hmi:¬(ny:Int)>(most:Int):=(by omega);have hGn:=X9 HH.out HQ.out.2.1 HQ.out.1;change GoP rs (k+1) (KO rs x xs 256).1 (rows++ [(KO rs x xs 256).2]) at hGn;rw[←hb256,←HI.out.1] at hGn;dsimp only at hGn;have hyk:ys[k]? =some x:=by
         obtain⟨t,ht⟩:=HI.out.2.1.pre;rw[ht,List.getElem?_append_left (by have:=HNL.out;omega)];exact HQ.out.1
        have hacc:((xs.take k).map fun x=>qL rs x 0 [])++ [qL rs x 0 []]=(ys.take (k+1)).map fun x=>qL rs x 0 []:=by
         obtain⟨t,ht⟩:=HI.out.2.1.pre;rw[List.take_add_one,hyk,List.map_append,ht,List.take_append_of_le_length (by have:=HNL.out;omega)];rfl
        have hrl:=HQ.out.2.1.len;obtain⟨ao,cap,w3,c3,hrun,hc0,hc1,hc2,hA3⟩:=(hA.pale (A:=2) (.inl rfl)).addRow (row:=row) (u:= .slice ro b rc) hR.cel rfl (by omega) 38;obtain⟨d0,d1⟩:=hA.box.cells.1;obtain⟨rn,hrn⟩:∃rn,rows.length+1=rn:=⟨_,rfl⟩;rw[hrn] at hrun hA3;obtain⟨W3,hW3⟩:∃W,w3.setCell ⟨D,0,none⟩ (.slice ao rn cap)=W:=⟨_,rfl⟩;rw[hW3] at hA3;obtain⟨gp,op,cp,ux,hpe,hcp,hpc⟩:=hA3.get hyk;injection hpe with e1 e2 e3
        subst e1;clear e2 e3;have HRL0:∀W,Below W3.heap.size W3 W→Calls Tryz.prog 56 #[.slice vo m vc,ux] W fun e w'=>e= .returned (.int .i64 (qL rs x 0 []))∧Below W3.heap.size W3 w':=fun W hW=>
         (zBX (HU.out W (hA3.bel.trans (hW.mono hA3.bel.size))) (hpc.read.below hW) (by rw[HM.out];omega)).mono fun e w' ⟨h1,h2⟩=>⟨h1,hW.trans (h2.mono hW.size)⟩
        have HAD0:∀W,Below W3.heap.size W3 W→∃ao2 cap2 w' c',(Builtin.append_ #[39,39] 39 #[dr,.slice (some ⟨W.heap.size,0,none⟩) 1 1]).run Tryz.prog (W.alloc (.cells #[.int .i64 (qL rs x 0 [])] 3))= .ok (.slice ao2 (k+1) cap2) w'∧w'.cell? ⟨D,1,none⟩=some dr∧w'.frozen? ⟨D,1,none⟩=false∧D<w'.heap.size ∧
          Hid (jM w rs c' (w'.setCell ⟨D,1,none⟩ (.slice ao2 (k+1) cap2)) D (.slice (some ⟨gp,op,none⟩) ny pc2) (.slice ao rn cap) (.slice ao2 (k+1) cap2) ys (rows++ [row]) ((ys.take (k+1)).map fun x=>qL rs x 0 [])):=fun W hW=>by
         have hkl:((xs.take k).map fun x=>qL rs x 0 []).length=k:=(by rw[List.length_map,List.length_take];have:=HNL.out;omega);obtain⟨ao2,cap2,w',c',h1,h2,h3,h4,h5⟩:=(hA3.under hW).addRule (qL rs x 0 []) (by rw[hkl];omega) 39;rw[hkl] at h1 h5;rw[hacc] at h5;exact⟨ao2,cap2,w',c',h1,h2,h3,h4,qh h5⟩
        have HRL:=qh HRL0;have HAD:=qh HAD0;have HG2:=qh (And.intro hGn (show ys.length≤max 1 most by have:=HNY.out;omega));have kb:=Below.refl W3.heap.size W3;have kd:=kb.drew;obtain⟨d3,d4⟩:=hA3.box.cells.1;have hDl:D<W3.heap.size:=hA3.box.lt;have HDL:=qh hDl;have HE:=qh (fun W (h:Below W3.heap.size W3 W)=>(keep_below (fun _=>True) h).cell d4 trivial);have hkny:k<ny:=(by have:=HI.out.2.2.2;have:=HNL.out;omega);clear hA hR hGn hyk hacc hA3 hpc HRL0 HAD0 hb256 hrl d3 hrn;go_wp2_with (at_builtin;refine napp_list (by rfl) _ _ 38 (by rfl) (by rfl) (by rfl) hrun ?_)
        (try rw[hW3]);clear hrun hc0 hc1 hc2 d0 d1
        go_region_law (first
         | (go_simp;go_at_call 56;go_must (go_fit (HRL.out _ ?_));(first | with_reducible exact kb | with_reducible exact kd);rintro e w5 ⟨rfl,kb5⟩;have kd5:=kb5.drew;have d4:=HE.out _ kb5;have hDl:=Nat.lt_of_lt_of_le HDL.out kb5.size)
         | (obtain⟨ao2,cap2,w8,c8,hrun,q1,q2,q3,HJ⟩:=HAD.out _ kb5;refine zw (by rfl) (.tmp 117) (.tmp 124) 39 (by rfl) (by rfl) (by rfl) hrun ?_)
         | (obtain⟨ao2,cap2,w8,c8,hrun,q1,q2,q3,HJ⟩:=HAD.out _ kd5;refine zw (by rfl) (.tmp 117) (.tmp 124) 39 (by rfl) (by rfl) (by rfl) hrun ?_))
        all_goals
         go_wp2_with fail
         go_roundw
         case rel=>exact⟨k+1,by go_num,by omega,qh ⟨_,_,_,_,_,_,rfl,HJ.out,HG2.out.1,HG2.out.2⟩⟩
         case measure=>simp[intOf]<;>omega
    ·have hli:¬(k:Int)<(n:Int):=(by omega);have hkn:k=xs.length:=by
      have:=hG.le;omega
     have hF:GoP rs xs.length xs rows:=(by rw[←hkn];exact hG);have hT:QT wr (.pointer (some ⟨D,0,none⟩)) ⟨rows,xs.map fun x=>qL rs x 0 []⟩:=by
      have h1:=hA.table (by rw[List.length_map,List.length_take,hG.len];omega) (by rw[hG.len];omega) (fun r hr=>by
       obtain⟨j,hj⟩:=List.mem_iff_getElem?.1 hr;exact (hG.row j r hj).1)
      rwa [List.take_of_length_le (by omega)] at h1
     have HF:=qh (And.intro hF (And.intro hmx (And.intro hT hA.bel)));clear hA hG hF hT hmx hn;go_wp2_with fail
     go_ret2
     exact⟨.inr ⟨_,xs,rows,rfl,HF.out.1,HF.out.2.1,HF.out.2.2.1⟩,HF.out.2.2.2⟩
section
variable {w:World} {v:Value} {d:Dfa}
theorem QT.row (h:QT w v d) (hd:OkD d) {i:Nat} (hi:i<d.n):∃B g o cap u l,v= .pointer (some ⟨B,0,none⟩)∧w.cell? ⟨B,0,none⟩=some (.slice (some ⟨g,o,none⟩) d.n cap)∧d.n≤cap∧d.next[i]? =some l∧w.cell? ⟨g,o+i,none⟩=some u∧jG w u l∧l.length=256∧∀b:Nat,d.to i b=l.getD b (-1):=by
 obtain⟨_,_,B,ao,cap,ro,rc,hv,c0,_,hn,_,hl⟩:=h;obtain⟨l,hl1,hl2,hl3⟩:=hd.rowAt hi;obtain⟨g,o,u,rfl,h3,h4⟩:=hl i l hl1;exact⟨B,g,o,cap,u,l,hv,c0,hn,hl1,h3,h4,hl2,hl3⟩
theorem QT.box (h:QT w v d):∃B ao cap,v= .pointer (some ⟨B,0,none⟩)∧w.cell? ⟨B,0,none⟩=some (.slice ao d.n cap)∧d.n≤cap:=by
 obtain⟨_,_,B,ao,cap,ro,rc,hv,c0,_,hn,_,hl⟩:=h;exact⟨B,ao,cap,hv,c0,hn⟩
theorem QT.rules (h:QT w v d) {i:Nat} (hi:i<d.n):∃B g o rc,v= .pointer (some ⟨B,0,none⟩)∧w.cell? ⟨B,1,none⟩=some (.slice (some ⟨g,o,none⟩) d.n rc)∧d.n≤rc∧w.cell? ⟨g,o+i,none⟩=some (.int .i64 (d.acc i)):=by
 obtain⟨_,hs,B,ao,cap,ro,rc,hv,_,c1,hn,hr,hl⟩:=h;have hi2:i<d.rule.length:=by omega
 obtain⟨a,ha⟩:∃a,d.rule[i]? =some a:=⟨_,List.getElem?_eq_getElem hi2⟩;obtain⟨g,o,c2,he,hc2,hc⟩:=hr.at_ ha;have hac:d.acc i=a:=by
  unfold Dfa.acc;rw[if_pos (by omega),Int.toNat_natCast,zj ha]
 rw[hs] at he;injection he with e1 e2 e3
 subst e1 e3;exact⟨B,g,o,rc,hv,c1,by omega,by rw[hac];exact hc⟩
theorem YV (h:QT w v d) (hd:OkD d) (i b:Nat) (hi:i≤d.n) (hb:b<256):
  Calls Tryz.prog 34 #[v,.int .i64 (i:Int),.int .i64 (b:Int)] w fun e w'=>e= .returned (.int .i64 (toN d i b:Int))∧w'=w:=by
 have hfew:=h.few;have i0:(0:Int)≤(i:Int):=by omega
 have b0:(0:Int)≤(b:Int):=by omega
 have bi:(b:Int)<256:=by omega
 have ib:(i:Int)≤2000:=by omega
 by_cases hin:i<d.n
 ·obtain⟨B,g,o,cap,u,l,rfl,c0,hn,_,c1,hl,hll,hto⟩:=h.row hd hin;obtain⟨e,he⟩:∃e,l[b]? =some e:=⟨_,List.getElem?_eq_getElem (by omega)⟩;obtain⟨g2,o2,cap2,rfl,hc2,c2⟩:=hl.at_ he;have hte:d.to i b=e:=by rw[hto b,zj he]
  have hlo:=(hd.to_in i b).1;rw[hte] at hlo;obtain⟨n,hnn⟩:∃n,d.n=n:=⟨_,rfl⟩;have hne:((i:Int)==(n:Int))=false:=beq_eq_false_iff_ne.2 (by omega);have hii:(i:Int)<(n:Int):=by omega
  rw[hll] at c1 hc2;have hb2:(b:Int)<((256:Nat):Int):=by omega
  by_cases h0:0≤e
  ·have hne0:¬e<0:=(by omega);have hne1:decide (e<0)=false:=decide_eq_false hne0;have HT:Hid ((toN d i b:Int)=e):=Lib.hid (by rw[Xa hin (by rw[hte];exact h0),hte,Int.toNat_of_nonneg h0]);rw[hnn] at c0 hn hin;clear hl hto hte hll he h hd hnn;go_enter Tryz.func34,Tryz.ntmps34;go_wp2_with fail
   go_ret
   exact⟨by rw[HT.out];rfl,rfl⟩
  ·have hne0:e<0:=(by omega);have hne1:decide (e<0)=true:=decide_eq_true hne0;have HT:Hid ((toN d i b:Int)=(n:Int)):=Lib.hid (by rw[ZD (by rw[hte];omega),hnn]);rw[hnn] at c0 hn hin;clear hl hto hte hll he h hd hnn;go_enter Tryz.func34,Tryz.ntmps34;go_wp2_with fail
   go_ret
   exact⟨by rw[HT.out];rfl,rfl⟩
 ·obtain⟨B,ao,cap,rfl,c0,hn⟩:=h.box;obtain⟨n,hnn⟩:∃n,d.n=n:=⟨_,rfl⟩;have HT:Hid ((toN d i b:Int)=(n:Int)):=Lib.hid (by rw[ZD (by omega),hnn]);rw[hnn] at c0 hn hin hi;have hne:((i:Int)==(n:Int))=true:=by
   have:i=n:=(by omega);rw[this];simp
  clear h hd hnn;go_enter Tryz.func34,Tryz.ntmps34;go_wp2_with fail
  go_ret
  exact⟨by rw[HT.out];rfl,rfl⟩
end
def zH8 (f:Nat→Nat):Nat→Nat
 | 0=>0
 | n+1=>zH8 f n+f n
theorem J5 {f g:Nat→Nat}:∀n,(∀i,i<n→f i≤g i)→zH8 f n≤zH8 g n
 | 0,_=>Nat.le_refl _
 | n+1,h=>Nat.add_le_add (J5 n fun i hi=>h i (by omega)) (h n (by omega))
theorem zBY {f g:Nat→Nat}:∀n,(∀i,i<n→f i≤g i)→(∃i,i<n∧f i<g i)→zH8 f n<zH8 g n
 | 0,_,⟨i,hi,_⟩=>absurd hi (by omega)
 | n+1,h,⟨i,hi,hl⟩=>by
  by_cases c:i=n
  ·subst c;exact Nat.add_lt_add_of_le_of_lt (J5 i fun j hj=>h j (by omega)) hl
  ·exact Nat.add_lt_add_of_lt_of_le (zBY n (fun j hj=>h j (by omega)) ⟨i,by omega,hl⟩) (h n (by omega))
def zI9 (A:Nat→Nat→Bool) (N:Nat):Nat:=zH8 (fun i=>zH8 (fun k=>if A i k=true then 0 else 1) N) N
theorem zIA {A B:Nat→Nat→Bool} {N:Nat} (h:∀i k,i<N→k<N→A i k=true→B i k=true) (hx:∃i k,i<N∧k<N∧A i k=false∧B i k=true):zI9 B N<zI9 A N:=by
 have one:∀i k,i<N→k<N→(if B i k=true then 0 else 1)≤(if A i k=true then 0 else 1):=fun i k hi hk=>by
  by_cases c:A i k=true
  ·rw[if_pos (h i k hi hk c)];exact Nat.zero_le _
  ·rw[if_neg c];split<;>omega
 obtain⟨i,k,hi,hk,h1,h2⟩:=hx;exact zBY N (fun i hi=>J5 N fun k hk=>one i k hi hk) ⟨i,hi,zBY N (fun k hk=>one i k hi hk) ⟨k,hk,by
  show (if B i k=true then 0 else 1)<(if A i k=true then 0 else 1);rw[if_pos h2,if_neg (by rw[h1];decide)];decide⟩⟩
theorem zIB (n:Nat) (hn:n≤1000000) (w:World):(Instr.makeSlice 45 (.int .i64 (n:Int)) (.int .i64 (n:Int))).run Tryz.prog w= .ok (.slice (some ⟨w.heap.size,0,none⟩) n n) (w.alloc (.cells (Array.replicate n (Value.slice none 0 0)) 46)):=by
 have h:=run_make_row' (P:=Tryz.prog) 45 46 (.slice none 0 0) 24 Tryz.underlying45 Tryz.infoBoolsD rfl .i64 .i64 n (by omega) (by omega) w;have e:madeCells #[Value.slice none 0 0] n=Array.replicate n (Value.slice none 0 0):=by
  apply Array.ext';rw[toList_madeCells_one,Array.toList_replicate]
 rw[←e];exact h
structure jN (w0 w:World) (N O:Nat) (us:List Value) (m:Nat) (A:Nat→Nat→Bool):Prop where
 bel:Below w0.heap.size w0 w
 new:w0.heap.size≤O
 ob:w.heap[O]? =some (.cells us.toArray 46 (0,0))
 len:us.length=N
 row:∀i,i<m→∃G M,us[i]? =some (.slice (some ⟨G,0,none⟩) N N)∧yP w G M∧M.length=N∧G≠O∧w0.heap.size≤G∧∀k,k<N→M.getD k false=A i k
 inj:∀i j G,i<m→j<m→us[i]? =some (.slice (some ⟨G,0,none⟩) N N)→us[j]? =some (.slice (some ⟨G,0,none⟩) N N)→i=j
section
variable {w0 w w':World} {N O m:Nat} {us:List Value} {A:Nat→Nat→Bool}
theorem jN.lt (h:jN w0 w N O us m A):O<w.heap.size:=(Array.getElem?_eq_some_iff.1 h.ob).1
theorem jN.under (h:jN w0 w N O us m A) (hb:Below w.heap.size w w'):jN w0 w' N O us m A:=by
 refine⟨h.bel.trans (hb.mono h.bel.size),h.new,(hb.block O h.lt).trans h.ob,h.len,fun i hi=> ?_,h.inj⟩;obtain⟨G,M,h1,h2,h3⟩:=h.row i hi;exact⟨G,M,h1,h2.keep (keep_below (fun _=>True) hb) trivial,h3⟩
theorem jN.start (w0:World) (hb:Below w0.heap.size w0 w) (N:Nat):jN w0 (w.alloc (.cells (Array.replicate N (Value.slice none 0 0)) 46)) N w.heap.size (List.replicate N (Value.slice none 0 0)) 0 (fun _ _=>false):=
 ⟨hb.trans ((zA w _).mono hb.size),hb.size,by rw[List.toArray_replicate];exact heap_alloc_new w _,List.length_replicate,fun i hi=>absurd hi (by omega),fun i j G hi=>absurd hi (by omega)⟩
theorem jN.at_ (h:jN w0 w N O us m A) {i k:Nat} (hi:i<m) (hk:k<N):∃G,w.cell? ⟨O,i,none⟩=some (.slice (some ⟨G,0,none⟩) N N)∧w.cell? ⟨G,k,none⟩=some (.bool (A i k))∧w.frozen? ⟨G,k,none⟩=false∧G<w.heap.size:=by
 obtain⟨G,M,h1,h2,h3,h4,h5,h6⟩:=h.row i hi;refine⟨G,?_,?_,h2.frozen k,h2.lt⟩
 ·rw[cell_of_row w O i _ _ (0,0) h.ob,List.getElem?_toArray];exact h1
 ·rw[h2.at_ (by omega) false,h6 k hk]
theorem jN.set (h:jN w0 w N O us m A) {i k G:Nat} (hi:i<m) (hk:k<N) (hG:w.cell? ⟨O,i,none⟩=some (.slice (some ⟨G,0,none⟩) N N)) (b:Bool):jN w0 (w.setCell ⟨G,k,none⟩ (.bool b)) N O us m (fun i' k'=>if i'=i∧k'=k then b else A i' k'):=by
 rw[cell_of_row w O i _ _ (0,0) h.ob,List.getElem?_toArray] at hG;obtain⟨G2,M,h1,h2,h3,h4,h5,h6⟩:=h.row i hi;rw[hG] at h1;have e:G=G2:=by
  injection h1 with h1
  injection h1 with h1
  injection h1 with h1
  injection h1
 subst e;have hkp:KeepW (fun x=>x≠G) w (w.setCell ⟨G,k,none⟩ (.bool b)):=zE G k none _ w fun h=>h rfl;refine⟨KeepW.below h.bel hkp h.bel.size fun x hx e=>by omega,h.new,(hkp.same O h.lt h4.symm).trans h.ob,h.len,fun i' hi'=> ?_,h.inj⟩;by_cases c:i'=i
 ·subst c;refine⟨G,M.set k b,hG,h2.set k b,by rw[List.length_set];exact h3,h4,h5,fun k' hk'=> ?_⟩;rw[List.getD_eq_getElem?_getD,List.getElem?_set];by_cases c2:k=k'
  ·subst c2;rw[if_pos rfl,if_pos (by omega)];simp
  ·rw[if_neg c2,if_neg (fun e=>c2 e.2.symm),←List.getD_eq_getElem?_getD];exact h6 k' hk'
 ·obtain⟨G',M',g1,g2,g3,g4,g5,g6⟩:=h.row i' hi';have hne:G'≠G:=fun e=>c (h.inj i' i G hi' hi (by rw[←e];exact g1) hG);exact⟨G',M',g1,g2.keep hkp hne,g3,g4,g5,fun k' hk'=>by rw[if_neg (fun e=>c e.1)];exact g6 k' hk'⟩
theorem jN.row1 (h:jN w0 w N O us m A) (hm:m<N) (hA:∀k,A m k=false):
  (w.alloc (.cells (boolC (noneB N)).toArray 4)).frozen? ⟨O,m,none⟩=false∧O<(w.alloc (.cells (boolC (noneB N)).toArray 4)).heap.size∧(∃y,(w.alloc (.cells (boolC (noneB N)).toArray 4)).cell? ⟨O,m,none⟩=some y) ∧
  jN w0 ((w.alloc (.cells (boolC (noneB N)).toArray 4)).setCell ⟨O,m,none⟩ (.slice (some ⟨w.heap.size,0,none⟩) N N)) N O (us.set m (.slice (some ⟨w.heap.size,0,none⟩) N N)) (m+1) A:=by
 have hO:=h.lt;have hba:=zA w (.cells (boolC (noneB N)).toArray 4);have h':=h.under hba;have hM:=blkM_new w N;have hsz:=zC w (.cells (boolC (noneB N)).toArray 4);generalize w.alloc (.cells (boolC (noneB N)).toArray 4)=W at hba h' hM hsz ⊢;have hkp:KeepW (fun x=>x≠O) W (W.setCell ⟨O,m,none⟩ (.slice (some ⟨w.heap.size,0,none⟩) N N)):=zE O m none _ W fun h=>h rfl;have hlen:=h.len;have hb:=h.bel.size;refine⟨frozen_of_row W O m _ _ h'.ob,by omega,?_,KeepW.below h'.bel hkp h'.bel.size fun x hx e=>by have:=h.new;omega,h.new,?_,by rw[List.length_set];exact hlen,fun i hi=> ?_,fun i j G hi hj h1 h2=> ?_⟩
 ·rw[cell_of_row W O m _ _ (0,0) h'.ob,List.getElem?_toArray,List.getElem?_eq_getElem (by omega)];exact⟨_,rfl⟩
 ·rw[heap_setCell_same W O m _ _ _ h'.ob];simp
 ·by_cases c:i=m
  ·subst c;exact⟨w.heap.size,noneB N,by rw[List.getElem?_set,if_pos rfl,if_pos (by omega)],hM.keep hkp (by omega),zi N,by omega,hb,fun k _=>by rw[noneB_get,hA k]⟩
  ·obtain⟨G,M,g1,g2,g3,g4,g5,g6⟩:=h'.row i (by omega);exact⟨G,M,by rw[List.getElem?_set,if_neg (fun e=>c e.symm)];exact g1,g2.keep hkp g4,g3,g4,g5,g6⟩
 ·rw[List.getElem?_set] at h1 h2;have key:∀i',i'<m→us[i']? =some (.slice (some ⟨w.heap.size,0,none⟩) N N)→False:=fun i' hi' h3=>by
   obtain⟨G',M',g1,g2,_⟩:=h.row i' hi';rw[h3] at g1;have e:w.heap.size=G':=by
    injection g1 with g1
    injection g1 with g1
    injection g1 with g1
    injection g1
   have:=g2.lt;omega
  by_cases ci:m=i
  ·by_cases cj:m=j
   ·omega
   ·rw[if_pos ci,if_pos (by omega)] at h1;rw[if_neg cj] at h2;have e:w.heap.size=G:=by
     injection h1 with h1
     injection h1 with h1
     injection h1 with h1
     injection h1
    rw[←e] at h2;exact (key j (by omega) h2).elim
  ·rw[if_neg ci] at h1;by_cases cj:m=j
   ·rw[if_pos cj,if_pos (by omega)] at h2;have e:w.heap.size=G:=by
     injection h2 with h2
     injection h2 with h2
     injection h2 with h2
     injection h2
    rw[←e] at h1;exact (key i (by omega) h1).elim
   ·rw[if_neg cj] at h2;exact h.inj i j G (by omega) (by omega) h1 h2
end
def zIC (w:World) (O N:Nat) (A:Nat→Nat→Bool):Prop:=∀i,i<N→∃G,w.cell? ⟨O,i,none⟩=some (.slice (some ⟨G,0,none⟩) N N)∧∀k,k<N→w.cell? ⟨G,k,none⟩=some (.bool (A i k))
theorem zIC.below {w w':World} {O N:Nat} {A:Nat→Nat→Bool} (h:zIC w O N A) (hb:Below w.heap.size w w'):zIC w' O N A:=fun i hi=>by
 obtain⟨G,h1,h2⟩:=h i hi;have hk:=keep_below (fun _=>True) hb;exact⟨G,hk.cell h1 trivial,fun k hk2=>hk.cell (h2 k hk2) trivial⟩
theorem jN.read {w0 w:World} {N O:Nat} {us:List Value} {A:Nat→Nat→Bool} (h:jN w0 w N O us N A):zIC w O N A:=fun i hi=>by
 obtain⟨G,M,h1,h2,h3,_,_,h6⟩:=h.row i hi;refine⟨G,?_,fun k hk=> ?_⟩
 ·rw[cell_of_row w O i _ _ (0,0) h.ob,List.getElem?_toArray];exact h1
 ·rw[h2.at_ (by omega) false,h6 k hk]
theorem VT {P:Nat→Prop}:∀n,P n→∃m,P m∧∀k,P k→m≤k:=by
 intro n
 induction n using Nat.strongRecOn with
 | ind n ih=>
  intro h;by_cases hx:∃k,k<n∧P k
  ·obtain⟨k,hk,hp⟩:=hx;exact ih k hk hp
  ·exact⟨n,h,fun k hk=>Classical.byContradiction fun hn=>hx ⟨k,by omega,hk⟩⟩
open Classical in
noncomputable def zH9 (P:Nat→Prop):Nat:=if h:∃m,P m∧∀k,P k→m≤k then Classical.choose h else 0
theorem zHA {P:Nat→Prop} {n:Nat} (h:P n):zH9 P≤n:=by
 have hl:=VT n h;unfold zH9;rw[dif_pos hl];exact (Classical.choose_spec hl).2 n h
theorem zHB {P:Nat→Prop} {n:Nat} (h:P n):P (zH9 P):=by
 have hl:=VT n h;unfold zH9;rw[dif_pos hl];exact (Classical.choose_spec hl).1
theorem zID {A B:Nat→Nat→Bool} {N:Nat} (h:∀i k,i<N→k<N→A i k=true→B i k=true):zI9 B N≤zI9 A N:=J5 N fun i hi=>J5 N fun k hk=>by
 by_cases c:A i k=true
 ·rw[if_pos (h i k hi hk c)];exact Nat.zero_le _
 ·rw[if_neg c];split<;>omega
structure SoI (d:Dfa) (N:Nat) (A:Nat→Nat→Bool):Prop where
 sound:∀i k,i<N→k<N→A i k=true→Zj d i k
 rule:∀i k,i<N→k<N→ruN d i≠ruN d k→A i k=true
structure SwI (d:Dfa) (N:Nat) (A0 A:Nat→Nat→Bool) (ag:Bool) (i k:Nat):Prop where
 so:SoI d N A
 mono:∀i k,i<N→k<N→A0 i k=true→A i k=true
 grew:ag=true→∃i k,i<N∧k<N∧A0 i k=false∧A i k=true
 shut:ag=false→∀i' k',i'<N→k'<N→(i'<i∨i'=i∧k'<k)→A i' k'=false→∀b,b<256→A (toN d i' b) (toN d k' b)=false
theorem SwI.set {d:Dfa} {N:Nat} {A0 A:Nat→Nat→Bool} {ag:Bool} {i k:Nat} (h:SwI d N A0 A ag i k) (hd:OkD d) (hi:i<N) (hk:k<N) {b:Nat} (hb:b<256) (hti:toN d i b<N) (htk:toN d k b<N) (h0:A i k=false) (h1:A (toN d i b) (toN d k b)=true) (i' k':Nat):
  SwI d N A0 (fun x y=>if x=i∧y=k then true else A x y) true i' k':=by
 have hnew:∀x y,A x y=true→(if x=i∧y=k then true else A x y)=true:=fun x y e=>by split<;>simp[e]
 have hap:Zj d i k:=Zk hd hb (h.so.sound _ _ hti htk h1);refine⟨⟨fun x y hx hy e=> ?_,fun x y hx hy e=>hnew x y (h.so.rule x y hx hy e)⟩,fun x y hx hy e=>hnew x y (h.mono x y hx hy e),fun _=>⟨i,k,hi,hk,?_,if_pos ⟨rfl,rfl⟩⟩,fun e=>by cases e⟩
 ·split at e
  ·rename_i c;rw[c.1,c.2];exact hap
  ·exact h.so.sound x y hx hy e
 ·rcases e:A0 i k with _ | _
  ·rfl
  ·rw[h.mono i k hi hk e] at h0;cases h0
def agN:Value→Nat
 | .bool true=>1
 | _=>0
def zIE (d:Dfa) (w':World) (e:Ending):Prop:=∃O A,e= .returned (.slice (some ⟨O,0,none⟩) (d.n+1) (d.n+1))∧zCU d A∧zIC w' O (d.n+1) A
def ApP (d:Dfa) (w:World) (N O:Nat) (wr:World) (n:Nat):Prop:=∃us A,jN w wr N O us N A∧SoI d N A∧zI9 A N=n
set_option maxRecDepth 4000 in
theorem KP {w:World} {v:Value} {d:Dfa} (h:QT w v d) (hd:OkD d):
  Calls Tryz.prog 33 #[v] w fun e w'=>zIE d w' e∧Below w.heap.size w w':=by
 have HV:=qh (fun (W:World) (hb:Below w.heap.size w W)=>h.below hb);have HD:=qh hd;have hfew:=h.few;obtain⟨B,ao,cap,rfl,c0,hn0⟩:=h.box;obtain⟨n,hn⟩:∃n,d.n=n:=⟨_,rfl⟩;have HN:=qh hn;rw[hn] at c0 hn0 hfew;obtain⟨N,hN⟩:∃N,n+1=N:=⟨_,rfl⟩;have HNN:=qh hN;have n0:(0:Int)≤(n:Int):=by omega
 have nb:(n:Int)≤2000:=by omega
 have hmk1:=zIB N (by omega) w;have hc:((N:Nat):Int)=(n:Int)+1:=by omega
 rw[hc] at hmk1;have hmk2:Hid (∀W:World,(Instr.makeSlice 46 (.int .i64 ((n:Int)+1)) (.int .i64 ((n:Int)+1))).run Tryz.prog W= .ok (.slice (some ⟨W.heap.size,0,none⟩) N N) (W.alloc (.cells (boolC (noneB N)).toArray 4))):=qh fun W=>by
  have:=yr N (by omega) W
  rwa [hc] at this
 have hst:=jN.start w (Below.refl _ w) N;obtain⟨W1,hW1⟩:∃W,w.alloc (.cells (Array.replicate N (Value.slice none 0 0)) 46)=W:=⟨_,rfl⟩;rw[hW1] at hst;have H0:Hid (∃us A,jN w W1 N w.heap.size us 0 A∧(∀i k,i<0→k<N→A i k=decide (ruN d i≠ruN d k))∧∀i k,0≤i→A i k=false):=qh ⟨_,_,hst,fun i k hi=>by omega,fun _ _ _=>rfl⟩;clear h hd hn hst hc hN;go_enter Tryz.func33,Tryz.ntmps33;go_wp2_with fail
 (try rw[hW1]);clear hW1 hmk1 c0;obtain⟨O,hO⟩:∃O,w.heap.size=O:=⟨_,rfl⟩;rw[hO] at H0;(try rw[hO]);clear hO;go_loopw [5] (fun s5 wr=>∃i:Nat,s5= .int .i64 (i:Int)∧i≤N∧Hid (∃us A,jN w wr N O us i A∧(∀i' k,i'<i→k<N→A i' k=decide (ruN d i'≠ruN d k))∧∀i' k,i≤i'→A i' k=false)) (fun s5 _=>N-(intOf s5).toNat)
 case atStart=>exact⟨0,rfl,Nat.zero_le _,H0⟩
 case round=>
  obtain⟨i,rfl,hi,HX⟩:=hrel;clear H0;obtain⟨us,A,hP,hlo,hhi⟩:=HX.out;clear HX;have i0:(0:Int)≤(i:Int):=by omega
  have ib:(i:Int)≤2001:=by have:=HNN.out;omega
  by_cases hlt:i<N
  ·have hli:(i:Int)≤(n:Int):=(by have:=HNN.out;omega);have hiN:(i:Int)<(N:Int):=(by omega);obtain⟨r1,r2,⟨y,r3⟩,hP2⟩:=hP.row1 hlt (fun k=>hhi i k (Nat.le_refl _));have hmk:=hmk2.out wr;obtain⟨W2,hW2⟩:∃W,wr.alloc (.cells (boolC (noneB N)).toArray 4)=W:=⟨_,rfl⟩;rw[hW2] at r1 r2 r3 hP2;have H2:Hid (∃us A,jN w (W2.setCell ⟨O,i,none⟩ (.slice (some ⟨wr.heap.size,0,none⟩) N N)) N O us (i+1) A∧(∀i' k,i'<i→k<N→A i' k=decide (ruN d i'≠ruN d k))∧(∀k',k'<0→A i k'=decide (ruN d i≠ruN d k'))∧∀i' k,i<i'→A i' k=false):=qh ⟨_,A,hP2,hlo,fun k' hk'=>by omega,fun i' k h1=>hhi i' k (by omega)⟩;clear hP hlo hhi hP2;go_wp2_with fail
   (try rw[hW2]);clear hW2 hmk r1 r2 r3;obtain⟨W3,hW3⟩:∃W,W2.setCell ⟨O,i,none⟩ (.slice (some ⟨wr.heap.size,0,none⟩) N N)=W:=⟨_,rfl⟩;rw[hW3] at H2;(try rw[hW3]);clear hW3;go_loopw [6] (fun s6 wr=>∃k:Nat,s6= .int .i64 (k:Int)∧k≤N∧Hid (∃us A,jN w wr N O us (i+1) A∧(∀i' k,i'<i→k<N→A i' k=decide (ruN d i'≠ruN d k))∧(∀k',k'<k→A i k'=decide (ruN d i≠ruN d k'))∧∀i' k,i<i'→A i' k=false)) (fun s6 _=>N-(intOf s6).toNat)
   case atStart=>exact⟨0,rfl,Nat.zero_le _,H2⟩
   case round=>
    obtain⟨k,rfl,hk,HX⟩:=hrel;clear H2;obtain⟨us,A,hP,hlo,hme,hhi⟩:=HX.out;clear HX;have k0:(0:Int)≤(k:Int):=(by omega);have kb:(k:Int)≤2001:=(by have:=HNN.out;omega);by_cases hkl:k<N
    ·have hkn:(k:Int)≤(n:Int):=(by have:=HNN.out;omega);have hkN:(k:Int)<(N:Int):=(by omega);obtain⟨G,g0,g1,g2,g3⟩:=hP.at_ (i:=i) (k:=k) (by omega) hkl;by_cases hin:i<n
     ·by_cases hkk:k<n
      ·have hii:(i:Int)<(n:Int):=(by omega);have hki:(k:Int)<(n:Int):=(by omega);have hra:ruN d i=(d.acc (i:Int)):=(by unfold ruN;rw[if_pos (by rw[HN.out];omega)]);have hrb:ruN d k=(d.acc (k:Int)):=(by unfold ruN;rw[if_pos (by rw[HN.out];omega)]);obtain⟨B1,rg,ro,rc,hve,q0,hrc,q1⟩:=(HV.out wr hP.bel).rules (i:=i) (by rw[HN.out];omega);cases hve;rw[HN.out] at q0 hrc;obtain⟨B2,rg2,ro2,rc2,hve2,q2,hrc2,q3⟩:=(HV.out wr hP.bel).rules (i:=k) (by rw[HN.out];omega);cases hve2;rw[HN.out] at q2 hrc2;rw[q0] at q2;cases q2;have hset:=hP.set (i:=i) (k:=k) (by omega) (by omega) g0 ((d.acc (i:Int)) != (d.acc (k:Int)));have HK:Hid (∃us A,jN w (wr.setCell ⟨G,k,none⟩ (.bool ((d.acc (i:Int)) != (d.acc (k:Int))))) N O us (i+1) A∧(∀i' k,i'<i→k<N→A i' k=decide (ruN d i'≠ruN d k))∧(∀k',k'<k+1→A i k'=decide (ruN d i≠ruN d k'))∧∀i' k,i<i'→A i' k=false):=qh ⟨us,_,hset,fun i' k2 h1 h2=>by
        rw[if_neg (by omega)];exact hlo i' k2 h1 h2,fun k' h1=>by
        by_cases ck:k'=k
        ·rw[if_pos ⟨rfl,ck⟩,ck,hra,hrb];by_cases ce:(d.acc (i:Int))=(d.acc (k:Int))
         ·rw[decide_eq_false (fun e=>e ce),ce];simp
         ·rw[decide_eq_true ce];exact bne_iff_ne.2 ce
        ·rw[if_neg (fun e=>ck e.2)];exact hme k' (by omega),fun i' k2 h1=>by
        rw[if_neg (by omega)];exact hhi i' k2 h1⟩
       clear hset hra hrb hlo hme hhi hP;go_wp2_with fail
       go_roundw
       case rel=>exact⟨k+1,by go_num,by omega,HK⟩
       case measure=>simp[intOf]<;>omega
      ·have hii:(i:Int)<(n:Int):=(by omega);have hki:¬(k:Int)<(n:Int):=(by omega);have hra:ruN d i=(d.acc (i:Int)):=(by unfold ruN;rw[if_pos (by rw[HN.out];omega)]);have hrb:ruN d k=(-1):=(by unfold ruN;rw[if_neg (by rw[HN.out];omega)]);obtain⟨B1,rg,ro,rc,hve,q0,hrc,q1⟩:=(HV.out wr hP.bel).rules (i:=i) (by rw[HN.out];omega);cases hve;rw[HN.out] at q0 hrc;have hset:=hP.set (i:=i) (k:=k) (by omega) (by omega) g0 ((d.acc (i:Int)) != (-1));have HK:Hid (∃us A,jN w (wr.setCell ⟨G,k,none⟩ (.bool ((d.acc (i:Int)) != (-1)))) N O us (i+1) A∧(∀i' k,i'<i→k<N→A i' k=decide (ruN d i'≠ruN d k))∧(∀k',k'<k+1→A i k'=decide (ruN d i≠ruN d k'))∧∀i' k,i<i'→A i' k=false):=qh ⟨us,_,hset,fun i' k2 h1 h2=>by
        rw[if_neg (by omega)];exact hlo i' k2 h1 h2,fun k' h1=>by
        by_cases ck:k'=k
        ·rw[if_pos ⟨rfl,ck⟩,ck,hra,hrb];by_cases ce:(d.acc (i:Int))=(-1)
         ·rw[decide_eq_false (fun e=>e ce),ce];simp
         ·rw[decide_eq_true ce];exact bne_iff_ne.2 ce
        ·rw[if_neg (fun e=>ck e.2)];exact hme k' (by omega),fun i' k2 h1=>by
        rw[if_neg (by omega)];exact hhi i' k2 h1⟩
       clear hset hra hrb hlo hme hhi hP;go_wp2_with fail
       go_roundw
       case rel=>exact⟨k+1,by go_num,by omega,HK⟩
       case measure=>simp[intOf]<;>omega
     ·by_cases hkk:k<n
      ·have hii:¬(i:Int)<(n:Int):=(by omega);have hki:(k:Int)<(n:Int):=(by omega);have hra:ruN d i=(-1):=(by unfold ruN;rw[if_neg (by rw[HN.out];omega)]);have hrb:ruN d k=(d.acc (k:Int)):=(by unfold ruN;rw[if_pos (by rw[HN.out];omega)]);obtain⟨B2,rg2,ro2,rc2,hve2,q2,hrc2,q3⟩:=(HV.out wr hP.bel).rules (i:=k) (by rw[HN.out];omega);cases hve2;rw[HN.out] at q2 hrc2;have hset:=hP.set (i:=i) (k:=k) (by omega) (by omega) g0 ((-1) != (d.acc (k:Int)));have HK:Hid (∃us A,jN w (wr.setCell ⟨G,k,none⟩ (.bool ((-1) != (d.acc (k:Int))))) N O us (i+1) A∧(∀i' k,i'<i→k<N→A i' k=decide (ruN d i'≠ruN d k))∧(∀k',k'<k+1→A i k'=decide (ruN d i≠ruN d k'))∧∀i' k,i<i'→A i' k=false):=qh ⟨us,_,hset,fun i' k2 h1 h2=>by
        rw[if_neg (by omega)];exact hlo i' k2 h1 h2,fun k' h1=>by
        by_cases ck:k'=k
        ·rw[if_pos ⟨rfl,ck⟩,ck,hra,hrb];by_cases ce:(-1)=(d.acc (k:Int))
         ·rw[decide_eq_false (fun e=>e ce),ce];simp
         ·rw[decide_eq_true ce];exact bne_iff_ne.2 ce
        ·rw[if_neg (fun e=>ck e.2)];exact hme k' (by omega),fun i' k2 h1=>by
        rw[if_neg (by omega)];exact hhi i' k2 h1⟩
       clear hset hra hrb hlo hme hhi hP;go_wp2_with fail
       go_roundw
       case rel=>exact⟨k+1,by go_num,by omega,HK⟩
       case measure=>simp[intOf]<;>omega
      ·have hii:¬(i:Int)<(n:Int):=(by omega);have hki:¬(k:Int)<(n:Int):=(by omega);have hra:ruN d i=(-1):=(by unfold ruN;rw[if_neg (by rw[HN.out];omega)]);have hrb:ruN d k=(-1):=(by unfold ruN;rw[if_neg (by rw[HN.out];omega)]);have hset:=hP.set (i:=i) (k:=k) (by omega) (by omega) g0 ((-1) != (-1));have HK:Hid (∃us A,jN w (wr.setCell ⟨G,k,none⟩ (.bool ((-1) != (-1)))) N O us (i+1) A∧(∀i' k,i'<i→k<N→A i' k=decide (ruN d i'≠ruN d k))∧(∀k',k'<k+1→A i k'=decide (ruN d i≠ruN d k'))∧∀i' k,i<i'→A i' k=false):=qh ⟨us,_,hset,fun i' k2 h1 h2=>by
        rw[if_neg (by omega)];exact hlo i' k2 h1 h2,fun k' h1=>by
        by_cases ck:k'=k
        ·rw[if_pos ⟨rfl,ck⟩,ck,hra,hrb];by_cases ce:(-1)=(-1)
         ·rw[decide_eq_false (fun e=>e ce),ce];simp
         ·rw[decide_eq_true ce];exact bne_iff_ne.2 ce
        ·rw[if_neg (fun e=>ck e.2)];exact hme k' (by omega),fun i' k2 h1=>by
        rw[if_neg (by omega)];exact hhi i' k2 h1⟩
       clear hset hra hrb hlo hme hhi hP;go_wp2_with fail
       go_roundw
       case rel=>exact⟨k+1,by go_num,by omega,HK⟩
       case measure=>simp[intOf]<;>omega
    ·have hkn:¬(k:Int)≤(n:Int):=(by have:=HNN.out;omega);have HK:Hid (∃us A,jN w wr N O us (i+1) A∧(∀i' k,i'<i+1→k<N→A i' k=decide (ruN d i'≠ruN d k))∧∀i' k,i+1≤i'→A i' k=false):=qh ⟨us,A,hP,fun i' k2 h1 h2=>by
      by_cases ci:i'=i
      ·rw[ci];exact hme k2 (by omega)
      ·exact hlo i' k2 (by omega) h2,fun i' k2 h1=>hhi i' k2 (by omega)⟩
     clear hP hlo hme hhi;go_wp2_with fail
     go_roundw
     case rel=>exact⟨i+1,by go_num,hlt,HK⟩
     case measure=>simp[intOf]<;>omega
  ·have hli:¬(i:Int)≤(n:Int):=(by have:=HNN.out;omega);have hiN:i=N:=(by omega);subst hiN;have H3:Hid (∃us A,jN w wr i O us i A∧SoI d i A∧(true=false→∀x y b,x<i→y<i→b<256→A x y=false→A (toN d x b) (toN d y b)=false)):=qh ⟨us,A,hP,⟨fun x y hx hy e=>by
    rw[hlo x y hx hy] at e;exact⟨[],fun b hb=>(by cases hb),by rw[jQ,jQ];exact of_decide_eq_true e⟩,fun x y hx hy e=>by rw[hlo x y hx hy];exact decide_eq_true e⟩,fun e=>by cases e⟩
   clear hP hlo hhi;go_wp2_with fail
   go_loopw [9] (fun s9 wr=>∃ag:Bool,s9= .bool ag∧Hid (∃us A,jN w wr i O us i A∧SoI d i A∧(ag=false→∀x y b,x<i→y<i→b<256→A x y=false→A (toN d x b) (toN d y b)=false))) (fun s9 wr=>2*zH9 (ApP d w i O wr)+agN s9)
   case atStart=>exact⟨true,rfl,H3⟩
   case round=>
    obtain⟨ag,rfl,HX⟩:=hrel;clear H3;cases ag with
    | false=>
     obtain⟨us,A,hP,hS,hC⟩:=HX.out;clear HX;have HF:Hid (zIE d wr (.returned (.slice (some ⟨O,0,none⟩) i i))∧Below w.heap.size w wr):=qh ⟨⟨O,A,by rw[HN.out,HNN.out],⟨fun x y hx hy=>hS.sound x y (by have:=HNN.out;have:=HN.out;omega) (by have:=HNN.out;have:=HN.out;omega),fun x y hx hy=>hS.rule x y (by have:=HNN.out;have:=HN.out;omega) (by have:=HNN.out;have:=HN.out;omega),fun x y b hx hy hb=>hC rfl x y b (by have:=HNN.out;have:=HN.out;omega) (by have:=HNN.out;have:=HN.out;omega) hb⟩,by rw[HN.out,HNN.out];exact hP.read⟩,hP.bel⟩;clear hP hS hC;go_wp2_with fail
     go_ret
     exact HF.out
    | true=>
     obtain⟨us0,A00,hP0,hS0,_⟩:=HX.out;obtain⟨us1,A0,hP1,hS1,hcnt⟩:=zHB (P:=ApP d w i O wr) ⟨us0,A00,hP0,hS0,rfl⟩;have HCN:=qh hcnt;have H4:Hid (∃us A,jN w wr i O us i A∧SwI d i A0 A false 0 0):=qh ⟨us1,A0,hP1,⟨hS1,fun _ _ _ _ e=>e,(fun e=>by cases e),fun _ x y _ _ e=>by omega⟩⟩;clear hP0 hS0 hP1 hS1 hcnt HX;obtain⟨wo,hwo⟩:∃wo:World,wr=wo:=⟨_,rfl⟩;rw[hwo] at H4 HCN;(try rw[hwo]);clear hwo;go_wp2_with fail
     go_loopw [9,10] (fun s9 s10 wr=>∃(ag:Bool) (x:Nat),s9= .bool ag∧s10= .int .i64 (x:Int)∧x≤i∧Hid (∃us A,jN w wr i O us i A∧SwI d i A0 A ag x 0)) (fun _ s10 _=>i-(intOf s10).toNat)
     case atStart=>exact⟨false,0,rfl,rfl,Nat.zero_le _,H4⟩
     case round=>
      obtain⟨ag,x,rfl,rfl,hx,HX⟩:=hrel;clear H4;have x0:(0:Int)≤(x:Int):=(by omega);have xb:(x:Int)≤2001:=(by omega);by_cases hlx:x<i
      ·have hxi:(x:Int)≤(n:Int):=(by have:=HNN.out;omega);have hxN:(x:Int)<(i:Int):=(by omega);go_wp2_with fail
       go_loopw [9,11] (fun s9 s11 wr=>∃(ag:Bool) (y:Nat),s9= .bool ag∧s11= .int .i64 (y:Int)∧y≤i∧Hid (∃us A,jN w wr i O us i A∧SwI d i A0 A ag x y)) (fun _ s11 _=>i-(intOf s11).toNat)
       case atStart=>exact⟨ag,0,rfl,rfl,Nat.zero_le _,HX⟩
       case round=>
        clear HX;obtain⟨ag,y,rfl,rfl,hy,HX⟩:=hrel;have y0:(0:Int)≤(y:Int):=(by omega);have yb:(y:Int)≤2001:=(by omega);by_cases hly:y<i
        ·have hyi:(y:Int)≤(n:Int):=(by have:=HNN.out;omega);have hyN:(y:Int)<(i:Int):=(by omega);have H5:Hid (∃us A,jN w wr i O us i A∧SwI d i A0 A ag x y∧(ag=false→A x y=false→∀b,b<0→A (toN d x b) (toN d y b)=false)):=qh (by
          obtain⟨us,A,h1,h2⟩:=HX.out;exact⟨us,A,h1,h2,fun _ _ b hb=>by omega⟩)
         clear HX;go_wp2_with fail
         go_loopw [9,12] (fun s9 s12 wr=>∃(ag:Bool) (b:Nat),s9= .bool ag∧s12= .int .i64 (b:Int)∧b≤256∧Hid (∃us A,jN w wr i O us i A∧SwI d i A0 A ag x y∧(ag=false→A x y=false→∀b',b'<b→A (toN d x b') (toN d y b')=false))) (fun _ s12 _=>256-(intOf s12).toNat)
         case atStart=>exact⟨ag,0,rfl,rfl,Nat.zero_le _,H5⟩
         case round=>
          clear H5;obtain⟨ag,b,rfl,rfl,hb,HX⟩:=hrel;obtain⟨us,A,hP,hS,hC⟩:=HX.out;clear HX;have b0:(0:Int)≤(b:Int):=(by omega);have bb:(b:Int)≤256:=(by omega);obtain⟨G,g0,g1,g2,g3⟩:=hP.at_ (i:=x) (k:=y) hlx hly;obtain⟨a,ha⟩:∃a,A x y=a:=⟨_,rfl⟩;rw[ha] at g1;have hcb:b=256∨b<256:=(by omega);rcases hcb with hcb | hcb
          ·have hbi:¬(b:Int)<256:=(by omega);have hbd:decide ((b:Int)<256)=false:=decide_eq_false hbi;have HK:Hid (∃us A,jN w wr i O us i A∧SwI d i A0 A ag x (y+1)):=qh ⟨us,A,hP,hS.so,hS.mono,hS.grew,fun e x' y' h1 h2 h3 h4 b' hb'=>by
            by_cases c:x'=x∧y'=y
            ·rw[c.1,c.2] at h4 ⊢;exact hC e h4 b' (by omega)
            ·exact hS.shut e x' y' h1 h2 (by omega) h4 b' hb'⟩
           clear hP hS hC ha;go_wp2_with fail
           go_roundw
           case rel=>exact⟨ag,y+1,rfl,by go_num,hly,HK⟩
           case measure=>simp[intOf]<;>omega
          ·have hbi:(b:Int)<256:=(by omega);have hbd:decide ((b:Int)<256)=true:=decide_eq_true hbi;cases a with
           | true=>
            have HK:Hid (∃us A,jN w wr i O us i A∧SwI d i A0 A ag x (y+1)):=qh ⟨us,A,hP,hS.so,hS.mono,hS.grew,fun e x' y' h1 h2 h3 h4 b' hb'=>by
             by_cases c:x'=x∧y'=y
             ·rw[c.1,c.2,ha] at h4;cases h4
             ·exact hS.shut e x' y' h1 h2 (by omega) h4 b' hb'⟩
            clear hP hS hC ha;go_wp2_with fail
            go_roundw
            case rel=>exact⟨ag,y+1,rfl,by go_num,hly,HK⟩
            case measure=>simp[intOf]<;>omega
           | false=>
            have htx:toN d x b<i:=(by have:=qZ HD.out x b;have:=HN.out;have:=HNN.out;omega);have hty:toN d y b<i:=(by have:=qZ HD.out y b;have:=HN.out;have:=HNN.out;omega);obtain⟨tx,htxe⟩:∃t,toN d x b=t:=⟨_,rfl⟩;obtain⟨ty,htye⟩:∃t,toN d y b=t:=⟨_,rfl⟩;rw[htxe] at htx;rw[htye] at hty;obtain⟨G2,p0,p1,_,_⟩:=hP.at_ htx hty;obtain⟨z,hz⟩:∃z,A tx ty=z:=⟨_,rfl⟩;rw[hz] at p1;have HTX0:∀W,Below w.heap.size w W→Calls Tryz.prog 34 #[.pointer (some ⟨B,0,none⟩),.int .i64 (x:Int),.int .i64 (b:Int)] W fun e w'=>e= .returned (.int .i64 (tx:Int))∧w'=W:=fun W hW=>by
             rw[←htxe];exact YV (HV.out W hW) HD.out x b (by have:=HN.out;have:=HNN.out;omega) hcb
            have HTY0:∀W,Below w.heap.size w W→Calls Tryz.prog 34 #[.pointer (some ⟨B,0,none⟩),.int .i64 (y:Int),.int .i64 (b:Int)] W fun e w'=>e= .returned (.int .i64 (ty:Int))∧w'=W:=fun W hW=>by
             rw[←htye];exact YV (HV.out W hW) HD.out y b (by have:=HN.out;have:=HNN.out;omega) hcb
            have HTX:=qh HTX0;have HTY:=qh HTY0;have kk:=hP.bel;have kd:=kk.drew;have hPd:=hP.under (Below.refl _ wr).drew;have HW:=qh (And.intro hPd (And.intro hS (And.intro hC (And.intro ha (And.intro hz (And.intro htxe htye))))));have HC:=qh (And.intro p0 p1);have tx0:(0:Int)≤(tx:Int):=(by omega);have ty0:(0:Int)≤(ty:Int):=(by omega);have txi:(tx:Int)<(i:Int):=(by omega);have tyi:(ty:Int)<(i:Int):=(by omega);have HG:=qh (And.intro g0 (And.intro g2 g3));clear hP hPd hS hC ha hz htxe htye HTX0 HTY0;go_wp2_with fail
            go_region_held3 (fun V=>V.cell? ⟨O,tx,none⟩=some (.slice (some ⟨G2,0,none⟩) i i)∧V.cell? ⟨G2,ty,none⟩=some (.bool z))
             (exact HC.out)
             (first
              | (go_at_call 34;go_fit (HTX.out _ ?_);(first | with_reducible exact kk | with_reducible exact kd);rintro e vv ⟨rfl,rfl⟩)
              | (go_at_call 34;go_fit (HTY.out _ ?_);(first | with_reducible exact kk | with_reducible exact kd);rintro e vv ⟨rfl,rfl⟩))
            all_goals
             cases z with
             | false=>
              have HK:Hid (∃us A,jN w wr.drew i O us i A∧SwI d i A0 A ag x y∧(ag=false→A x y=false→∀b',b'<b+1→A (toN d x b') (toN d y b')=false)):=qh ⟨us,A,HW.out.1,HW.out.2.1,fun e e2 b' hb'=>by
               by_cases c:b'=b
               ·rw[c,HW.out.2.2.2.2.2.1,HW.out.2.2.2.2.2.2];exact HW.out.2.2.2.2.1
               ·exact HW.out.2.2.1 e e2 b' (by omega)⟩
              go_wp2_with fail
              go_roundw
              case rel=>exact⟨ag,b+1,rfl,by go_num,by omega,HK⟩
              case measure=>simp[intOf]<;>omega
             | true=>
              have hs2:=HW.out.1.set (i:=x) (k:=y) hlx hly (G:=G) HG.out.1 true;have HK:Hid (∃us A,jN w (wr.drew.setCell ⟨G,y,none⟩ (.bool true)) i O us i A∧SwI d i A0 A true x y∧(true=false→A x y=false→∀b',b'<b+1→A (toN d x b') (toN d y b')=false)):=qh ⟨us,_,hs2,HW.out.2.1.set HD.out hlx hly hcb (by rw[HW.out.2.2.2.2.2.1];exact htx) (by rw[HW.out.2.2.2.2.2.2];exact hty) HW.out.2.2.2.1 (by rw[HW.out.2.2.2.2.2.1,HW.out.2.2.2.2.2.2];exact HW.out.2.2.2.2.1) x y,fun e=>by cases e⟩;clear hs2;go_wp2_with fail
              go_roundw
              case rel=>exact⟨true,b+1,rfl,by go_num,by omega,HK⟩
              case measure=>simp[intOf]<;>omega
        ·have hyi:¬(y:Int)≤(n:Int):=(by have:=HNN.out;omega);have HK:Hid (∃us A,jN w wr i O us i A∧SwI d i A0 A ag (x+1) 0):=qh (by
          obtain⟨us,A,h1,h2⟩:=HX.out;exact⟨us,A,h1,h2.so,h2.mono,h2.grew,fun e x' y' q1 q2 q3 q4 b' hb'=>h2.shut e x' y' q1 q2 (by omega) q4 b' hb'⟩)
         clear HX;go_wp2_with fail
         go_roundw
         case rel=>exact⟨ag,x+1,rfl,by go_num,hlx,HK⟩
         case measure=>simp[intOf]<;>omega
      ·have hxi:¬(x:Int)≤(n:Int):=(by have:=HNN.out;omega);have HK:Hid ((∃us A,jN w wr i O us i A∧SoI d i A∧(ag=false→∀x y b,x<i→y<i→b<256→A x y=false→A (toN d x b) (toN d y b)=false))∧2*zH9 (ApP d w i O wr)+agN (.bool ag)<2*zH9 (ApP d w i O wo)+agN (.bool true)):=qh (by
        obtain⟨us,A,h1,h2⟩:=HX.out;refine⟨⟨us,A,h1,h2.so,fun e x' y' b q1 q2 q3 q4=>h2.shut e x' y' q1 q2 (by omega) q4 b q3⟩,?_⟩;have hm:=zHA (P:=ApP d w i O wr) ⟨us,A,h1,h2.so,rfl⟩;rw[←HCN.out];cases ag with
        | true=>
         have:=zIA h2.mono (h2.grew rfl);show 2*_+1<2*_+1;omega
        | false=>
         have:=zID (N:=i) h2.mono;show 2*_+0<2*_+1;omega)
       clear HX HCN;go_wp2_with fail
       go_roundw
       case rel=>exact⟨ag,rfl,HK.out.1⟩
       case measure=>exact HK.out.2
def zHC (xs:List Nat):List Value:=xs.map fun (k:Nat)=>Value.int .i64 (k:Int)
theorem ko (xs:List Nat):(zHC xs).length=xs.length:=List.length_map _
theorem zHD {xs:List Nat} {i x:Nat} (h:xs[i]? =some x):(zHC xs)[i]? =some (.int .i64 (x:Int)):=by unfold zHC;rw[List.getElem?_map,h];rfl
structure jP (w0:World) (c:Col) (w:World) (D:Nat) (pv dn dr:Value) (xs:List Nat) (rows:List (List Int)) (rl:List Int):Prop where
 bel:Below w0.heap.size w0 w
 fr:xA c w
 old:∀k,k<w0.heap.size→c k=0
 dcol:c D=6
 box:XR w D dn dr
 pp:RowC c 1 3 w pv (zHC xs)
 dd:∃us:List Value,us.length=rows.length∧RowC c 4 39 w dn us∧∀(i:Nat) l u,rows[i]? =some l→us[i]? =some u→yO c w u (xK l)
 rr:RowC c 5 3 w dr (xK rl)
section
variable {S:Nat→Prop} {w0 w w':World} {c c':Col} {D:Nat} {pv dn dr u:Value} {xs:List Nat} {rows:List (List Int)} {rl row:List Int} {x:Nat}
theorem jP.step (h:jP w0 c w D pv dn dr xs rows rl) (hs:StepC S c c' w w') (hS:∀a,S a→a=2∨a=3):jP w0 c' w' D pv dn dr xs rows rl:=by
 have h0:¬S 0:=fun e=>by have:=hS 0 e;omega
 have hD:=h.box.lt;have p2:=h.pp;obtain⟨vs,d1,d2,d3⟩:=h.dd
 exact⟨hs.under h.bel h.bel.size fun k hk e=>h0 (by rw[h.old k hk] at e;exact e),hs.fresh,fun k hk=>by rw[hs.same k (Nat.lt_of_lt_of_le hk h.bel.size)];exact h.old k hk,
  by rw[hs.same D hD];exact h.dcol,h.box.keep hs.keep (by rw[h.dcol];exact fun e=>by have:=hS 6 e;omega),
  p2.step hs fun e=>by have:=hS 1 e;omega,
  ⟨vs,d1,d2.step hs fun e=>by have:=hS 4 e;omega,fun i l u hl hu=>(d3 i l u hl hu).step hs h0⟩,
  h.rr.step hs fun e=>by have:=hS 5 e;omega⟩
theorem jP.under (h:jP w0 c w D pv dn dr xs rows rl) (hb:Below w.heap.size w w'):jP w0 c w' D pv dn dr xs rows rl:=h.step (S:=fun _=>False) (StepC.below h.fr hb) fun _ e=>e.elim
theorem jP.pale {A:Nat} (h:jP w0 c w D pv dn dr xs rows rl) (hA:A=2∨A=3):jP w0 (pale c A) w D pv dn dr xs rows rl:=by
 have p2:=h.pp;obtain⟨vs,d1,d2,d3⟩:=h.dd;exact⟨h.bel,h.fr.pale,fun k hk=>jF (h.old k hk),zu h.dcol (by omega),h.box,p2.pale (by omega),⟨vs,d1,d2.pale (by omega),fun i l u hl hu=>(d3 i l u hl hu).pale⟩,h.rr.pale (by omega)⟩
theorem jP.get (h:jP w0 c w D pv dn dr xs rows rl) {i:Nat} (hi:xs[i]? =some x):∃g o cap,pv= .slice (some ⟨g,o,none⟩) xs.length cap∧w.cell? ⟨g,o+i,none⟩=some (.int .i64 (x:Int)):=by
 obtain⟨ao,cap,hv,hn,hc⟩:=h.pp.rowZ;obtain⟨g,o,ha,_,hg⟩:=hc i _ (zHD hi);exact⟨g,o,cap,by rw[hv,ha,ko],hg⟩
theorem jP.form (h:jP w0 c w D pv dn dr xs rows rl):∃ao cap,pv= .slice ao xs.length cap∧xs.length≤cap:=by
 obtain⟨ao,cap,hv,hn⟩:=h.pp.form;rw[ko] at hv hn;exact⟨ao,cap,hv,hn⟩
theorem jP.addP (h:jP w0 c w D pv dn dr xs rows rl) (x:Nat) (hl:xs.length≤100000) (ty:TypeId):
  ∃ao cap w' c',(Builtin.append_ #[39,39] ty #[pv,.slice (some ⟨w.heap.size,0,none⟩) 1 1]).run Tryz.prog (w.alloc (.cells #[.int .i64 (x:Int)] 3))= .ok (.slice ao (xs.length+1) cap) w' ∧
   jP w0 c' w' D (.slice ao (xs.length+1) cap) dn dr (xs++ [x]) rows rl∧StepC (fun a=>a=1) c c' w w':=by
 obtain⟨vs,d1,d2,d3⟩:=h.dd;obtain⟨ao,cap,w',c',hr,h2,hs⟩:=h.pp.pushA (u:= .int .i64 (x:Int)) h.fr 39 ty Tryz.underlying39 Tryz.infoIntN rfl (by decide) rfl (by rw[ko];exact hl);rw[ko] at hr h2;have h0:¬(0:Nat)=1:=by decide
 have hrow:zHC xs++ [Value.int .i64 (x:Int)]=zHC (xs++ [x]):=by unfold zHC;rw[List.map_append];rfl
 rw[hrow] at h2
 exact⟨ao,cap,w',c',hr,⟨hs.under h.bel h.bel.size fun k hk e=>h0 (by rw[h.old k hk] at e;exact e),hs.fresh,fun k hk=>by rw[hs.same k (Nat.lt_of_lt_of_le hk h.bel.size)];exact h.old k hk,
  by rw[hs.same D h.box.lt];exact h.dcol,h.box.keep hs.keep (by rw[h.dcol];decide),h2,
  ⟨vs,d1,d2.step hs (by decide),fun i l u hl hu=>(d3 i l u hl hu).step hs h0⟩,h.rr.step hs (by decide)⟩,hs⟩
theorem jP.first (h:jP w0 c w D (.slice none 0 0) dn dr [] rows rl):jP w0 (colAt c 1 w.heap.size) (w.alloc (.cells #[.int .i64 0] 3)) D (.slice (some ⟨w.heap.size,0,none⟩) 1 1) dn dr [0] rows rl:=by
 have hs:=StepC.colAt (S:=fun _=>False) (A:=1) h.fr (.cells #[.int .i64 0] 3);obtain⟨vs,d1,d2,d3⟩:=h.dd
 exact⟨hs.under h.bel h.bel.size fun _ _ e=>e,hs.fresh,fun k hk=>by rw[hs.same k (Nat.lt_of_lt_of_le hk h.bel.size)];exact h.old k hk,by rw[hs.same D h.box.lt];exact h.dcol,h.box.keep hs.keep (fun e=>e),
  (RowC.one:RowC _ 1 3 _ _ [Value.int .i64 0]),⟨vs,d1,d2.step hs (fun e=>e),fun i l v hl hv=>(d3 i l v hl hv).step hs (fun e=>e)⟩,h.rr.step hs (fun e=>e)⟩
theorem jP.addRow (h:jP w0 c w D pv dn dr xs rows rl) (hx:yO c w u (xK row)) (hu:u.oneCell'=true) (hl:rows.length≤100000) (ty:TypeId):
  ∃ao cap w' c',(Builtin.append_ #[38,38] ty #[dn,.slice (some ⟨w.heap.size,0,none⟩) 1 1]).run Tryz.prog (w.alloc (.cells #[u] 39))= .ok (.slice ao (rows.length+1) cap) w'∧w'.cell? ⟨D,0,none⟩=some dn∧w'.frozen? ⟨D,0,none⟩=false∧D<w'.heap.size ∧
   jP w0 c' (w'.setCell ⟨D,0,none⟩ (.slice ao (rows.length+1) cap)) D pv (.slice ao (rows.length+1) cap) dr xs (rows++ [row]) rl:=by
 have p2:=h.pp;obtain⟨vs,d1,d2,d3⟩:=h.dd;obtain⟨ao,cap,w',c',hr,h2,hs⟩:=d2.pushA (u:=u) h.fr 38 ty Tryz.underlying38 Tryz.infoIntsD rfl (by decide) hu (by omega);rw[d1] at hr h2;have h0:¬(0:Nat)=4:=by decide
 have hbox:=h.box.keep hs.keep (by rw[h.dcol];decide);have hD':c' D=6:=by rw[hs.same D h.box.lt];exact h.dcol
 have hz:(w'.setCell ⟨D,0,none⟩ (.slice ao (rows.length+1) cap)).heap.size=w'.heap.size:=by show (w'.heap.modify _ _).size=_;rw[Array.size_modify]
 have hs2:StepC (fun a=>a=6) c' c' w' (w'.setCell ⟨D,0,none⟩ (.slice ao (rows.length+1) cap)):=⟨zE D 0 none _ w' (by rw[hD'];decide),fun _ _=>rfl,fun k hk=>hs.fresh k (by rw[←hz];exact hk)⟩;have hss:=(hs.mono (S':=fun a=>a=4∨a=6) fun a e=> .inl e).trans (hs2.mono fun a e=> .inr e)
 refine⟨ao,cap,w',c',hr,hbox.cells.1.1,hbox.cells.2.1,hbox.lt,⟨hss.under h.bel h.bel.size fun k hk e=>by rw[h.old k hk] at e;omega,hss.fresh,fun k hk=>by rw[hss.same k (Nat.lt_of_lt_of_le hk h.bel.size)];exact h.old k hk,
  hD',hbox.set0 _,p2.step hss (by decide),⟨vs++ [u],by rw[List.length_append,List.length_append,d1];rfl,h2.step hs2 (by decide),fun i l v hl hv=> ?_⟩,h.rr.step hss (by decide)⟩⟩
 by_cases ci:i<rows.length
 ·rw[List.getElem?_append_left ci] at hl;rw[List.getElem?_append_left (by omega)] at hv;exact (d3 i l v hl hv).step hss (by decide)
 ·have hil:=(List.getElem?_eq_some_iff.1 hl).1;rw[List.length_append] at hil;have hil:i=rows.length:=by simp at hil;omega
  subst hil;rw[List.getElem?_append_right (Nat.le_refl _),Nat.sub_self] at hl;rw[List.getElem?_append_right (by omega),d1,Nat.sub_self] at hv;cases hl;cases hv;exact hx.step hss (by decide)
theorem jP.addRule (h:jP w0 c w D pv dn dr xs rows rl) (a:Int) (hl:rl.length≤100000) (ty:TypeId):
  ∃ao cap w' c',(Builtin.append_ #[39,39] ty #[dr,.slice (some ⟨w.heap.size,0,none⟩) 1 1]).run Tryz.prog (w.alloc (.cells #[.int .i64 a] 3))= .ok (.slice ao (rl.length+1) cap) w'∧w'.cell? ⟨D,1,none⟩=some dr∧w'.frozen? ⟨D,1,none⟩=false∧D<w'.heap.size ∧
   jP w0 c' (w'.setCell ⟨D,1,none⟩ (.slice ao (rl.length+1) cap)) D pv dn (.slice ao (rl.length+1) cap) xs rows (rl++ [a]):=by
 have p2:=h.pp;obtain⟨vs,d1,d2,d3⟩:=h.dd;obtain⟨ao,cap,w',c',hr,h2,hs⟩:=h.rr.pushA (u:= .int .i64 a) h.fr 39 ty Tryz.underlying39 Tryz.infoIntN rfl (by decide) rfl (by rw[zP];exact hl);rw[zP] at hr h2;have h0:¬(0:Nat)=5:=by decide
 have hbox:=h.box.keep hs.keep (by rw[h.dcol];decide);have hD':c' D=6:=by rw[hs.same D h.box.lt];exact h.dcol
 have hz:(w'.setCell ⟨D,1,none⟩ (.slice ao (rl.length+1) cap)).heap.size=w'.heap.size:=by show (w'.heap.modify _ _).size=_;rw[Array.size_modify]
 have hs2:StepC (fun a=>a=6) c' c' w' (w'.setCell ⟨D,1,none⟩ (.slice ao (rl.length+1) cap)):=⟨zE D 1 none _ w' (by rw[hD'];decide),fun _ _=>rfl,fun k hk=>hs.fresh k (by rw[←hz];exact hk)⟩;have hss:=(hs.mono (S':=fun a=>a=5∨a=6) fun a e=> .inl e).trans (hs2.mono fun a e=> .inr e);have hrow:xK rl++ [Value.int .i64 a]=xK (rl++ [a]):=by unfold xK;rw[List.map_append];rfl
 rw[hrow] at h2
 exact⟨ao,cap,w',c',hr,hbox.cells.1.2,hbox.cells.2.2,hbox.lt,⟨hss.under h.bel h.bel.size fun k hk e=>by rw[h.old k hk] at e;omega,hss.fresh,fun k hk=>by rw[hss.same k (Nat.lt_of_lt_of_le hk h.bel.size)];exact h.old k hk,
  hD',hbox.set1 _,p2.step hss (by decide),⟨vs,d1,d2.step hss (by decide),fun i l u hl hu=>(d3 i l u hl hu).step hss (by decide)⟩,h2.step hs2 (by decide)⟩⟩
end
section
variable {w0 w:World} {c:Col} {D:Nat} {pv dn dr rv:Value} {xs:List Nat} {rows:List (List Int)} {rl row:List Int}
theorem jP.addR (h:jP w0 c w D pv dn dr xs rows rl) (hR:RowC c 2 3 w rv (xK row)) (a:Int) {b:Nat} (hb:row.length=b) (hl:b≤1000) (ty:TypeId):
  ∃ao cap w' c',(Builtin.append_ #[39,39] ty #[rv,.slice (some ⟨w.heap.size,0,none⟩) 1 1]).run Tryz.prog (w.alloc (.cells #[.int .i64 a] 3))= .ok (.slice ao (b+1) cap) w' ∧
   jP w0 c' w' D pv dn dr xs rows rl∧RowC c' 2 3 w' (.slice ao (b+1) cap) (xK (row++ [a])):=by
 obtain⟨ao,cap,w',c',hr,h2,hs⟩:=hR.pushA (u:= .int .i64 a) h.fr 39 ty Tryz.underlying39 Tryz.infoIntN rfl (by decide) rfl (by rw[zP];omega);rw[zP,hb] at hr h2;have hrow:xK row++ [Value.int .i64 a]=xK (row++ [a]):=by unfold xK;rw[List.map_append];rfl
 rw[hrow] at h2;exact⟨ao,cap,w',c',hr,h.step hs fun _ e=> .inl e,h2⟩
end
theorem jP.table {w0 w:World} {c:Col} {D:Nat} {pv dn dr:Value} {xs:List Nat} {rows:List (List Int)} {rl:List Int} (h:jP w0 c w D pv dn dr xs rows rl) (hl:rl.length=rows.length) (hn:rows.length≤2000) (h256:∀r,r∈rows→r.length=256):QT w (.pointer (some ⟨D,0,none⟩)) ⟨rows,rl⟩:=by
 obtain⟨vs,d1,d2,d3⟩:=h.dd;obtain⟨ao,cap,hv,hc,hcell⟩:=d2.rowZ;obtain⟨ro,rc,hrv,hrn,hrc⟩:=h.rr.rowZ;refine⟨hn,hl,D,ao,cap,ro,rc,rfl,?_,?_,?_,?_,fun i l hi=> ?_⟩
 ·rw[h.box.cells.1.1,hv,d1];rfl
 ·rw[h.box.cells.1.2,hrv,zP,hl];rfl
 ·show rows.length≤cap;omega
 ·refine⟨⟨ro,rc,?_,?_,fun j u hu=> ?_⟩,?_⟩
  ·show Value.slice ro rows.length rc=Value.slice ro rl.length rc;rw[hl]
  ·rw[zP] at hrn;exact hrn
  ·obtain⟨g,o,h1,_,h3⟩:=hrc j u hu;exact⟨g,o,h1,trivial,h3⟩
  ·show rl.length≤1000000;omega
 ·obtain⟨u,hu⟩:∃u,vs[i]? =some u:=⟨_,List.getElem?_eq_getElem (by rw[d1];exact (List.getElem?_eq_some_iff.1 hi).1)⟩;obtain⟨g,o,h1,_,h3⟩:=hcell i u hu;refine⟨g,o,u,h1,h3,?_,by have:=h256 l (List.mem_of_getElem? hi);omega⟩;have:=(d3 i l u hi hu).read;rw[zP] at this;exact this
theorem zBZ {d:Dfa} {A:Nat→Nat→Bool} (hA:zCU d A) {k:Nat} {xs:List Nat} {rows:List (List Int)} (hg:GoI (toN d) (qz d A) (xT A) (fun i=>i<d.n) (QM d) 0 k xs rows):xs.length≤d.n:=by
 refine pig xs.length d.n (fun i=>xs.getD i 0) (fun i hi=> ?_) fun i j hij hj e=> ?_
 ·show xs.getD i 0<d.n;rw[zj (List.getElem?_eq_getElem hi)];exact hg.good _ (List.getElem_mem hi)
 ·have hi:xs[i]? =some (xs[i]'(by omega)):=List.getElem?_eq_getElem _;have hj2:xs[j]? =some xs[j]:=List.getElem?_eq_getElem hj;have e2:xs[i]'(by omega)=xs[j]:=by
   have h1:xs.getD i 0=xs[i]'(by omega):=zj hi;have h2:xs.getD j 0=xs[j]:=zj hj2;rw[←h1,←h2];exact e
  have:=hg.unlike i j _ _ hij hi hj2;unfold xT at this;rw[e2] at this;have ht:A xs[j] xs[j]=true:=by simpa using this
  have hlt:=hg.good _ (List.getElem_mem hj);obtain⟨w,_,hne⟩:=hA.sound _ _ (Nat.le_of_lt hlt) (Nat.le_of_lt hlt) ht;exact hne rfl
end Go.Proofs.YtjeomlickkpebaaGreatDoor
