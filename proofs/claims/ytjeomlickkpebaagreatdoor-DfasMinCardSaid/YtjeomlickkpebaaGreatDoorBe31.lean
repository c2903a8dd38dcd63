/-
  Texts of this proof, one behind the other; each begins with its own remark.
-/
import Derived.Lib.TrimU
import Derived.Test.YtjeomlickkpebaaGreatDoorBe20
import Derived.Test.YtjeomlickkpebaaGreatDoorBe29
import Derived.Test.YtjeomlickkpebaaGreatDoorBe30
set_option maxHeartbeats 16000000
namespace Go.Proofs.YtjeomlickkpebaaGreatDoor
open Go.Lib
def cat (xs:List ByteArray):List UInt8:=(xs.map fun x=>x.data.toList).flatten
end Go.Proofs.YtjeomlickkpebaaGreatDoor
namespace Go.Proofs.YtjeomlickkpebaaGreatDoor
open Go.RowKit
theorem zG0 {w:World} {p:Addr} {v:Value} (h:w.cell? p=some v):p.block<w.heap.size:=World.block_lt_of_cell? w p h
theorem below_drewN (w:World) (n:Nat):Below w.heap.size w (w.drewN n):=⟨rfl,rfl,rfl,Nat.le_refl _,fun _ _=>rfl⟩
def qJ (w:World) (v:Value) (xs:List ByteArray):Prop:=
 ∃ao cap,v= .slice ao xs.length cap∧xs.length≤cap∧∀(i:Nat) x,xs[i]? =some x→∃g o,ao=some ⟨g,o,none⟩∧w.cell? ⟨g,o+i,none⟩=some (.string x)
theorem qJ.below {w w':World} {v:Value} {xs:List ByteArray} (h:qJ w v xs) (hb:Below w.heap.size w w'):qJ w' v xs:=by
 obtain⟨ao,cap,hv,hc,hs⟩:=h;refine⟨ao,cap,hv,hc,fun i x hx=> ?_⟩;obtain⟨g,o,ha,hg⟩:=hs i x hx;exact⟨g,o,ha,by rw[hb.cell (p:=⟨g,o+i,none⟩) (zG0 hg)];exact hg⟩
theorem qJ.nil (w:World):qJ w (.slice none 0 0) []:=⟨none,0,rfl,Nat.le_refl _,fun i x h=>by simp at h⟩
theorem mayL_mem:∀ {l:List Nd} {m:Nd},qu l=true→m∈l→Z8 m=true
 | n::l,m,h,hm=>by
  rw[qu,Bool.and_eq_true] at h;rcases List.mem_cons.1 hm with rfl | hm
  ·exact h.1
  ·exact mayL_mem h.2 hm
theorem builds_any:∀(N:Nat) (n:Nd),wtR n≤N→Z8 n=true→jd n
 | 0,n,h,_=>absurd (Y9 n) (by omega)
 | N+1,n,h,hm=>by
  have hf:Z7 n.kind n.set n.kids.length=true∧qu n.kids=true:=by
   cases n with
   | mk k s l=>exact qw hm
  obtain⟨f0,f6,f1,f4,f2,_⟩:=qx hf.1;have hk:=qm n;have hB:∀m,m∈n.kids→jd m:=fun m hmem=>builds_any N m (by have:=kw n.kids m hmem;omega) (mayL_mem hf.2 hmem);have hone:4≤n.kind→∃m,n.kids= [m]:=fun h4=>by
   have h1:=f4 h4
   match hl:n.kids with
   | [m]=>exact⟨m,rfl⟩
   | []=>rw[hl] at h1;cases h1
   | _::_::_=>rw[hl] at h1;simp at h1
  intro P w B q first fv next x h1 h2 h3 h4;by_cases k1:n.kind=1
  ·exact JO k1 h1 h2 next x h3 h4
  by_cases k2:n.kind=2
  ·exact Vy k2 hB h1 h2 next x h3 h4
  by_cases k3:n.kind=3
  ·exact KA k3 hB (f2 (.inr k3)) h1 h2 next x h3 h4
  by_cases k4:n.kind=4
  ·obtain⟨m,hl⟩:=hone (by omega);exact YP k4 m hl (hB m (by rw[hl];simp)) h1 h2 next x h3 h4
  by_cases k5:n.kind=5
  ·obtain⟨m,hl⟩:=hone (by omega);exact YQ k5 m hl (hB m (by rw[hl];simp)) h1 h2 next x h3 h4
  by_cases k6:n.kind=6
  ·obtain⟨m,hl⟩:=hone (by omega);exact JP k6 m hl (hB m (by rw[hl];simp)) h1 h2 next x h3 h4
  exact YO ⟨k1,k2,k3,k4,k5,k6⟩ h1 h2 next x h3
def xL:List ByteArray→Int
 | []=>0
 | s::l=>if (zn s).2=0 then xL l else (zn s).2
def zI (l:List ByteArray):List Nd:=l.map fun s=>(zn s).1
def sizeP:List ByteArray→Nat
 | []=>0
 | s::l=>s.size+sizeP l
theorem yo:∀(l m:List ByteArray),sizeP (l++m)=sizeP l+sizeP m
 | [],m=>by simp[sizeP]
 | s::l,m=>by rw[List.cons_append,sizeP,sizeP,yo l m,Nat.add_assoc]
theorem yp:∀(l m:List ByteArray),xL l=0→xL (l++m)=xL m
 | [],m,_=>rfl
 | s::l,m,h=>by
  rw[xL] at h;split at h
  ·rename_i h0;rw[List.cons_append,xL,if_pos h0];exact yp l m h
  ·rename_i h0;exact absurd h h0
theorem errs_all:∀(l:List ByteArray),xL l=0→∀s,s∈l→(zn s).2=0
 | t::l,h,s,hs=>by
  rw[xL] at h;split at h
  ·rename_i h0;rcases List.mem_cons.1 hs with rfl | hs
   ·exact h0
   ·exact errs_all l h s hs
  ·rename_i h0;exact absurd h h0
theorem parse_cases (s:ByteArray):(zn s).2=0∧s.size≤200∧yl (xM s)=some (zn s).1∨((zn s).2=3∨(zn s).2=10)∧(zn s).1=vx:=by
 unfold zn;split
 ·exact .inr ⟨.inl rfl,rfl⟩
 ·rename_i h;rcases hp:yl (xM s) with _ | n
  ·exact .inr ⟨.inr rfl,rfl⟩
  ·exact .inl ⟨rfl,by omega,rfl⟩
theorem yA (s:ByteArray):Z8 (zn s).1=true∧wfR (zn s).1∧wtR (zn s).1≤403∧((zn s).2=0→s.size≤200∧wtR (zn s).1≤2*s.size+3):=by
 rcases parse_cases s with ⟨_,h2,h3⟩ | ⟨h1,h2⟩
 ·obtain⟨a,b,_⟩:=V7 _ _ (fun y hy=>by
   unfold xM at hy;obtain⟨x,_,rfl⟩:=List.mem_map.1 hy;exact UInt8.toNat_lt x) h3
  have hw:=zCQ _ _ h3;rw[xU] at hw;exact⟨a,b,by omega,fun _=>⟨h2,hw⟩⟩
 ·rw[h2];refine⟨rfl,⟨ok_no,trivial⟩,by decide,fun h=> ?_⟩;rcases h1 with h1 | h1<;>rw[h1] at h<;>cases h
theorem nodes_good (l:List ByteArray):vR (zI l):=fun n hn=>by
 obtain⟨s,_,rfl⟩:=List.mem_map.1 hn;exact⟨(yA s).1,(yA s).2.1⟩
theorem Xh:∀(l:List ByteArray),(∀s,s∈l→(zn s).2=0)→wtL (zI l)≤2*sizeP l+3*l.length
 | [],_=>Nat.zero_le _
 | s::l,h=>by
  have h1:=((yA s).2.2.2 (h s (by simp))).2;have h2:=Xh l fun t ht=>h t (by simp[ht]);show wtL ((zn s).1::zI l)≤_;rw[wtL,sizeP,List.length_cons];omega
section
variable {w:World} {v:Value} {L:List ByteArray}
theorem qJ.form {w:World} {v:Value} {xs:List ByteArray} (h:qJ w v xs):∃ao cap,v= .slice ao xs.length cap∧xs.length≤cap:=by
 obtain⟨ao,cap,hv,hn,_⟩:=h;exact⟨ao,cap,hv,hn⟩
theorem qJ.get {w:World} {v:Value} {xs:List ByteArray} {i:Nat} {x:ByteArray} (h:qJ w v xs) (hi:xs[i]? =some x):∃g o cap,v= .slice (some ⟨g,o,none⟩) xs.length cap∧w.cell? ⟨g,o+i,none⟩=some (.string x):=by
 obtain⟨ao,cap,hv,hn,hc⟩:=h;obtain⟨g,o,ha,hg⟩:=hc i x hi;exact⟨g,o,cap,by rw[hv,ha],hg⟩
theorem Qe (h:qJ w v L) (hL:L.length≤1000) (hs:∀s,s∈L→s.size≤1000):
  Calls Tryz.prog 51 #[v] w fun e w'=>e= .returned (.int .i64 (sizeP L:Int))∧w'=w:=by
 obtain⟨vo,vc,rfl,hvc⟩:=h.form;have hb:∀k,sizeP (L.take k)≤1000*k:=fun k=>by
  induction k with
  | zero=>rw[List.take_zero];exact Nat.zero_le _
  | succ k ih=>
   rw[List.take_add_one,yo];rcases hx:L[k]? with _ | s
   ·show _+0≤_;omega
   ·have:=hs s (List.mem_of_getElem? hx);show _+(s.size+0)≤_;omega
 have HB:=Lib.hid hb;have HV:=Lib.hid h;obtain⟨m,hm⟩:∃m,L.length=m:=⟨_,rfl⟩;have HM:=Lib.hid hm;rw[hm] at hvc hL HV ⊢;clear h hm hs hb;go_enter Tryz.func51,Tryz.ntmps51;go_wp2_with fail
 go_loop [3,8] (fun s3 s8=>∃(i z:Nat),s8= .int .i64 (i:Int)∧i≤m∧s3= .int .i64 (z:Int)∧Hid (z=sizeP (L.take i))) (fun _ s8=>m-(intOf s8).toNat)
 case atStart=>exact⟨0,0,rfl,Nat.zero_le _,rfl,Lib.hid (by rw[List.take_zero,sizeP])⟩
 case round=>
  obtain⟨i,z,rfl,hi,rfl,HZ⟩:=hrel;have i0:(0:Int)≤(i:Int):=by omega
  have ib:(i:Int)≤1000:=by omega
  by_cases hlt:i<m
  ·have hli:(i:Int)<(m:Int):=(by omega);have hla:i<L.length:=(by have:=HM.out;omega);obtain⟨s,hs⟩:∃s,L[i]=s:=⟨_,rfl⟩;have hil:L[i]? =some s:=(by rw[List.getElem?_eq_getElem hla,hs]);obtain⟨g,o,c,hve,hc⟩:=HV.out.get hil;injection hve with e1 e2 e3
   subst e1;clear e2 e3;have HZ2:Hid (z+s.size=sizeP (L.take (i+1))):=Lib.hid (by rw[List.take_add_one,hil,yo,HZ.out];show _=_+(s.size+0);omega);have hzb:=HB.out (i+1);rw[←HZ2.out] at hzb;have hz1:(z:Int)+(s.size:Int)≤1000000:=(by omega);have hz0:(0:Int)≤(z:Int):=(by omega);have hs0:(0:Int)≤(s.size:Int):=(by omega);have hzw:IntKind.i64.wrap ((z:Int)+(s.size:Int))=(z:Int)+(s.size:Int):=(by apply IntWalk.i64_in<;>omega);clear hla hs hil hzb;go_wp2_with fail
   go_round
   case rel=>exact⟨i+1,z+s.size,by go_num,hlt,by go_num,HZ2⟩
   case measure=>simp[intOf]<;>omega
  ·have hli:¬(i:Int)<(m:Int):=(by omega);have HF:Hid (z=sizeP L):=Lib.hid (by rw[HZ.out,List.take_of_length_le (by have:=HM.out;omega)]);go_wp2_with fail
   go_ret
   exact⟨by rw[←HF.out];rfl,rfl⟩
end
def zHX:Value:= .agg #[.int .i64 0,.int .u64 0,.int .u64 0,.int .u64 0,.int .u64 0,.slice none 0 0]
theorem Tryz.infoNodeN:(Tryz.prog.info? 116).map (fun i=>(i.zero,i.size,i.bytes))=some (some zHX,6,64):=by kernel_rfl
structure PaW (w0 w:World) (v:Value) (ns:List Nd):Prop where
 out:OutN 116 w0.heap.size w v ns
 b:Below w0.heap.size w0 w
section
variable {w0 w w':World} {v:Value} {ns:List Nd}
theorem PaW.under (h:PaW w0 w v ns) (hb:Below w.heap.size w w'):PaW w0 w' v ns:=⟨h.out.below hb,h.b.trans (hb.mono h.b.size)⟩
theorem PaW.push {X N:Nat} {n:Nd} {u:Value} (h:PaW w0 w v ns) (hb:Below w.heap.size w w') (t ty:TypeId) (ht:Tryz.prog.underlying t=some (.slice 116)) (hX:∀(j:Nat) x,(nodeC n u)[j]? =some x→w'.cell? ⟨X,j,none⟩=some x) (hs:OkR n.set)
  (hu:zW (fun k=>N≤k) w' n.kids u) (hN:N=w.heap.size) (hl:ns.length≤100000):
  ∃v' w3,(Builtin.append_ #[t,t] ty #[v,.slice (some ⟨X,0,none⟩) 1 1]).run Tryz.prog w'= .ok v' w3∧PaW w0 w3 v' (ns++ [n]):=by
 have hlt:=h.out.lt;have hsz:=h.b.size;have hsz2:=hb.size;obtain⟨i0,hi,hz0,hz1,hz2⟩:=xJ Tryz.infoNodeN;have hout:OutP 116 w0.heap.size (fun k=>w0.heap.size≤k) w' v ns:=h.out.below hb;obtain⟨v',w3,hr,hO,hk,_⟩:=ka (P:=fun k=>w0.heap.size≤k) (ok:=fun k=>N≤k) t ty i0 zHX ht hi hz0 rfl hz1 hz2 hout hX hs hu (fun k _ hp=>⟨by omega,fun e=>by have:=(hlt k e).2;omega⟩) (by omega) hl;have h2:=h.under hb;exact⟨v',w3,hr,hO,KeepW.below h2.b hk h2.b.size fun k hk e=>by have:=(hlt k e).1;omega⟩
end
theorem Qf (l m:List ByteArray):zI (l++m)=zI l++zI m:=List.map_append
section
variable {w:World} {v:Value} {L:List ByteArray}
set_option maxRecDepth 4000 in
theorem ZJ (h:qJ w v L) (he:XG w) (hL:L.length≤1000):
  Calls Tryz.prog 50 #[v] w fun e w'=>(∃r,e= .returned (.tuple #[r,.int .i64 (xL L)])∧(xL L=0→zW (fun k=>w.heap.size≤k) w' (zI L) r))∧Below w.heap.size w w':=by
 obtain⟨vo,vc,rfl,hvc⟩:=h.form;have HV:=qh h;have HP:=qh (fun (s:ByteArray) (W:World) (hb:Below w.heap.size w W)=>Vt s W (he.below hb));obtain⟨m,hm⟩:∃m,L.length=m:=⟨_,rfl⟩;have HM:=qh hm;rw[hm] at hvc hL HV ⊢;clear h hm he;have H0:Hid (∃vv,vv=Value.slice none 0 0∧PaW w w vv (zI (L.take 0))∧xL (L.take 0)=0):=qh ⟨_,rfl,⟨OutN.nil _ _ _,Below.refl _ _⟩,by rw[List.take_zero,xL]⟩;go_enter Tryz.func50,Tryz.ntmps50;go_wp2_with fail
 go_loopw [4,11] (fun s4 s11 wr=>∃i:Nat,s11= .int .i64 (i:Int)∧i≤m∧Hid (∃vv,vv=s4∧PaW w wr vv (zI (L.take i))∧xL (L.take i)=0)) (fun _ s11 _=>m-(intOf s11).toNat)
 case atStart=>exact⟨0,rfl,Nat.zero_le _,H0⟩
 case round=>
  obtain⟨i,rfl,hi,HX⟩:=hrel;clear H0;obtain⟨vv,hvv,hX,hE⟩:=HX.out;subst hvv;have HQ:=qh hX;have HE:=qh hE;clear HX hX hE;have i0:(0:Int)≤(i:Int):=by omega
  have ib:(i:Int)≤1000:=by omega
  by_cases hlt:i<m
  ·have hli:(i:Int)<(m:Int):=(by omega);have hla:i<L.length:=(by have:=HM.out;omega);obtain⟨s,hs⟩:∃s,L[i]=s:=⟨_,rfl⟩;have hil:L[i]? =some s:=(by rw[List.getElem?_eq_getElem hla,hs]);obtain⟨g,o,c,hve,hc⟩:=(HV.out.below HQ.out.b).get hil;injection hve with e1 e2 e3
   subst e1;clear e2 e3;have HT:Hid (L.take (i+1)=L.take i++ [s]∧L=L.take i++s::L.drop (i+1)):=qh ⟨by rw[List.take_add_one,hil];rfl,by
    have h1:=List.drop_eq_getElem_cons hla;rw[hs] at h1;rw[←h1,List.take_append_drop]⟩
   have HA:=qh (HP.out s wr HQ.out.b);have hcs:(zn s).2=0∨¬(zn s).2=0:=(by omega);obtain⟨⟨n,er⟩,hp⟩:∃r,zn s=r:=⟨_,rfl⟩;rw[hp] at HA hcs;simp only at HA hcs;have HPP:=qh hp;clear hla hs hil hp;go_wp2_with fail
   go_fit HA.out;rintro e w2 ⟨x,rfl,⟨hso,u,rfl,hu⟩,hb2⟩;obtain⟨uo,uc,rfl,_⟩:=xR.form hu;have hu2:=xR.W hu;have H2:=qh (And.intro hso (And.intro hu2 hb2));have hbox:=boxN.new 116 w2 n.kind n.set (.slice uo n.kids.length uc);have hba:=zA w2 (.cells #[.int .i64 n.kind,.int .u64 (n.set.1:Int),.int .u64 (n.set.2.1:Int),.int .u64 (n.set.2.2.1:Int),.int .u64 (n.set.2.2.2:Int),.slice uo n.kids.length uc] 116);have H3:=qh (And.intro hbox (And.intro hba (HQ.out.b.trans ((hb2.trans (hba.mono hb2.size)).mono HQ.out.b.size))));clear hso hu hu2 hb2 HA hbox hba;unfold zG;rcases hcs with he0 | he0
   ·subst he0;obtain⟨⟨c0,c1,c2,c3,c4,c5⟩,_⟩:=H3.out.1.cells;have hbX:=(H3.out.2.1.trans ((zA (w2.alloc (.cells #[.int .i64 n.kind,.int .u64 (n.set.1:Int),.int .u64 (n.set.2.1:Int),.int .u64 (n.set.2.2.1:Int),.int .u64 (n.set.2.2.2:Int),.slice uo n.kids.length uc] 116)) (.cells #[.int .i64 n.kind,.int .u64 (n.set.1:Int),.int .u64 (n.set.2.1:Int),.int .u64 (n.set.2.2.1:Int),.int .u64 (n.set.2.2.2:Int),.slice uo n.kids.length uc] 116)).mono H3.out.2.1.size));have hlen:(zI (L.take i)).length≤100000:=by unfold zI;rw[List.length_map,List.length_take];omega
    obtain⟨v',w5,hr,hR⟩:=HQ.out.push (X:=(w2.alloc (.cells #[.int .i64 n.kind,.int .u64 (n.set.1:Int),.int .u64 (n.set.2.1:Int),.int .u64 (n.set.2.2.1:Int),.int .u64 (n.set.2.2.2:Int),.slice uo n.kids.length uc] 116)).heap.size) (H2.out.2.2.trans (hbX.mono H2.out.2.2.size)) 111 111 Tryz.underlying111
     (fun j x hx=>by rw[cell_of_row _ _ j _ _ (0,0) (heap_alloc_new _ _),List.getElem?_toArray];exact hx) H2.out.1 (H2.out.2.1.under hbX) rfl hlen
    have HF:Hid (zI (L.take i)++ [n]=zI (L.take (i+1))∧xL (L.take (i+1))=0):=qh ⟨by rw[HT.out.1,Qf];show _=_++ [(zn s).1];rw[HPP.out],by rw[HT.out.1,yp _ _ HE.out,xL,HPP.out,if_pos rfl,xL]⟩;have HR:=qh hR;rw[zC] at hr;clear hbX hlen hR;go_wp2_with (at_builtin;refine napp_list (by rfl) _ _ 111 (by rfl) (by rfl) (by rfl) hr ?_)
    go_roundw
    case rel=>exact⟨i+1,by go_num,hlt,qh ⟨_,rfl,by rw[←HF.out.1];exact HR.out,HF.out.2⟩⟩
    case measure=>simp[intOf]<;>omega
   ·have heb:(er==0)=false:=beq_eq_false_iff_ne.2 he0;have HF:Hid (xL L=er):=qh (by
     rw[HT.out.2,yp _ _ HE.out,xL,HPP.out,if_neg he0])
    have HN:=qh he0;clear he0;go_wp2_with fail
    go_ret2
    exact⟨⟨_,by rw[HF.out];rfl,fun h0=>absurd (HF.out.symm.trans h0) HN.out⟩,H3.out.2.2⟩
  ·have hli:¬(i:Int)<(m:Int):=(by omega);have hall:L.take i=L:=List.take_of_length_le (by have:=HM.out;omega);have HF:=qh (show xL L=0∧zW (fun k=>w.heap.size≤k) wr (zI L) vv∧Below w.heap.size w wr from⟨by rw[←hall];exact HE.out,by
    have h1:=HQ.out.out;rw[hall] at h1;exact h1.kids (by unfold zI;rw[List.length_map];have:=HM.out;omega),HQ.out.b⟩)
   clear hall;go_wp2_with fail
   go_ret2
   exact⟨⟨_,by rw[HF.out.1];rfl,fun _=>HF.out.2.1⟩,HF.out.2.2⟩
end
section
variable {P:Nat→Prop} {w w':World} {B:Nat} {q:List Sta} {first:List Int} {fv:Value}
theorem xw.firstC (h:xw P w B q first fv):(w.cell? ⟨B,1,none⟩=some fv∧w.frozen? ⟨B,1,none⟩=false)∧∃ao cap,fv= .slice ao first.length cap:=by
 obtain⟨sv,h⟩:=h;obtain⟨ao,cap,hv,_⟩:=Zc h.f;exact⟨⟨h.b.cells.1.2,h.b.cells.2.2⟩,ao,cap,hv⟩
theorem xw.pushF {X:Nat} {a:Int} (h:xw P w B q first fv) (hP:∀k,w.heap.size≤k→¬P k) (t ty:TypeId) (ht:Tryz.prog.underlying t=some (.slice 3)) (hX:w.cell? ⟨X,0,none⟩=some (.int .i64 a)) (hs:first.length≤100000):
  ∃v' w',(Builtin.append_ #[t,t] ty #[fv,.slice (some ⟨X,0,none⟩) 1 1]).run Tryz.prog w= .ok v' w'∧w'.cell? ⟨B,1,none⟩=some fv∧w'.frozen? ⟨B,1,none⟩=false∧B<w'.heap.size ∧
   xw P (w'.setCell ⟨B,1,none⟩ v') B q (first++ [a]) v'∧KeepW P w (w'.setCell ⟨B,1,none⟩ v'):=by
 obtain⟨sv,h⟩:=h;obtain⟨v',w',hr,h1,h2,h3⟩:=ZP t ty ht h.f hX (Nat.zero_le _) hs;have hBl:=h.b.lt;have hno:fv.ownBlock≠some B:=fun e=>(h.nf B e).2 rfl;have hb:=h.b.keep h2 hno;have hsr:zA3 w' sv q:=zF h.s h2 fun k e e2=>(h.ns k e).2.2 e2;have hk:KeepW (fun k=>k≠B) w' (w'.setCell ⟨B,1,none⟩ v'):=zE B 1 none _ w' fun h=>h rfl;have hnew:∀k,v'.ownBlock=some k→¬P k∧k≠B:=fun k e=>by
  rcases h3 k e with e | e
  ·exact h.nf k e
  ·rw[e];exact⟨hP _ (Nat.le_refl _),by omega⟩
 refine⟨v',w',hr,hb.cells.1.2,hb.cells.2.2,hb.lt,⟨sv,hb.set1 _,zF hsr hk fun k e=>(h.ns k e).2.1,zF h1 hk fun k e=>(hnew k e).2,h.nb,fun k e=>⟨(h.ns k e).1,(h.ns k e).2.1,fun e2=> ?_⟩,hnew⟩,?_⟩
 ·rcases h3 k e2 with e3 | e3
  ·exact (h.ns k e).2.2 e3
  ·have:=(World.ownsRow.lt h.s k e).2;omega
 ·exact (h2.mono fun k _ hp e=>(h.nf k e).1 hp).trans (hk.mono fun k _ hp e=>h.nb (by rw[←e];exact hp))
end
def xG (L:List ByteArray):Int:=if L.length=0∨64<L.length then 2 else if xL L≠0 then xL L else if 2000<sizeP L then 70 else 0
def quE (L:List ByteArray):List Sta:=(zt (zI L)).1
def fiE (L:List ByteArray):List Int:=(zt (zI L)).2
theorem jE {L:List ByteArray} (h:xG L=0):zCY (quE L) (fiE L) (zI L)∧L.length≤64∧(quE L).length≤100000∧(∀s,s∈L→(zn s).2=0):=by
 unfold xG at h;split at h
 ·cases h
 split at h
 ·rename_i h1 h2;exact absurd h h2
 split at h
 ·cases h
 rename_i h1 h2 h3;have h4:xL L=0:=by omega
 have hall:=errs_all L h4;refine⟨Xd _ (nodes_good L),by omega,?_,hall⟩;have hw:=Xh L hall;have hm:=Q9 (zI L) 0 [] [];have hl:(zI L).length=L.length:=List.length_map _;show (qD (zI L) 0 [] []).1.length≤_;rw[hl] at hm;simp only[List.length_nil] at hm;omega
structure MkW (w0 w:World) (N:Nat) (v:Value) (ns:List Nd) (q:List Sta) (first:List Int) (fv:Value) (i:Nat):Prop where
 e:xw (fun k=>k<N) w N q first fv
 ks:zW (fun k=>k<N) w ns v
 b:Below w0.heap.size w0 w
 at_:w0.heap.size≤N
 on:qD (ns.drop i) i q first=zt ns
 few:q.length+2*wtL (ns.drop i)+(ns.drop i).length≤50000
 fl:first.length=i
section
variable {w0 w w':World} {N i:Nat} {v:Value} {ns:List Nd} {q q':List Sta} {first:List Int} {fv:Value}
structure MkR (w0 wr w:World) (N X:Nat) (v:Value) (ns:List Nd) (n:Nd) (u:Value) (q:List Sta) (first:List Int) (fv:Value):Prop where
 e:xw (fun k=>k<N∨k=X) w N q first fv
 x:boxN 116 w X n.kind n.set u
 kp:KeepW (fun k=>k<N) wr w
 at_:X=wr.heap.size
theorem MkR.newP {wr:World} {X:Nat} {n:Nd} {u:Value} (h:MkR w0 wr w N X v ns n u q first fv):∀k,w.heap.size≤k→¬(k<N∨k=X):=fun k hk hp=>by
 have:=h.x.lt;have:=h.e.lt;omega
theorem MkR.go {wr:World} {X:Nat} {n:Nd} {u fv':Value} {first':List Int} (h:MkR w0 wr w N X v ns n u q first fv) (he:xw (fun k=>k<N∨k=X) w' N q' first' fv') (hk:KeepW (fun k=>k<N∨k=X) w w'):MkR w0 wr w' N X v ns n u q' first' fv':=
 ⟨he,h.x.keep hk (.inr rfl),h.kp.trans (hk.mono fun _ _ hp=> .inl hp),h.at_⟩
theorem MkR.under {wr:World} {X:Nat} {n:Nd} {u:Value} (h:MkR w0 wr w N X v ns n u q first fv) (hb:Below w.heap.size w w'):MkR w0 wr w' N X v ns n u q first fv:=h.go (h.e.under hb) (keep_below _ hb)
theorem MkW.round {n:Nd} {u:Value} (h:MkW w0 w N v ns q first fv i):
  MkR w0 w (w.alloc (.cells #[.int .i64 n.kind,.int .u64 (n.set.1:Int),.int .u64 (n.set.2.1:Int),.int .u64 (n.set.2.2.1:Int),.int .u64 (n.set.2.2.2:Int),u] 116)) N w.heap.size v ns n u q first fv:=
 have hb:=zA w (.cells #[.int .i64 n.kind,.int .u64 (n.set.1:Int),.int .u64 (n.set.2.1:Int),.int .u64 (n.set.2.2.1:Int),.int .u64 (n.set.2.2.2:Int),u] 116)
 ⟨h.e.also hb,boxN.new _ _ _ _ _,keep_below _ hb,rfl⟩
theorem Ve {l:List Nd} {i:Nat} {m:Nd} (h:l[i]? =some m) (q:List Sta) (first:List Int):qD (l.drop i) i q first=qD (l.drop (i+1)) (i+1) (buildT m (q++ [endS i]) q.length).1 (first++ [((buildT m (q++ [endS i]) q.length).2:Int)]):=by
 have hk:=(List.getElem?_eq_some_iff.1 h).1;rw[List.drop_eq_getElem_cons hk,(List.getElem?_eq_some_iff.1 h).2,qD]
theorem MkW.next {wr w:World} {X:Nat} {n:Nd} {u fv':Value} (h:MkW w0 wr N v ns q first fv i) (hi:ns[i]? =some n)
  (hr:MkR w0 wr w N X v ns n u (buildT n (q++ [endS i]) q.length).1 (first++ [((buildT n (q++ [endS i]) q.length).2:Int)]) fv'):MkW w0 w N v ns (buildT n (q++ [endS i]) q.length).1 (first++ [((buildT n (q++ [endS i]) q.length).2:Int)]) fv' (i+1):=by
 have h1:=xZ n (q++ [endS i]) q.length;have h2:=ki hi;have h3:=h.few;have hk:=(List.getElem?_eq_some_iff.1 hi).1;have hlt:=h.e.lt;rw[List.length_append] at h1;simp only[List.length_cons,List.length_nil] at h1;rw[List.length_drop] at h3;refine⟨hr.e.mono fun k hk=> .inl hk,h.ks.keep hr.kp fun k _ hk=>hk,KeepW.below h.b hr.kp h.b.size fun k hk=>Nat.lt_of_lt_of_le hk h.at_,h.at_,by rw[←Ve hi];exact h.on,by rw[List.length_drop];omega,by rw[List.length_append,h.fl];rfl⟩
end
section
variable {w:World} {v:Value} {L:List ByteArray}
set_option maxRecDepth 4000 in
theorem zD4 (h:qJ w v L) (he:XG w) (hE:xG L=0):
  Calls Tryz.prog 31 #[v] w fun e w'=>∃r,e= .returned (.tuple #[r,.int .i64 0])∧kD w' r (quE L) (fiE L)∧Below w.heap.size w w':=by
 obtain⟨vo,vc,rfl,hvc⟩:=h.form;obtain⟨_,hL64,hqf,hall⟩:=jE hE;have hz:L.length≠0:=fun e=>by unfold xG at hE;rw[if_pos (.inl e)] at hE;cases hE
 have hE0:xL L=0:=by
  unfold xG at hE;rw[if_neg (by omega)] at hE;split at hE
  ·rename_i h1;exact absurd hE h1
  ·rename_i h1;omega
 have hS0:sizeP L≤2000:=by
  unfold xG at hE;rw[if_neg (by omega),if_neg (by omega)] at hE;split at hE
  ·cases hE
  ·omega
 have HP:=qh (ZJ h he (by omega));have HS:=qh (fun (W:World) (hb:Below w.heap.size w W)=>Qe (h.below hb) (by omega) (fun s hs=>Nat.le_trans ((yA s).2.2.2 (hall s hs)).1 (by omega)));rw[hE0] at HP;have hszi:(sizeP L:Int)≤2000:=by omega
 have hszi2:¬(sizeP L:Int)>2000:=by omega
 have hnl:(zI L).length=L.length:=List.length_map _;have hwn:=Xh L hall;have HFW:Hid (2*wtL (zI L)+(zI L).length≤50000):=qh (by omega);have HG:=qh (nodes_good L);have HQF:=qh hqf;obtain⟨m,hm⟩:∃m,L.length=m:=⟨_,rfl⟩;have HM:Hid ((zI L).length=m):=qh (by rw[hnl,hm]);rw[hm] at hvc hL64 hz HP HS ⊢;obtain⟨sz,hsz⟩:∃sz,sizeP L=sz:=⟨_,rfl⟩;rw[hsz] at HS hszi hszi2;have hz1:((m:Int)==0)=false:=beq_eq_false_iff_ne.2 (by omega);have hm64:(m:Int)≤64:=by omega
 have hm64':¬(m:Int)>64:=by omega
 clear h he hall hm hsz hnl hwn hE0 hS0 hqf hz;go_enter Tryz.func31,Tryz.ntmps31;go_wp2_with fail
 go_fit HP.out;rintro e w1 ⟨⟨r,rfl,hks⟩,hb1⟩;have H1:=qh (And.intro (hks trivial) hb1);clear hks hb1 HP;obtain⟨ro,rc,rfl,hrc,_⟩:=H1.out.1.form;go_wp2_with fail
 go_fit (HS.out _ H1.out.2);rintro e w2 ⟨rfl,rfl⟩;obtain⟨N,hN⟩:∃N,w2.heap.size=N:=⟨_,rfl⟩;have hba:=zA w2 (.cells #[.slice none 0 0,.slice none 0 0] 68);have H2:Hid (∃(q:List Sta) (first:List Int) (fv:Value),MkW w (w2.alloc (.cells #[.slice none 0 0,.slice none 0 0] 68)) N (.slice ro m rc) (zI L) q first fv 0):=by
  refine qh ⟨[],[],.slice none 0 0,⟨⟨.slice none 0 0,?_,zA3.nil _,Zt.nil _ _,by omega,(fun k e=>by cases e),(fun k e=>by cases e)⟩,?_,H1.out.2.trans (hba.mono H1.out.2.size),by rw[←hN];exact H1.out.2.size,rfl,?_,rfl⟩⟩
  ·rw[←hN];exact heap_alloc_new _ _
  ·rw[←HM.out];exact (H1.out.1.mono (ok':=fun k=>k<N) fun k hk _=>by omega).under hba
  ·rw[List.drop_zero];have:=HFW.out;simp only[List.length_nil];omega
 rw[HM.out] at hrc ⊢;(try rw[HM.out]);clear hba H1 HS HFW;go_wp2_with fail
 obtain⟨W3,hW3⟩:∃W3,w2.alloc (.cells #[.slice none 0 0,.slice none 0 0] 68)=W3:=⟨_,rfl⟩;(try rw[hW3]);rw[hW3] at H2;(try rw[hN]);clear hW3 hN;go_loopw [31] (fun s31 wr=>∃i:Nat,s31= .int .i64 (i:Int)∧i≤m∧Hid (∃(q:List Sta) (first:List Int) (fv:Value),MkW w wr N (.slice ro m rc) (zI L) q first fv i)) (fun s31 _=>m-(intOf s31).toNat)
 case atStart=>exact⟨0,rfl,Nat.zero_le _,H2⟩
 case round=>
  obtain⟨i,rfl,hi,HX⟩:=hrel;clear H2;obtain⟨q,first,fv,hX⟩:=HX.out;have HQ:=qh hX;clear HX hX;have i0:(0:Int)≤(i:Int):=by omega
  have ib:(i:Int)≤64:=by omega
  by_cases hlt:i<m
  ·have hli:(i:Int)<(m:Int):=(by omega);have hla:i<(zI L).length:=(by have:=HM.out;omega);obtain⟨n,hn⟩:∃n,(zI L)[i]=n:=⟨_,rfl⟩;have hil:(zI L)[i]? =some n:=(by rw[List.getElem?_eq_getElem hla,hn]);have HIL:=qh hil;obtain⟨g,o,cap,ku,hue,_,hso,hkk,hcell⟩:=HQ.out.ks.at_ hil;obtain⟨kl,kc,rfl,_⟩:=hkk.form;injection hue with e1 e2 e3
   subst e1;clear e2 e3;have d0:=hcell 0 _ (by decide) rfl;have d1:=hcell 1 _ (by decide) rfl;have d2:=hcell 2 _ (by decide) rfl;have d3:=hcell 3 _ (by decide) rfl;have d4:=hcell 4 _ (by decide) rfl;have d5:=hcell 5 _ (by decide) rfl;simp only[Nat.add_zero,←Nat.add_assoc] at d0 d1 d2 d3 d4 d5;have hqfew:=HQ.out.few;have hwd:=ki hil;have H3:=qh (HQ.out.round (n:=n) (u:= .slice kl n.kids.length kc));have HA:=qh (show Calls Tryz.prog 52 #[.pointer (some ⟨N,0,none⟩),.agg #[.int .i64 2,.int .u64 0,.int .u64 0,.int .u64 0,.int .u64 0,.int .i64 0,.int .i64 0,.int .i64 (i:Int)]] (wr.alloc (.cells #[.int .i64 n.kind,.int .u64 (n.set.1:Int),.int .u64 (n.set.2.1:Int),.int .u64 (n.set.2.2.1:Int),.int .u64 (n.set.2.2.2:Int),.slice kl n.kids.length kc] 116)) fun e w'=>e= .returned (.int .i64 (q.length:Int))∧xw (fun k=>k<N∨k=wr.heap.size) w' N (q++ [endS i]) first fv∧KeepW (fun k=>k<N∨k=wr.heap.size) (wr.alloc (.cells #[.int .i64 n.kind,.int .u64 (n.set.1:Int),.int .u64 (n.set.2.1:Int),.int .u64 (n.set.2.2.1:Int),.int .u64 (n.set.2.2.2:Int),.slice kl n.kids.length kc] 116)) w' from Xp H3.out.e H3.out.newP (endS i) (by omega));have HB:=qh (fun (W:World) (hR:MkR w wr W N wr.heap.size (.slice (some ⟨g,o,none⟩) m rc) (zI L) n (.slice kl n.kids.length kc) (q++ [endS i]) first fv)=>
    builds_any _ n (Nat.le_refl _) ((HG.out n (List.mem_of_getElem? hil)).1) _ W N _ first fv q.length _ hR.e hR.newP (show zV (fun k=>k<N∨k=wr.heap.size) W n (zG n (.slice kl n.kids.length kc)) from⟨hso,_,rfl,(hkk.keep hR.kp fun k _ hp=>hp).mono fun _ _ hp=> .inl hp⟩) (by rw[List.length_append];simp only[List.length_cons,List.length_nil];omega))
   have hX0:=zA wr (.cells #[.int .i64 n.kind,.int .u64 (n.set.1:Int),.int .u64 (n.set.2.1:Int),.int .u64 (n.set.2.2.1:Int),.int .u64 (n.set.2.2.2:Int),.slice kl n.kids.length kc] 116);have HQL:Hid (first.length≤1000):=qh (by rw[HQ.out.fl];omega);unfold zG at HB;obtain⟨⟨q3,a3⟩,hq3⟩:∃r,buildT n (q++ [endS i]) q.length=r:=⟨_,rfl⟩;rw[hq3] at HB;simp only at HB;have HQ3:=qh hq3;obtain⟨fo,fcp,hfv⟩:=HQ.out.e.firstC.2;subst hfv;obtain⟨fl,hfl⟩:∃fl,first.length=fl:=⟨_,rfl⟩;have HFL:=qh hfl;rw[hfl] at HB HA H3 HQ;clear hcell hil hla hn hkk hso hqfew hwd hX0 hq3 hfl;go_wp2_with fail
   go_fit HA.out;rintro e w4 ⟨rfl,he4,hk4⟩;have H4:=qh (H3.out.go he4 hk4);clear he4 hk4 HA H3 d0 d1 d2 d3 d4 d5;obtain⟨X,hX⟩:∃X,wr.heap.size=X:=⟨_,rfl⟩;rw[hX] at H4 HB;(try rw[hX]);have HXE:=qh hX;clear hX;obtain⟨⟨c0,c1,c2,c3,c4,c5⟩,_⟩:=H4.out.x.cells;have hxl:=H4.out.x.lt;obtain⟨⟨f0,f1⟩,_⟩:=H4.out.e.firstC;have hNl:=H4.out.e.lt;have hBB:∀W:World,Below w4.heap.size w4 W→Calls Tryz.prog 53 #[.pointer (some ⟨N,0,none⟩),.agg #[.int .i64 n.kind,.int .u64 (n.set.1:Int),.int .u64 (n.set.2.1:Int),.int .u64 (n.set.2.2.1:Int),.int .u64 (n.set.2.2.2:Int),.slice kl n.kids.length kc],.int .i64 (q.length:Int)] W fun e w'=>e= .returned (.int .i64 (a3:Int))∧MkR w wr w' N X (.slice (some ⟨g,o,none⟩) m rc) (zI L) n (.slice kl n.kids.length kc) q3 first (.slice fo fl fcp)∧KeepW (fun k=>k<N∨k=X) w4 w':=fun W hb=>
    (HB.out W (H4.out.under hb)).mono fun e w' ⟨h1,h2,h3⟩=>⟨h1,(H4.out.under hb).go h2 h3,(keep_below _ hb).trans h3⟩
   have HBB:=qh hBB;have hPS:∀W:World,MkR w wr W N X (.slice (some ⟨g,o,none⟩) m rc) (zI L) n (.slice kl n.kids.length kc) q3 first (.slice fo fl fcp)→∃ao cp w',(Builtin.append_ #[39,39] 39 #[.slice fo fl fcp,.slice (some ⟨W.heap.size,0,none⟩) 1 1]).run Tryz.prog (W.alloc (.cells #[.int .i64 (a3:Int)] 3))= .ok (.slice ao (first.length+1) cp) w'∧w'.cell? ⟨N,1,none⟩=some (.slice fo fl fcp)∧w'.frozen? ⟨N,1,none⟩=false∧N<w'.heap.size∧MkR w wr (w'.setCell ⟨N,1,none⟩ (.slice ao (first.length+1) cp)) N X (.slice (some ⟨g,o,none⟩) m rc) (zI L) n (.slice kl n.kids.length kc) q3 (first++ [(a3:Int)]) (.slice ao (first.length+1) cp):=fun W hR=>by
    have hba:=zA W (.cells #[.int .i64 (a3:Int)] 3);have hR2:=hR.under hba;obtain⟨v',w',h1,h2,h3,h4,h5,h6⟩:=hR2.e.pushF (a:=(a3:Int)) (X:=W.heap.size) hR2.newP 39 39 Tryz.underlying39 (by have:=cell_one_new W (.int .i64 (a3:Int)) 3 0 _ rfl;rw[Zr] at this;exact this) (by have:=HQL.out;omega);obtain⟨ao,cp,hv'⟩:=h5.firstC.2;rw[List.length_append] at hv';have hv':v'= .slice ao (first.length+1) cp:=hv';subst hv';exact⟨ao,cp,w',h1,h2,h3,h4,hR2.go h5 h6⟩
   have HPS:=qh hPS;have hNX:∀(W:World) (fv':Value),MkR w wr W N X (.slice (some ⟨g,o,none⟩) m rc) (zI L) n (.slice kl n.kids.length kc) q3 (first++ [(a3:Int)]) fv'→MkW w W N (.slice (some ⟨g,o,none⟩) m rc) (zI L) q3 (first++ [(a3:Int)]) fv' (i+1):=fun W fv' hR=>by
    have h:=MkW.next (wr:=wr) (w:=W) (X:=X) (n:=n) (u:= .slice kl n.kids.length kc) (fv':=fv') HQ.out HIL.out (by rw[HQ3.out];exact hR);rw[HQ3.out] at h;exact h
   have HNX:=qh hNX;clear hBB hPS hNX;clear HB;go_wp2_with fail
   go_region_law (first
    | (obtain⟨o6,c6,w6,hr6,z1,z2,z3,z4⟩:=HPS.out _ HR5.out;refine xB (by rfl) (.tmp 44) (.tmp 49) 39 (by rfl) (by rfl) (by rfl) hr6 ?_)
    | (obtain⟨o6,c6,w6,hr6,z1,z2,z3,z4⟩:=HPS.out _ (HR5.out.under (Below.refl _ _).drew);refine xB (by rfl) (.tmp 44) (.tmp 49) 39 (by rfl) (by rfl) (by rfl) hr6 ?_)
    | (go_simp;go_at_call 53;go_must (go_fit (HBB.out _ ?_));(exact⟨rfl,rfl,rfl,Nat.le_refl _,fun _ _=>rfl⟩);rintro e w5 ⟨rfl,hR5,hk5⟩;have HR5:=qh hR5;have f2:=hR5.e.firstC.1.1;have f3:=hR5.e.firstC.1.2;have hNl5:=hR5.e.lt;clear hR5 hk5))
   all_goals
    have H7:=qh (HNX.out _ _ z4);clear z1 z2 z3 z4 hr6 HPS HBB HNX c0 c1 c2 c3 c4 c5 f0 f1;go_wp2_with fail
    exact⟨⟨i+1,by go_num,hlt,qh ⟨_,_,_,H7.out⟩⟩,by simp[intOf]<;>omega⟩
  ·have hli:¬(i:Int)<(m:Int):=(by omega);have hdr:(zI L).drop i= []:=List.drop_eq_nil_of_le (by have:=HM.out;omega);have hon:=HQ.out.on;rw[hdr,qD] at hon;have HF:=qh (show kD wr (.pointer (some ⟨N,0,none⟩)) (quE L) (fiE L)∧Below w.heap.size w wr from by
    have h1:=HQF.out;have h2:quE L=q:=(by unfold quE;rw[←hon]);have h3:fiE L=first:=(by unfold fiE;rw[←hon]);rw[h2] at h1 ⊢;rw[h3];exact⟨HQ.out.e.asB.read h1 (by have:=HQ.out.fl;omega),HQ.out.b⟩)
   clear HQ hon hdr;go_wp2_with fail
   go_ret2
   exact⟨_,rfl,HF.out⟩
end
section
variable {w:World} {v:Value} {L:List ByteArray}
theorem Vf (L:List ByteArray):xL L=0∨xL L=3∨xL L=10:=by
 induction L with
 | nil=>exact .inl rfl
 | cons s l ih=>
  rw[xL];split
  ·exact ih
  ·rcases parse_cases s with ⟨h,_⟩ | ⟨h,_⟩
   ·exact .inl h
   ·exact .inr h
set_option maxRecDepth 4000 in
theorem Kl (h:qJ w v L) (he:XG w) (hE:xG L≠0):
  Calls Tryz.prog 31 #[v] w fun e w'=>e= .returned (.tuple #[.pointer none,.int .i64 (xG L)])∧Below w.heap.size w w':=by
 obtain⟨vo,vc,rfl,hvc⟩:=h.form;unfold xG at hE ⊢;by_cases h0:L.length=0
 ·rw[if_pos (.inl h0)];rw[h0] at hvc ⊢;clear h he hE h0;go_enter Tryz.func31,Tryz.ntmps31;go_wp2_with fail
  go_ret2
  exact⟨rfl,Below.refl _ _⟩
 by_cases h64:64<L.length
 ·rw[if_pos (.inr h64)];obtain⟨m,hm⟩:∃m,L.length=m:=⟨_,rfl⟩;rw[hm] at hvc h0 h64 ⊢;have hz1:((m:Int)==0)=false:=beq_eq_false_iff_ne.2 (by omega);have h64i:(m:Int)>64:=by omega
  clear h he hE h0 hm;go_enter Tryz.func31,Tryz.ntmps31;go_wp2_with fail
  go_ret2
  exact⟨rfl,Below.refl _ _⟩
 rw[if_neg (by omega)] at hE ⊢;have HP:=Lib.hid (ZJ h he (by omega));have hpc:=Vf L;have hall:=errs_all L;obtain⟨er,her⟩:∃er,xL L=er:=⟨_,rfl⟩;rw[her] at hE HP hpc hall ⊢;by_cases h1:er=0
 ·subst h1;rw[if_neg (fun h=>h rfl)] at hE ⊢;have hs:2000<sizeP L:=by
   refine Nat.lt_of_not_le fun hle=> ?_;rw[if_neg (by omega)] at hE;exact hE rfl
  rw[if_pos hs];have HS:=Lib.hid (fun (W:World) (hb:Below w.heap.size w W)=>Qe (h.below hb) (by omega) (fun s hs=>Nat.le_trans ((yA s).2.2.2 (hall rfl s hs)).1 (by omega)));obtain⟨m,hm⟩:∃m,L.length=m:=⟨_,rfl⟩;rw[hm] at hvc h0 h64 HP HS ⊢;obtain⟨sz,hsz⟩:∃sz,sizeP L=sz:=⟨_,rfl⟩;rw[hsz] at HS hs;have hsi:(sz:Int)>2000:=by omega
  have hz1:((m:Int)==0)=false:=beq_eq_false_iff_ne.2 (by omega);have hm64':¬(m:Int)>64:=by omega
  clear h he hall hm hsz hE h0 her hpc h64 hs;go_enter Tryz.func31,Tryz.ntmps31;go_wp2_with fail
  go_fit HP.out;rintro e w1 ⟨⟨r,rfl,hks⟩,hb1⟩;have HB1:=Lib.hid hb1;clear hks hb1 HP;go_wp2_with fail
  go_fit (HS.out _ HB1.out);rintro e w2 ⟨rfl,rfl⟩;go_wp2_with fail
  go_ret2
  exact⟨rfl,HB1.out⟩
 ·rw[if_pos h1];have heb:(er==0)=false:=beq_eq_false_iff_ne.2 h1;obtain⟨m,hm⟩:∃m,L.length=m:=⟨_,rfl⟩;rw[hm] at hvc h0 h64 HP ⊢;have hz1:((m:Int)==0)=false:=beq_eq_false_iff_ne.2 (by omega);have hm64':¬(m:Int)>64:=by omega
  clear h he hall hm hE h0 her hpc h64 h1;go_enter Tryz.func31,Tryz.ntmps31;go_wp2_with fail
  go_fit HP.out;rintro e w1 ⟨⟨r,rfl,hks⟩,hb1⟩;have HB1:=Lib.hid hb1;clear hks hb1 HP;go_wp2_with fail
  go_ret2
  exact⟨rfl,HB1.out⟩
theorem Km (h:qJ w v L) (he:XG w):
  Calls Tryz.prog 31 #[v] w fun e w'=>∃p,e= .returned (.tuple #[.pointer p,.int .i64 (xG L)])∧(xG L=0→(p≠none)∧kD w' (.pointer p) (quE L) (fiE L))∧(xG L≠0→p=none)∧Below w.heap.size w w':=by
 by_cases hE:xG L=0
 ·refine (zD4 h he hE).mono ?_;rintro e w' ⟨r,rfl,hr,hb⟩;obtain⟨B,_,_,_,_,rfl,_⟩:=hr.form;exact⟨_,by rw[hE],fun _=>⟨by simp,hr⟩,fun h=>absurd hE h,hb⟩
 ·refine (Kl h he hE).mono ?_;rintro e w' ⟨rfl,hb⟩;exact⟨none,rfl,fun h=>absurd h hE,fun _=>rfl,hb⟩
end
end Go.Proofs.YtjeomlickkpebaaGreatDoor
namespace Go.Proofs.YtjeomlickkpebaaGreatDoor
section
variable {α:Type} {step:α→Nat→α} {dead:α→Bool} {same:α→α→Bool} {first:α}
theorem vU:∀k,k≤(goX step dead same first k).1.length→(goX step dead same first k).2.length=k
 | 0,_=>rfl
 | k+1,h=>by
  rcases hx:(goX step dead same first k).1[k]? with _ | x
  ·have e:goX step dead same first (k+1)=goX step dead same first k:=(by rw[goX,hx]);rw[e] at h ⊢;have:=List.getElem?_eq_none_iff.1 hx;omega
  ·have hk:=(List.getElem?_eq_some_iff.1 hx).1;rw[goX,hx];dsimp only;rw[List.length_append,vU k (by omega)];rfl
theorem Xi {k:Nat} (h:(goX step dead same first k).1.length=k):∀j,goX step dead same first (k+j)=goX step dead same first k
 | 0=>rfl
 | j+1=>by
  have ih:=Xi h j;rw[←Nat.add_assoc,goX,ih,List.getElem?_eq_none (by omega)]
theorem zD5 {k m:Nat} (h:(goX step dead same first k).1.length=k) (g:(goX step dead same first m).1.length=m):k=m:=by
 by_cases c:k≤m
 ·have:=Xi h (m-k);rw[show k+(m-k)=m by omega] at this;rw[this] at g;omega
 ·have:=Xi g (k-m);rw[show m+(k-m)=k by omega] at this;rw[this] at h;omega
theorem Yl {k:Nat} {x:α} (hx:(goX step dead same first k).1[k]? =some x):goX step dead same first (k+1)=((rowX step dead same x (goX step dead same first k).1 256).1,(goX step dead same first k).2++ [(rowX step dead same x (goX step dead same first k).1 256).2]):=by
 rw[goX,hx]
end
section
variable {α:Type} {step:α→Nat→α} {dead:α→Bool} {same:α→α→Bool} {first:α} {G:α→Prop} {sem:α→List Nat→Int}
theorem Kn (H:zF9 step dead same G sem) (hf:G first):∀k,k≤(goX step dead same first k).1.length→(goX step dead same first k).2.length=k→GoI step dead same G sem first k (goX step dead same first k).1 (goX step dead same first k).2
 | 0,_,_=>kU first hf
 | k+1,h,h2=>by
  rcases hx:(goX step dead same first k).1[k]? with _ | x
  ·have e:goX step dead same first (k+1)=goX step dead same first k:=(by rw[goX,hx]);rw[e] at h;have:=List.getElem?_eq_none_iff.1 hx;omega
  ·have hk:=(List.getElem?_eq_some_iff.1 hx).1;have ih:=Kn H hf k (by omega) (vU k (by omega));rw[Yl hx];exact X9 H ih hx
end
theorem list_met {q:List Sta} {start:List Int} {xs:List (List Int)} {rows:List (List Int)} {G:List Int→Prop} {sem:List Int→List Nat→Int} (h:GoI (fun l b=>zy q b l) Z5 xg G sem start xs.length xs rows):
  ∀(n:Nat) (w:List Nat),w.length=n→ByL w→(xO q w start= []∧w≠ [])∨xO q w start∈xs
 | 0,w,hn,_=>by
  have:w= []:=List.eq_nil_of_length_eq_zero hn;subst this;exact .inr (List.mem_of_getElem? h.head)
 | n+1,w,hn,hw=>by
  have hne:w≠ []:=fun e=>by rw[e] at hn;cases hn
  have hl:w=w.dropLast++ [w.getLast hne]:=(List.dropLast_concat_getLast hne).symm;obtain⟨u,hu⟩:∃u,w.dropLast=u:=⟨_,rfl⟩;obtain⟨b,hb⟩:∃b,w.getLast hne=b:=⟨_,rfl⟩;rw[hu,hb] at hl;have hb256:b<256:=hw b (by rw[hl];simp);have hul:u.length=n:=by rw[hl,List.length_append] at hn;simpa using hn
  have hst:xO q w start=zy q b (xO q u start):=by rw[hl];exact jz q u b start
  rcases list_met h n u hul (fun c hc=>hw c (by rw[hl];simp[hc])) with ⟨h1,_⟩ | h1
  ·exact .inl ⟨by rw[hst,h1];rfl,hne⟩
  ·obtain⟨i,hi⟩:=List.mem_iff_getElem?.1 h1;have hil:=(List.getElem?_eq_some_iff.1 hi).1;obtain⟨r,hr⟩:∃r,rows[i]? =some r:=⟨_,List.getElem?_eq_getElem (by rw[h.len];exact hil)⟩;obtain⟨hr1,x2,hx2,hent⟩:=h.row i r hr;rw[hi] at hx2;cases hx2;obtain⟨e,he⟩:∃e,r[b]? =some e:=⟨_,List.getElem?_eq_getElem (by omega)⟩;rcases hent b e he with ⟨_,hd⟩ | ⟨k,y,_,hy,_,hy2,_⟩
   ·exact .inl ⟨by rw[hst];exact List.isEmpty_iff.1 hd,hne⟩
   ·right;rw[hst];rcases hy2 with rfl | hy2
    ·exact List.mem_of_getElem? hy
    ·rw[←of_decide_eq_true hy2];exact List.mem_of_getElem? hy
theorem zD6 {xs ls:List (List Int)} (h:∀l,l∈ls→l∈xs) (hun:∀(i j:Nat) a b,i<j→ls[i]? =some a→ls[j]? =some b→a≠b):ls.length≤xs.length:=by
 have hx:∀i:Nat,∃k,i<ls.length→∃l,ls[i]? =some l∧xs[k]? =some l:=fun i=>by
  by_cases hi:i<ls.length
  ·obtain⟨k,hk⟩:=List.mem_iff_getElem?.1 (h ls[i] (List.getElem_mem hi));exact⟨k,fun _=>⟨_,List.getElem?_eq_getElem hi,hk⟩⟩
  ·exact⟨0,fun x=>absurd x hi⟩
 let F:=fun i=>Classical.choose (hx i);have hF:∀i,i<ls.length→∃l,ls[i]? =some l∧xs[F i]? =some l:=fun i hi=>Classical.choose_spec (hx i) hi;refine pig ls.length xs.length F (fun i hi=> ?_) fun i j hij hj e=> ?_
 ·obtain⟨l,_,h2⟩:=hF i hi;exact (List.getElem?_eq_some_iff.1 h2).1
 ·obtain⟨l,h1,h2⟩:=hF i (by omega);obtain⟨m,h3,h4⟩:=hF j hj;rw[e,h4] at h2;cases h2;exact hun i j _ _ hij h1 h3 rfl
theorem zD7 {F:List Nat→Int} {m:Dfa} (h:IsMin F m) (ws:List (List Nat)) (h0:∀(i:Nat) w,ws[i]? =some w→F w≠ -1∨w= []) (hd:∀(i j:Nat) u v,i<j→ws[i]? =some u→ws[j]? =some v→F u≠F v):ws.length≤m.n:=by
 have hp:=h.ok.pos;have rin:∀w,(F w≠ -1∨w= [])→0≤m.run 0 w∧m.run 0 w<(m.n:Int):=fun w hw=>by
  refine⟨?_,(h.ok.run_in w 0 (by omega) (by omega)).2⟩;rcases hw with hw | rfl
  ·by_cases c:0≤m.run 0 w
   ·exact c
   ·exact absurd (by rw[←h.says w];exact K7 m (by omega)) hw
  ·exact Int.le_refl _
 refine pig ws.length m.n (fun i=>(m.run 0 (ws.getD i [])).toNat) (fun i hi=> ?_) fun i j hij hj e=> ?_
 ·have:=rin _ (h0 i _ (List.getElem?_eq_getElem hi));show (m.run 0 (ws.getD i [])).toNat<m.n;rw[zj (List.getElem?_eq_getElem hi)];omega
 ·have hi:ws[i]? =some (ws[i]'(by omega)):=List.getElem?_eq_getElem _;have hj2:ws[j]? =some ws[j]:=List.getElem?_eq_getElem hj;have e2:(m.run 0 (ws.getD i [])).toNat=(m.run 0 (ws.getD j [])).toNat:=e;rw[zj hi,zj hj2] at e2;have r1:=rin _ (h0 i _ hi);have r2:=rin _ (h0 j _ hj2);refine hd i j _ _ hij hi hj2 ?_;rw[←h.says,←h.says];unfold Dfa.says;congr 1;omega
abbrev goL (L:List ByteArray) (k:Nat):List (List Int)×List (List Int):=goX (fun l b=>zy (quE L) b l) Z5 xg (reachP (quE L) (fiE L)) k
def Z4 (L:List ByteArray) (k:Nat):Dfa:=⟨(goL L k).2,(goL L k).1.map fun l=>accP (quE L) l (-1)⟩
theorem jc (L:List ByteArray) {k:Nat} (h:k≤(goL L k).1.length):GoI (fun l b=>zy (quE L) b l) Z5 xg (kN (quE L) (reachP (quE L) (fiE L))) (zGG (quE L)) (reachP (quE L) (fiE L)) k (goL L k).1 (goL L k).2:=
 Kn (JD _ _) (Vq _ _) k h (vU k h)
theorem zG1 {L:List ByteArray} {k:Nat} (h:(goL L k).1.length=k) {ls:List (List Int)} (hls:∀l,l∈ls→kN (quE L) (reachP (quE L) (fiE L)) l) (hun:∀(i j:Nat) a b,i<j→ls[i]? =some a→ls[j]? =some b→a≠b):ls.length≤k:=by
 have hg:=jc L (k:=k) (by omega);rw[←h];refine zD6 (fun l hl=> ?_) hun;obtain⟨w,hw,rfl,hne⟩:=hls l hl;have hg2:GoI (fun l b=>zy (quE L) b l) Z5 xg (kN (quE L) (reachP (quE L) (fiE L))) (zGG (quE L)) (reachP (quE L) (fiE L)) (goL L k).1.length (goL L k).1 (goL L k).2:=by
  rw[h];exact hg
 rcases list_met hg2 w.length w rfl hw with ⟨h1,h2⟩ | h1
 ·rcases hne with hne | hne
  ·exact absurd hne h2
  ·exact absurd h1 hne
 ·exact h1
theorem tabL_says {L:List ByteArray} {k:Nat} (h:(goL L k).1.length=k):OkD (Z4 L k)∧∀w,(Z4 L k).says 0 w=zIK (zI L) w:=by
 have hg:=jc L (k:=k) (by omega);exact YE (zI L) (nodes_good L) (xs:=(goL L k).1) (rows:=(goL L k).2) (by rw[h];exact hg)
def qr (d:Dfa) (s:ByteArray) (a:Int):Int×Int×Int:=if a<0∨(s.size:Int)<a then (0,-1,0) else j4 d (zB s a.toNat)
def exA:List ByteArray:= [⟨#[97,98]⟩,⟨#[97,99]⟩,⟨#[97]⟩]
def exB:List ByteArray:= [⟨#[91,94,92,120,48,48,45,92,120,102,102,93,97]⟩]
def exC:List ByteArray:= [⟨#[97,98]⟩,⟨#[98,98]⟩,⟨#[98]⟩]
theorem zD8:xG exA=0:=by kernel_rfl
theorem zD9:xG exB=0:=by kernel_rfl
theorem zDA:xG exC=0:=by kernel_rfl
theorem Ko:(goL exA 4).1.length=4:=by kernel_rfl
theorem Kp:(goL exB 1).1.length=1:=by kernel_rfl
theorem zG2:(goL exC 5).1.length=5:=by kernel_rfl
theorem zIS:((Z4 exA 4).says 0 [],(Z4 exA 4).says 0 [97],(Z4 exA 4).says 0 [97,98],(Z4 exA 4).says 0 [97,99])=(-1,2,0,1):=by kernel_rfl
theorem exA_n:(Z4 exA 4).n=4:=by kernel_rfl
theorem exB_n:(Z4 exB 1).n=1:=by kernel_rfl
theorem exA_min {M:Dfa} (h:IsMin ((Z4 exA 4).says 0) M):M.n=4:=by
 have h1:=K9 h (tabL_says Ko).1 fun _=>rfl;rw[exA_n] at h1;have hs:=zIS;simp only[Prod.mk.injEq] at hs;obtain⟨s0,s1,s2,s3⟩:=hs;have h2:=zD7 h [[],[97],[97,98],[97,99]] (fun i w hw=>by
  match i,hw with
  | 0,hw=>cases hw;exact .inr rfl
  | 1,hw=>cases hw;left;rw[s1];decide
  | 2,hw=>cases hw;left;rw[s2];decide
  | 3,hw=>cases hw;left;rw[s3];decide) (fun i j u v hij hu hv=>by
  have key:∀k w,([[],[97],[97,98],[97,99]]:List (List Nat))[k]? =some w→k<4∧(Z4 exA 4).says 0 w= [(-1:Int),2,0,1].getD k 0:=fun k w hw=>by
   match k,hw with
   | 0,hw=>cases hw;exact⟨by decide,s0⟩
   | 1,hw=>cases hw;exact⟨by decide,s1⟩
   | 2,hw=>cases hw;exact⟨by decide,s2⟩
   | 3,hw=>cases hw;exact⟨by decide,s3⟩
  obtain⟨_,e1⟩:=key i u hu;obtain⟨hj,e2⟩:=key j v hv;rw[e1,e2];have:∀j,j<4→∀i,i<j→([(-1:Int),2,0,1].getD i 0)≠([(-1:Int),2,0,1].getD j 0):=by decide
  exact this j hj i hij)
 have h3:4≤M.n:=h2;omega
theorem exB_min {M:Dfa} (h:IsMin ((Z4 exB 1).says 0) M):M.n=1:=by
 have h1:=K9 h (tabL_says Kp).1 fun _=>rfl;rw[exB_n] at h1;have:=h.ok.pos;omega
end Go.Proofs.YtjeomlickkpebaaGreatDoor
namespace Go.Proofs.YtjeomlickkpebaaGreatDoor
open Go.RowKit
section
variable {w:World} {v:Value} {q:List Sta} {first:List Int}
theorem reach_few (q:List Sta) (l:List Int):(reachP q l).length≤q.length:=kY _ _ _
theorem Ym (q:List Sta) (b:Nat) (l:List Int):(zy q b l).length≤q.length:=by
 unfold zy;split
 ·exact Nat.zero_le _
 ·exact reach_few _ _
end
theorem Tryz.infoRuP:(Tryz.prog.info? 49).map (fun i=>(i.zero,i.size,i.bytes))=some (some (.pointer none),1,8):=by kernel_rfl
structure RwW (w0 w:World) (v:Value) (rs:List RuN):Prop where
 r:∃us:List Value,us.length=rs.length∧w.ownsRow 0 49 1 v rs.length us∧∀(i:Nat) (r:RuN) (u:Value),rs[i]? =some r→us[i]? =some u→∃p,u= .pointer p∧RuO (fun k=>v.ownBlock=some k) w u r
 b:Below w0.heap.size w0 w
 f:∀k,v.ownBlock=some k→w0.heap.size≤k
section
variable {w0 w w':World} {v:Value} {rs:List RuN}
theorem RwW.under (h:RwW w0 w v rs) (hb:Below w.heap.size w w'):RwW w0 w' v rs:=by
 obtain⟨us,h1,h2,h3⟩:=h.r;refine⟨⟨us,h1,zF h2 (keep_below (fun _=>True) hb) fun _ _=>trivial,fun i r u hr hu=> ?_⟩,h.b.trans (hb.mono h.b.size),h.f⟩;obtain⟨p,h4,h5⟩:=h3 i r u hr hu;exact⟨p,h4,h5.below hb⟩
theorem RwW.lt (h:RwW w0 w v rs):∀k,v.ownBlock=some k→k<w.heap.size:=by
 obtain⟨us,_,h2,_⟩:=h.r;exact fun k e=>(World.ownsRow.lt h2 k e).2
theorem RwW.read (h:RwW w0 w v rs):Qg w v rs:=by
 obtain⟨us,h1,h2,h3⟩:=h.r;refine⟨us,h1,(Zc h2).mono fun _ _ _=>trivial,fun i r u hr hu=> ?_⟩;obtain⟨p,h4,h5⟩:=h3 i r u hr hu;exact⟨p,h4,h5.read⟩
theorem RwW.push {Y:Nat} {p:Option Addr} {r:RuN} (h:RwW w0 w v rs) (t ty:TypeId) (ht:Tryz.prog.underlying t=some (.slice 49)) (hY:w.cell? ⟨Y,0,none⟩=some (.pointer p)) (hr0:RuO (fun k=>v.ownBlock=some k) w (.pointer p) r) (hl:rs.length≤100000):
  ∃v' w',(Builtin.append_ #[t,t] ty #[v,.slice (some ⟨Y,0,none⟩) 1 1]).run Tryz.prog w= .ok v' w'∧RwW w0 w' v' (rs++ [r]):=by
 obtain⟨i0,hi,hz0,hz1,hz2⟩:=xJ Tryz.infoRuP;obtain⟨us,h1,h2,h3⟩:=h.r;obtain⟨v',w',hr,hown',hgr,_,hat⟩:=run_append_own_at (P:=Tryz.prog) w 0 t ty 49 i0 (.pointer none) 1 8 ht hi hz0 hz1 hz2 rfl (by decide) v rs.length us h2 ⟨Y,0,none⟩ 1 1 [.pointer p] rfl (fun j x hx=>by
  have hj:=(List.getElem?_eq_some_iff.1 hx).1;have:j=0:=by simpa using hj
  subst this;rw[Zr];simp at hx;rw[←hx];exact hY) (fun x hx=>by rw[List.mem_singleton.1 hx];rfl) (by unfold maxLen;omega) (by omega) (Nat.zero_le _)
 have hk:KeepW (fun k=>v.ownBlock≠some k) w w':=⟨hgr.os,hgr.tape,hgr.output,hgr.size,fun k hk hne=>hgr.block k hk fun e=>hne e.symm⟩;have hlt:=h.lt;have hor:∀k,v'.ownBlock=some k→v.ownBlock=some k∨k=w.heap.size:=fun k e=>by
  rcases hat with hat | hat
  ·exact .inl (hat▸e)
  ·rw[hat] at e;cases e;exact .inr rfl
 have hgo:∀ {u:Value} {q:RuN},RuO (fun k=>v.ownBlock=some k) w u q→RuO (fun k=>v'.ownBlock=some k) w' u q:=fun {u q} hh=>by
  have h4:=hh.mono (old2:=fun k=>v.ownBlock=some k∨v'.ownBlock=some k) fun k hk e=>e.elim id fun e=>(hor k e).elim id fun e=>by omega
  exact (h4.keep (hk.mono fun k _ ho e=>ho (.inl e))).mono fun k _ e=> .inr e
 refine⟨v',w',hr,⟨us++ [.pointer p],by rw[List.length_append,List.length_append,h1];rfl,by rw[List.length_append];exact hown',fun i q u hq hu=> ?_⟩,KeepW.below h.b hk h.b.size fun k hk e=>by have:=h.f k e;omega,fun k e=> ?_⟩
 ·by_cases hil:i<rs.length
  ·rw[List.getElem?_append_left hil] at hq;rw[List.getElem?_append_left (by omega)] at hu;obtain⟨p',h4,h5⟩:=h3 i q u hq hu;exact⟨p',h4,hgo h5⟩
  ·rw[List.getElem?_append_right (by omega)] at hq hu;rw[h1] at hu;have e0:i-rs.length=0:=by
    have:=(List.getElem?_eq_some_iff.1 hq).1
    simpa using this
   rw[e0] at hq hu;cases hq;cases hu;exact⟨p,rfl,hgo hr0⟩
 ·rcases hor k e with e2 | e2
  ·exact h.f k e2
  ·have:=h.b.size;omega
end
section
variable {w:World} {v:Value} {L:List ByteArray}
theorem Vg (h:qJ w v L) (hL:L.length=0∨64<L.length):Calls Tryz.prog 12 #[v] w fun e w'=>e= .returned (.tuple #[.slice none 0 0,.int .i64 2])∧w'=w:=by
 obtain⟨vo,vc,rfl,hvc⟩:=h.form;by_cases h0:L.length=0
 ·rw[h0] at hvc ⊢;clear h hL h0;go_enter Tryz.func12,Tryz.ntmps12;go_wp2_with fail
  go_ret2
  exact⟨rfl,rfl⟩
 ·have h64:=hL.resolve_left h0;obtain⟨m,hm⟩:∃m,L.length=m:=⟨_,rfl⟩;rw[hm] at hvc h0 h64 ⊢;have hz1:((m:Int)==0)=false:=beq_eq_false_iff_ne.2 (by omega);have h64i:(m:Int)>64:=by omega
  clear h hL h0 hm;go_enter Tryz.func12,Tryz.ntmps12;go_wp2_with fail
  go_ret2
  exact⟨rfl,rfl⟩
set_option maxRecDepth 4000 in
theorem Kq (h:qJ w v L) (h0:L.length≠0) (h64:L.length≤64):
  Calls Tryz.prog 12 #[v] w fun e w'=>(∃r,e= .returned (.tuple #[r,.int .i64 (xG L)])∧(xG L=0→Qg w' r ((zI L).map zR)))∧Below w.heap.size w w':=by
 obtain⟨vo,vc,rfl,hvc⟩:=h.form;have HV:=qh h;have HE0:Hid (xG L=if xL L≠0 then xL L else if 2000<sizeP L then 70 else 0):=qh (by unfold xG;rw[if_neg (by omega)]);obtain⟨m,hm⟩:∃m,L.length=m:=⟨_,rfl⟩;have HM:=qh hm;rw[hm] at hvc h0 h64 HV ⊢;have hz1:((m:Int)==0)=false:=beq_eq_false_iff_ne.2 (by omega);have hm64':¬(m:Int)>64:=by omega
 have hm64:(m:Int)≤64:=by omega
 clear h hm h0;have H0:Hid (∃vv,vv=Value.slice none 0 0∧RwW w w vv ((zI (L.take 0)).map zR)∧(0:Nat)=sizeP (L.take 0)∧xL (L.take 0)=0∧(0:Nat)≤200*0):=qh ⟨_,rfl,⟨⟨[],rfl,World.ownsRow_nil _ _ _ _,fun i r u hr=>by cases hr⟩,Below.refl _ _,fun k e=>by cases e⟩,by rw[List.take_zero,sizeP],by rw[List.take_zero,xL],Nat.le_refl _⟩;go_enter Tryz.func12,Tryz.ntmps12;go_wp2_with fail
 go_loopw [4,5,6] (fun s4 s5 s6 wr=>∃i z:Nat,s6= .int .i64 (i:Int)∧i≤m∧s5= .int .i64 (z:Int)∧Hid (∃vv,vv=s4∧RwW w wr vv ((zI (L.take i)).map zR)∧z=sizeP (L.take i)∧xL (L.take i)=0∧z≤200*i)) (fun _ _ s6 _=>m-(intOf s6).toNat)
 case atStart=>exact⟨0,0,rfl,Nat.zero_le _,rfl,H0⟩
 case round=>
  obtain⟨i,z,rfl,hi,rfl,HX⟩:=hrel;clear H0;obtain⟨vv,hvv,hX,hZ,hE,hzb⟩:=HX.out;subst hvv;have HQ:=qh hX;have HZ:=qh hZ;have HE:=qh hE;clear HX hX hZ hE;have i0:(0:Int)≤(i:Int):=by omega
  have ib:(i:Int)≤64:=by omega
  have z0:(0:Int)≤(z:Int):=by omega
  have zb:(z:Int)≤12800:=by omega
  by_cases hlt:i<m
  ·have hli:(i:Int)<(m:Int):=(by omega);have hla:i<L.length:=(by have:=HM.out;omega);obtain⟨s,hs⟩:∃s,L[i]=s:=⟨_,rfl⟩;have hil:L[i]? =some s:=(by rw[List.getElem?_eq_getElem hla,hs]);have hget:=fun (W:World) (hb:Below w.heap.size w W)=>(HV.out.below hb).get hil;obtain⟨g,o,c,hve,hc⟩:=hget wr HQ.out.b;injection hve with e1 e2 e3
   subst e1;clear e2 e3;have HGT:Hid (∀W:World,Below w.heap.size w W→W.cell? ⟨g,o+i,none⟩=some (.string s)):=qh fun W hb=>by
    obtain⟨g',o',c',hve',hc'⟩:=hget W hb;injection hve' with e1 e2 e3
    injection e1 with e1
    injection e1 with e1 e4
    subst e1 e4;exact hc'
   have HT:Hid (L.take (i+1)=L.take i++ [s]∧L=L.take i++s::L.drop (i+1)):=qh ⟨by rw[List.take_add_one,hil];rfl,by
    have h1:=List.drop_eq_getElem_cons hla;rw[hs] at h1;rw[←h1,List.take_append_drop]⟩
   have HA:=qh (Vu s wr);have hcs:(zn s).2=0∨¬(zn s).2=0:=(by omega);have HOK:=qh (yA s);obtain⟨⟨n,er⟩,hp⟩:∃r,zn s=r:=⟨_,rfl⟩;rw[hp] at HA hcs HOK;simp only at HA hcs HOK;have HPP:=qh hp;clear hla hs hil hp hget;go_wp2_with fail
   go_fit HA.out;rintro e w2 ⟨x,rfl,⟨hso,u,rfl,hu⟩,hb2⟩;obtain⟨uo,uc,rfl,_⟩:=zW.form hu;have H2:=qh (And.intro hso (And.intro hu hb2));have hbox:=boxN.new 77 w2 n.kind n.set (.slice uo n.kids.length uc);have hba:=zA w2 (.cells #[.int .i64 n.kind,.int .u64 (n.set.1:Int),.int .u64 (n.set.2.1:Int),.int .u64 (n.set.2.2.1:Int),.int .u64 (n.set.2.2.2:Int),.slice uo n.kids.length uc] 77);have H3:=qh (And.intro hbox (And.intro (hb2.trans (hba.mono hb2.size)) (And.intro hba (HQ.out.b.trans ((hb2.trans (hba.mono hb2.size)).mono HQ.out.b.size)))));clear hso hu hb2 HA hbox hba;unfold zG;rcases hcs with he0 | he0
   ·subst he0;obtain⟨⟨c0,c1,c2,c3,c4,c5⟩,_⟩:=H3.out.1.cells;have HOF:=qh (zGZ (ok:=fun k=>wr.heap.size≤k) (w:=w2.alloc (.cells #[.int .i64 n.kind,.int .u64 (n.set.1:Int),.int .u64 (n.set.2.1:Int),.int .u64 (n.set.2.2.1:Int),.int .u64 (n.set.2.2.2:Int),.slice uo n.kids.length uc] 77)) (x:=zG n (.slice uo n.kids.length uc)) ⟨H2.out.1,_,rfl,H2.out.2.1.under H3.out.2.2.1⟩ HOK.out.1 (by have:=HOK.out.2.2.1;omega));unfold zG at HOF;have hssz:=(HOK.out.2.2.2 rfl).1;have hs0:(0:Int)≤(s.size:Int):=(by omega);have hsb:(s.size:Int)≤200:=(by omega);have hzw:IntKind.i64.wrap ((z:Int)+(s.size:Int))=(z:Int)+(s.size:Int):=(by apply IntWalk.i64_in<;>omega);have hzs:(z:Int)+(s.size:Int)≤13000:=(by omega);go_wp2_with fail
    go_fit HOF.out;rintro e w5 ⟨p,rfl,hru,hb5⟩;have hR5:=HQ.out.under (H3.out.2.1.trans (hb5.mono H3.out.2.1.size));have hba6:=zA w5 (.cells #[.pointer p] 49);have hru2:=(hru.mono (old2:=fun k=>vv.ownBlock=some k) fun k _ e=>by
     have h1:=HQ.out.lt k e;have h2:=H3.out.2.1.size;omega).below hba6
    have hcell:=cell_one_new w5 (.pointer p) 49 0 _ rfl;rw[Zr] at hcell;have hlen:((zI (L.take i)).map zR).length≤100000:=(by unfold zI;rw[List.length_map,List.length_map,List.length_take];omega);obtain⟨v',w6,hr,hR⟩:=(hR5.under hba6).push 25 25 Tryz.underlying25 hcell hru2 hlen;have HR:=qh hR;have hc6:=HGT.out w6 hR.b;have HF:Hid ((zI (L.take i)).map zR++ [zR n]=(zI (L.take (i+1))).map zR∧z+s.size=sizeP (L.take (i+1))∧xL (L.take (i+1))=0∧z+s.size≤200*(i+1)):=qh ⟨by rw[HT.out.1,Qf,List.map_append];show _=_++ [zR (zn s).1];rw[HPP.out],by rw[HT.out.1,yo,HZ.out];rfl,by rw[HT.out.1,yp _ _ HE.out,xL,HPP.out,if_pos rfl,xL],by omega⟩;clear hR5 hba6 hru hru2 hcell hlen hR hb5 HOF c0 c1 c2 c3 c4 c5;go_wp2_with (at_builtin;refine napp_list (by rfl) _ _ 25 (by rfl) (by rfl) (by rfl) hr ?_)
    go_roundw
    case rel=>exact⟨i+1,z+s.size,by go_num,hlt,by go_num,qh ⟨_,rfl,by rw[←HF.out.1];exact HR.out,HF.out.2⟩⟩
    case measure=>simp[intOf]<;>omega
   ·have heb:(er==0)=false:=beq_eq_false_iff_ne.2 he0;have HF:Hid (xG L=er):=qh (by
     have h1:xL L=er:=(by rw[HT.out.2,yp _ _ HE.out,xL,HPP.out,if_neg he0]);rw[HE0.out,h1,if_pos he0])
    have HN:=qh he0;clear he0;go_wp2_with fail
    go_ret2
    exact⟨⟨_,by rw[HF.out];rfl,fun h0=>absurd (HF.out.symm.trans h0) HN.out⟩,H3.out.2.2.2⟩
  ·have hli:¬(i:Int)<(m:Int):=(by omega);have hall:L.take i=L:=List.take_of_length_le (by have:=HM.out;omega);rw[hall] at HQ HZ HE;by_cases h2000:2000<z
   ·have hzi:(z:Int)>2000:=(by omega);have HF:Hid (xG L=70):=qh (by rw[HE0.out,if_neg (fun h=>h HE.out),←HZ.out,if_pos h2000]);clear hall;go_wp2_with fail
    go_ret2
    exact⟨⟨_,by rw[HF.out];rfl,fun h0=>absurd (HF.out.symm.trans h0) (by decide)⟩,HQ.out.b⟩
   ·have hzi:¬(z:Int)>2000:=(by omega);have HF:Hid (xG L=0):=qh (by rw[HE0.out,if_neg (fun h=>h HE.out),←HZ.out,if_neg h2000]);clear hall;go_wp2_with fail
    go_ret2
    exact⟨⟨_,by rw[HF.out];rfl,fun _=>HQ.out.read⟩,HQ.out.b⟩
theorem Vh (h:qJ w v L):
  Calls Tryz.prog 12 #[v] w fun e w'=>(∃r,e= .returned (.tuple #[r,.int .i64 (xG L)])∧(xG L=0→Qg w' r ((zI L).map zR)))∧Below w.heap.size w w':=by
 by_cases hL:L.length=0∨64<L.length
 ·refine (Vg h hL).mono ?_;rintro e w' ⟨rfl,rfl⟩;have hE:xG L=2:=by unfold xG;rw[if_pos hL]
  exact⟨⟨_,by rw[hE],fun h0=>by rw[hE] at h0;cases h0⟩,Below.refl _ _⟩
 ·exact Kq h (by omega) (by omega)
end
end Go.Proofs.YtjeomlickkpebaaGreatDoor
