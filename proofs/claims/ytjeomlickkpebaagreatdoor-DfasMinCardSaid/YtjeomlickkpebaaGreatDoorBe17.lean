/-
  Texts of this proof, one behind the other; each begins with its own remark.
-/
import Derived.Shelf.Strconv.ToError
import Derived.Shelf.Strconv.Lower
import Derived.Shelf.Strconv.AppendIntPublic10
import Derived.Lib.ItoaLen
import Derived.Test.YtjeomlickkpebaaGreatDoorBe12
import Derived.Test.YtjeomlickkpebaaGreatDoorBe9
namespace Go.Proofs
open Go.Shelf
def Tryz.laysM176_ren:Go.Shelf.Ren:=⟨fun | 176=>78 | 249=>87 | 288=>95 | 283=>100 | 284=>101 | 285=>102 | 286=>103 | 129=>108 | 317=>107 | 318=>109 | 319=>110 | 320=>111 | 337=>115 | 338=>116 | n=>n,fun | 37=>152 | 2=>2 | 3=>3 | 53=>50 | 4=>4 | 9=>9 | 171=>178 | 0=>0 | 173=>181 | 212=>184 | 51=>159 | 5=>5 | 20=>20 | 213=>185 | 46=>145 | 232=>193 | 233=>194 | n=>n,fun | 17=>0 | 18=>1 | 19=>2 | n=>n⟩
theorem Tryz.laysM176:Go.Proofs.LaysM.n176 Tryz.prog Tryz.laysM176_ren:= {
 mixed:=by kernel_rfl
 f129:=Tryz.func108.trans (congrArg some (by kernel_rfl))
 f176:=Tryz.func78.trans (congrArg some (by kernel_rfl))
 f249:=Tryz.func87.trans (congrArg some (by kernel_rfl))
 f283:=Tryz.func100.trans (congrArg some (by kernel_rfl))
 f284:=Tryz.func101.trans (congrArg some (by kernel_rfl))
 f285:=Tryz.func102.trans (congrArg some (by kernel_rfl))
 f286:=Tryz.func103.trans (congrArg some (by kernel_rfl))
 f288:=Tryz.func95.trans (congrArg some (by kernel_rfl))
 f317:=Tryz.func107.trans (congrArg some (by kernel_rfl))
 f318:=Tryz.func109.trans (congrArg some (by kernel_rfl))
 f319:=Tryz.func110.trans (congrArg some (by kernel_rfl))
 f320:=Tryz.func111.trans (congrArg some (by kernel_rfl))
 f337:=Tryz.func115.trans (congrArg some (by kernel_rfl))
 f338:=Tryz.func116.trans (congrArg some (by kernel_rfl))
 t0:=Tryz.underlying0
 a0:=Tryz.isAgg0
 z0:=Tryz.sizeOf0
 v0:=Tryz.zeroValue0
 t2:=Tryz.underlying2
 a2:=Tryz.isAgg2
 z2:=Tryz.sizeOf2
 v2:=Tryz.zeroValue2
 t3:=Tryz.underlying3
 a3:=Tryz.isAgg3
 z3:=Tryz.sizeOf3
 v3:=Tryz.zeroValue3
 t4:=Tryz.underlying4
 a4:=Tryz.isAgg4
 z4:=Tryz.sizeOf4
 v4:=Tryz.zeroValue4
 t5:=Tryz.underlying5
 a5:=Tryz.isAgg5
 z5:=Tryz.sizeOf5
 v5:=Tryz.zeroValue5
 t9:=Tryz.underlying9
 a9:=Tryz.isAgg9
 z9:=Tryz.sizeOf9
 v9:=Tryz.zeroValue9
 t20:=Tryz.underlying20
 a20:=Tryz.isAgg20
 z20:=Tryz.sizeOf20
 v20:=Tryz.zeroValue20
 t37:=Tryz.underlying152
 a37:=Tryz.isAgg152
 z37:=Tryz.sizeOf152
 v37:=Tryz.zeroValue152
 t46:=Tryz.underlying145
 a46:=Tryz.isAgg145
 z46:=Tryz.sizeOf145
 v46:=Tryz.zeroValue145
 t51:=Tryz.underlying159
 a51:=Tryz.isAgg159
 z51:=Tryz.sizeOf159
 v51:=Tryz.zeroValue159
 t53:=Tryz.underlying50
 a53:=Tryz.isAgg50
 z53:=Tryz.sizeOf50
 v53:=Tryz.zeroValue50
 t171:=Tryz.underlying178
 a171:=Tryz.isAgg178
 z171:=Tryz.sizeOf178
 v171:=Tryz.zeroValue178
 t173:=Tryz.underlying181
 a173:=Tryz.isAgg181
 z173:=Tryz.sizeOf181
 v173:=Tryz.zeroValue181
 t212:=Tryz.underlying184
 a212:=Tryz.isAgg184
 z212:=Tryz.sizeOf184
 v212:=Tryz.zeroValue184
 t213:=Tryz.underlying185
 a213:=Tryz.isAgg185
 z213:=Tryz.sizeOf185
 t232:=Tryz.underlying193
 a232:=Tryz.isAgg193
 z232:=Tryz.sizeOf193
 v232:=Tryz.zeroValue193
 t233:=Tryz.underlying194
 a233:=Tryz.isAgg194
 z233:=Tryz.sizeOf194
 v233:=Tryz.zeroValue194
 g17:=by kernel_rfl
 g18:=by kernel_rfl
 g19:=by kernel_rfl
 i0:=by kernel_rfl
 i2:=by kernel_rfl
 i3:=by kernel_rfl
 i4:=by kernel_rfl
 i5:=by kernel_rfl
 i9:=by kernel_rfl
 i20:=by kernel_rfl
 i37:=by kernel_rfl
 i46:=by kernel_rfl
 i51:=by kernel_rfl
 i53:=by kernel_rfl
 i171:=by kernel_rfl
 i173:=by kernel_rfl
 i212:=by kernel_rfl
 i232:=by kernel_rfl
 i233:=by kernel_rfl
 m17:=by kernel_rfl
 m18:=by kernel_rfl
 m19:=by kernel_rfl}
open Go.RowKit Go.Sort Go.Lib in
theorem Tryz.strconv_AppendInt_10 (B n:Nat) (i:Int) (h0: -9223372036854775808≤i) (h1:i≤9223372036854775807) (sv:Value) (xs:List Value) (w:World) (hown:w.ownsRow B 5 1 sv n xs) (hBw:B≤w.heap.size) (hlim:n+21≤140737488355328) (htab:Lib.TabBelow Tryz.prog B w "internal/strconv.uint64pow10" .u64 Lib.pow10Tab):
  Calls Tryz.prog 78 #[sv,.int .i64 i,.int .i64 10] w fun e w'=>∃v',e= .returned v'∧w'.ownsRow B 5 1 v' (n+(Lib.itoa i).length) (xs++Lib.byteCells (Lib.itoa i))∧Below B w w'∧Lib.OthersKept 5 none w w':=Any.strconv_AppendInt_10 Tryz.laysM176 B n i h0 h1 sv xs w hown hBw hlim htab
end Go.Proofs
namespace Go.Proofs.YtjeomlickkpebaaGreatDoor
open Go.RowKit
def zC2 (w:World):Prop:=Lib.TabBelow Tryz.prog w.heap.size w "internal/strconv.uint64pow10" .u64 Lib.pow10Tab
theorem zC2.below {w w':World} (h:zC2 w) (hb:Below w.heap.size w w'):zC2 w':=fun w2 h2=>h w2 (hb.trans (h2.mono hb.size))
def yW:List Int→List UInt8
 | []=> []
 | a::l=>Lib.itoa a++32::yW l
theorem VV:∀(l:List Int) (a:Int),yW (l++ [a])=yW l++(Lib.itoa a++ [32])
 | [],a=>by simp[yW]
 | b::l,a=>by rw[List.cons_append,yW,yW,VV l a,List.append_assoc,List.cons_append]
def zJ6 (s:List UInt8):Nat:=s.foldl (fun n c=>n*10+(c.toNat-48)) 0
theorem vM {u:Nat} (h:u<10):(UInt8.ofNat (48+u)).toNat=48+u:=by
 rw[UInt8.toNat_ofNat'];omega
theorem yF (u:Nat):zJ6 (Lib.decDigits u)=u∧∀c,c∈Lib.decDigits u→48≤c.toNat:=by
 induction u using Nat.strongRecOn with
 | ind u ih=>
  rw[Lib.decDigits];by_cases h:u<10
  ·rw[dif_pos h];refine⟨?_,fun c hc=> ?_⟩
   ·show 0*10+((UInt8.ofNat (48+u)).toNat-48)=u;rw[vM h];omega
   ·rw[List.mem_singleton.1 hc,vM h];omega
  ·rw[dif_neg h];obtain⟨h1,h2⟩:=ih (u/10) (by omega);refine⟨?_,fun c hc=> ?_⟩
   ·unfold zJ6 at h1 ⊢;rw[List.foldl_append,h1];show u/10*10+((UInt8.ofNat (48+u%10)).toNat-48)=u;rw[vM (by omega)];omega
   ·rcases List.mem_append.1 hc with hc | hc
    ·exact h2 c hc
    ·rw[List.mem_singleton.1 hc,vM (by omega)];omega
theorem KQ {u v:Nat} (h:Lib.decDigits u=Lib.decDigits v):u=v:=by rw[←(yF u).1,h,(yF v).1]
theorem zC3 (a:Int):∀c,c∈Lib.itoa a→c≠32:=fun c hc=>by
 unfold Lib.itoa at hc;split at hc
 ·rcases List.mem_cons.1 hc with rfl | hc
  ·decide
  ·have:=(yF _).2 c hc;intro e;rw[e] at this;exact absurd this (by decide)
 ·have:=(yF _).2 c hc;intro e;rw[e] at this;exact absurd this (by decide)
theorem zEV {a b:Int} (ha:0≤a) (hb:0≤b) (h:Lib.itoa a=Lib.itoa b):a=b:=by
 unfold Lib.itoa at h;rw[if_neg (by omega),if_neg (by omega)] at h;have:=KQ h;omega
theorem VW {s t:List UInt8}:∀ {p q:List UInt8},(∀c,c∈p→c≠32)→(∀c,c∈q→c≠32)→p++32::s=q++32::t→p=q∧s=t
 | [],[],_,_,h=>⟨rfl,by rw[List.nil_append,List.nil_append] at h;exact (List.cons.inj h).2⟩
 | [],c::q,_,hq,h=>by
  rw[List.nil_append,List.cons_append] at h;exact absurd (List.cons.inj h).1.symm (hq c (by simp))
 | c::p,[],hp,_,h=>by
  rw[List.nil_append,List.cons_append] at h;exact absurd (List.cons.inj h).1 (hp c (by simp))
 | c::p,d::q,hp,hq,h=>by
  rw[List.cons_append,List.cons_append] at h;obtain⟨h1,h2⟩:=List.cons.inj h;obtain⟨h3,h4⟩:=VW (fun x hx=>hp x (by simp[hx])) (fun x hx=>hq x (by simp[hx])) h2;exact⟨by rw[h1,h3],h4⟩
theorem txt_inj:∀ {l m:List Int},(∀a,a∈l→0≤a)→(∀a,a∈m→0≤a)→yW l=yW m→l=m
 | [],[],_,_,_=>rfl
 | [],b::m,_,_,h=>by
  rw[yW,yW] at h;have:=congrArg List.length h;rw[List.length_append,List.length_cons,List.length_nil] at this;omega
 | a::l,[],_,_,h=>by
  rw[yW,yW] at h;have:=congrArg List.length h;rw[List.length_append,List.length_cons,List.length_nil] at this;omega
 | a::l,b::m,hl,hm,h=>by
  rw[yW,yW] at h;obtain⟨h1,h2⟩:=VW (zC3 a) (zC3 b) h;rw[zEV (hl a (by simp)) (hm b (by simp)) h1,txt_inj (fun x hx=>hl x (by simp[hx])) (fun x hx=>hm x (by simp[hx])) h2]
theorem Tryz.infoU8D:(Tryz.prog.info? 5).map (fun i=>(i.zero,i.size,i.bytes))=some (some (.int .u8 0),1,1):=by kernel_rfl
def J6 (N:Nat) (w:World) (v:Value) (s:List UInt8):Prop:=w.ownsRow N 5 1 v s.length (Lib.byteCells s)
theorem J6.nil (N:Nat) (w:World):J6 N w (.slice none 0 0) []:=World.ownsRow_nil _ _ _ _
theorem J6.form {N:Nat} {w:World} {v:Value} {s:List UInt8} (h:J6 N w v s):∃ao cap,v= .slice ao s.length cap∧s.length≤cap:=by
 obtain⟨ao,cap,hv,hn,_⟩:=Zc h;exact⟨ao,cap,hv,hn⟩
theorem zC4 {N:Nat} {w:World} {v:Value} {s:List UInt8} {X:Nat} {a:UInt8} (t ty:TypeId) (ht:Tryz.prog.underlying t=some (.slice 5)) (hv:J6 N w v s) (hX:w.cell? ⟨X,0,none⟩=some (.int .u8 (a.toNat:Int))) (hN:N≤w.heap.size) (hs:s.length≤100000000):
  ∃v' w',(Builtin.append_ #[t,t] ty #[v,.slice (some ⟨X,0,none⟩) 1 1]).run Tryz.prog w= .ok v' w'∧J6 N w' v' (s++ [a])∧Below N w w':=by
 obtain⟨i0,hi,hz0,hz1,hz2⟩:=xJ Tryz.infoU8D;have hn:∀(j:Nat) (u:Value),[Value.int .u8 (a.toNat:Int)][j]? =some u→w.cell? ((⟨X,0,none⟩:Addr).add j)=some u:=fun j u hu=>by
  have hj:=(List.getElem?_eq_some_iff.1 hu).1;have:j=0:=by simpa using hj
  subst this;rw[Zr];simp at hu;rw[←hu];exact hX
 obtain⟨v',w',hr,hown',hgr,_,hat⟩:=run_append_own_at (P:=Tryz.prog) w N t ty 5 i0 (.int .u8 0) 1 1 ht hi hz0 hz1 hz2 rfl (by decide) v s.length (Lib.byteCells s) hv ⟨X,0,none⟩ 1 1 [.int .u8 (a.toNat:Int)] rfl hn (fun u hu=>by rw[List.mem_singleton.1 hu];rfl) (by unfold maxLen;omega) (by omega) hN;refine⟨v',w',hr,?_,⟨hgr.os,hgr.tape,hgr.output,hgr.size,fun k hk=>hgr.block k (by omega) fun e=> ?_⟩⟩
 ·unfold J6 Lib.byteCells;rw[List.length_append,List.map_append];exact hown'
 ·have:=(World.ownsRow.lt hv k e.symm).1;omega
theorem YW {N:Nat} {w:World} {v:Value} {s:List UInt8} (t:TypeId) (ht:Tryz.prog.underlying t=some (.slice 5)) (h:J6 N w v s):(convert t 9 v).run Tryz.prog w= .ok (.string ⟨s.toArray⟩) w:=by
 obtain⟨ao,cap,rfl,hn,hc⟩:=Zc h;cases ao with
 | none=>
  have h0:s= []:=by
   cases s with
   | nil=>rfl
   | cons c s=>
    obtain⟨_,_,he,_⟩:=hc 0 (.int .u8 (c.toNat:Int)) rfl;cases he
  rw[h0];exact run_convert_bytes_nil w t 5 ht Tryz.underlying5 _ _ 9 Tryz.underlying9
 | some a=>
  refine run_convert_bytes_back w t 9 5 a cap s ht Tryz.underlying5 Tryz.underlying9 (fun j hj=> ?_);obtain⟨g,o,he,_,hg⟩:=hc j (.int .u8 ((s[j]).toNat:Int)) (by unfold Lib.byteCells;rw[List.getElem?_map,List.getElem?_eq_getElem hj];rfl);cases he;rw[Zr];exact hg
section
variable {w:World} {v:Value} {l:List Int}
theorem VX (a:Int) (h0:0≤a) (h1:a≤1000000):(Lib.itoa a).length≤21:=by
 exact Lib.itoa_length_le a (by omega) (by omega)
theorem zC5:∀ {l:List Int},(∀a,a∈l→0≤a∧a≤1000000)→(yW l).length≤l.length*22
 | [],_=>Nat.le_refl _
 | a::l,h=>by
  have h1:=VX a (h a (by simp)).1 (h a (by simp)).2;have h2:=zC5 (l:=l) fun b hb=>h b (by simp[hb]);rw[yW,List.length_append,List.length_cons,List.length_cons];omega
set_option maxRecDepth 8000 in
theorem zC6 (h:jG w v l) (hp:zC2 w) (hr:∀a,a∈l→0≤a∧a≤1000000) (hl:l.length≤100000):
  Calls Tryz.prog 63 #[v] w fun e w'=>e= .returned (.string ⟨(yW l).toArray⟩)∧Below w.heap.size w w':=by
 have HI:=qh (fun (W:World) (hb:Below w.heap.size w W)=>h.below hb);have HR:=qh hr;obtain⟨n,hn⟩:∃n,l.length=n:=⟨_,rfl⟩;have HN:=qh hn;obtain⟨N,hN⟩:∃N,w.heap.size=N:=⟨_,rfl⟩;have HNN:=qh hN;have HA:=qh (fun (W:World) (hb:Below N w W) (u:Value) (s:List UInt8) (a:Int) (ho:J6 N W u s) (hs:s.length≤3000000) (ha:0≤a∧a≤1000000)=>
  Tryz.strconv_AppendInt_10 N s.length a (by omega) (by omega) u (Lib.byteCells s) W ho (by have:=hb.size;omega) (by omega) (by rw[←hN] at hb ⊢;exact (show Lib.TabBelow _ _ _ _ _ _ from hp).on hb))
 have hform:=h.form;rw[hn] at hform hl;obtain⟨ao,cap,rfl,hcap⟩:=hform;have H0:Hid (∃u,u=Value.slice none 0 0∧J6 N w u (yW (l.take 0))∧Below N w w):=qh ⟨_,rfl,J6.nil N w,Below.refl _ _⟩;clear h hp hr hn hN;go_enter Tryz.func63,Tryz.ntmps63;go_wp2_with fail
 go_loopw [3,8] (fun s3 s8 wr=>∃i:Nat,s8= .int .i64 (i:Int)∧i≤n∧Hid (∃u,u=s3∧J6 N wr u (yW (l.take i))∧Below N w wr)) (fun _ s8 _=>n-(intOf s8).toNat)
 case atStart=>exact⟨0,rfl,Nat.zero_le _,H0⟩
 case round=>
  clear H0;obtain⟨i,rfl,hi,HX⟩:=hrel;obtain⟨u,hu,hX⟩:=HX.out;subst hu;have HY:=qh hX;clear HX hX;obtain⟨uo,uc,hu,huc⟩:=HY.out.1.form;subst hu;obtain⟨m,hm⟩:∃m,(yW (l.take i)).length=m:=⟨_,rfl⟩;rw[hm] at HY huc ⊢;have i0:(0:Int)≤(i:Int):=by omega
  have i1:(i:Int)≤100000:=by omega
  by_cases hlt:i<n
  ·have hli:(i:Int)<(n:Int):=(by omega);obtain⟨a,ha⟩:∃a,l[i]? =some a:=⟨_,List.getElem?_eq_getElem (by rw[HN.out];exact hlt)⟩;obtain⟨g,o,cp,hv,_,c1⟩:=(HI.out wr (by rw[HNN.out];exact HY.out.2)).at_ ha;cases hv;have hra:=HR.out a (List.mem_of_getElem? ha);have hfew:(yW (l.take i)).length≤3000000:=by
    have:=zC5 (l:=l.take i) fun b hb=>HR.out b (List.mem_of_mem_take hb);rw[List.length_take] at this;omega
   have HC:=qh (HA.out wr HY.out.2 _ _ a HY.out.1 hfew hra);have HT:Hid (l.take (i+1)=l.take i++ [a]):=qh (by rw[List.take_add_one,ha];rfl);have hfew2:(yW (l.take i)++Lib.itoa a).length≤4000000:=by
    have:=VX a hra.1 hra.2;rw[List.length_append];omega
   have HF:=qh hfew2;have hA:∀(W:World) u,J6 N W u (yW (l.take i)++Lib.itoa a)→N≤W.heap.size→∃v' w',(Builtin.append_ #[152,152] 152 #[u,.slice (some ⟨W.heap.size,0,none⟩) 1 1]).run Tryz.prog (W.alloc (.cells #[.int .u8 32] 5))= .ok v' w'∧J6 N w' v' (yW (l.take (i+1)))∧Below N (W.alloc (.cells #[.int .u8 32] 5)) w':=fun W u ho hN=>by
    rw[HT.out,VV,←List.append_assoc];exact zC4 (a:=32) 152 152 Tryz.underlying152 (zF ho (keep_below (fun _=>True) (zA W _)) fun _ _=>trivial) (by
     rw[cell_of_row _ _ _ _ _ (0,0) (heap_alloc_new W _)];rfl) (by rw[zC];omega) (by rw[List.length_append] at hfew2 ⊢;omega)
   have HAA:=qh hA;have HB:=qh HY.out.2;clear hra hfew hfew2 hA ha HY huc hm;go_wp2_with fail
   go_fit HC.out;rintro e w2 ⟨v2,rfl,ho2,hb2,_⟩;have ho3:J6 N w2 v2 (yW (l.take i)++Lib.itoa a):=by
    unfold J6;rw[List.length_append,Lib.byteCells_append];exact ho2
   obtain⟨o2,p2,rfl,_⟩:=ho3.form;obtain⟨m2,hm2⟩:∃m2,(yW (l.take i)++Lib.itoa a).length=m2:=⟨_,rfl⟩;rw[hm2] at ho2 ho3 ⊢;have hw2:N≤w2.heap.size:=(by have:=HB.out.size;have:=hb2.size;have:=HNN.out;omega);obtain⟨v3,w3,hr3,ho4,hb4⟩:=HAA.out w2 _ ho3 hw2;have H3:Hid (J6 N w3 v3 (yW (l.take (i+1)))∧Below N w w3):=qh ⟨ho4,(HB.out.trans hb2).trans (((zA w2 _).mono hw2).trans hb4)⟩;clear ho2 hb2 ho3 ho4 hb4 HC HAA hm2;go_wp2_with (at_builtin;refine napp_list (by rfl) _ _ 152 (by rfl) (by rfl) (by rfl) hr3 ?_)
   go_roundw
   case rel=>exact⟨i+1,by go_num,hlt,qh ⟨_,rfl,H3.out⟩⟩
   case measure=>simp[intOf]<;>omega
  ·have hli:¬(i:Int)<(n:Int):=(by omega);have hin:l.take i=l:=List.take_of_length_le (by rw[HN.out];omega);have hcv:=YW 152 Tryz.underlying152 HY.out.1;rw[hin] at hcv;rw[hin] at HY;obtain⟨T,hT⟩:∃T,(yW l).toArray=T:=⟨_,rfl⟩;rw[hT] at hcv;have HZ:Hid (⟨(yW l).toArray⟩=(⟨T⟩:ByteArray)∧Below N w wr):=qh ⟨by rw[hT],HY.out.2⟩;clear HY hin hT huc hm;go_wp2_with fail
   go_ret
   exact⟨by rw[HZ.out.1];rfl,by rw[HNN.out];exact HZ.out.2⟩
end
end Go.Proofs.YtjeomlickkpebaaGreatDoor
namespace Go.Proofs.YtjeomlickkpebaaGreatDoor
structure zC7 (n:Nat) (ru:Nat→Int) (st:Nat→Nat) (k:Nat) (Bs:List Blk) (pl ob:Nat→Nat):Prop where
 pl:∀i,i<k→pl (st i)=i
 at_:∀i,i<k→∃f t,Bs[ob (st i)]? =some (f,t,0)∧f≤i∧i<t
 inb:∀(j:Nat) f t m,Bs[j]? =some (f,t,m)→m=0∧f<t∧t≤k∧∀i,f≤i→i<t→ob (st i)=j
 rule:∀i j,i<k→j<k→(ob (st i)=ob (st j)↔ru (st i)=ru (st j))
 last:0<k→∃f,Bs[Bs.length-1]? =some (f,k,0)∧0<Bs.length∧ob (st (k-1))=Bs.length-1
 few:Bs.length≤k
section
variable {n k:Nat} {ru:Nat→Int} {st:Nat→Nat} {Bs:List Blk} {pl ob:Nat→Nat}
theorem zC8:zC7 n ru st 0 [] pl ob:=
 ⟨fun i hi=>absurd hi (Nat.not_lt_zero _),fun i hi=>absurd hi (Nat.not_lt_zero _),fun _ _ _ _ e=>(by cases e),fun i _ hi=>absurd hi (Nat.not_lt_zero _),fun h=>absurd h (Nat.lt_irrefl _),Nat.le_refl _⟩
theorem zC7.fresh (h:zC7 n ru st k Bs pl ob) (hinj:∀i j,i<n→j<n→st i=st j→i=j) (hk:k<n) (hno:∀i,i<k→ru (st i)≠ru (st k)):
  zC7 n ru st (k+1) (Bs++ [(k,k+1,0)]) (updN pl (st k) k) (updN ob (st k) Bs.length):=by
 have ne:∀i,i<k→st i≠st k:=fun i hi e=>by have:=hinj i k (by omega) hk e;omega
 have ob1:∀i,i<k→updN ob (st k) Bs.length (st i)=ob (st i):=fun i hi=>yC _ _ (ne i hi);have ob2:updN ob (st k) Bs.length (st k)=Bs.length:=yw _ _ _;have lt:∀i,i<k→ob (st i)<Bs.length:=fun i hi=>by
  obtain⟨f,t,e,_⟩:=h.at_ i hi;exact (List.getElem?_eq_some_iff.1 e).1
 have g1:∀(j:Nat),j<Bs.length→(Bs++ [(k,k+1,0)])[j]? =Bs[j]? :=fun j hj=>List.getElem?_append_left hj;have g2:(Bs++ [(k,k+1,0)])[Bs.length]? =some (k,k+1,0):=by rw[List.getElem?_append_right (Nat.le_refl _),Nat.sub_self];rfl
 refine⟨fun i hi=> ?_,fun i hi=> ?_,fun j f t m e=> ?_,fun i j hi hj=> ?_,fun _=>⟨k,?_,?_,?_⟩,?_⟩
 ·by_cases c:i=k
  ·subst c;exact yw _ _ _
  ·rw[yC _ _ (ne i (by omega))];exact h.pl i (by omega)
 ·by_cases c:i=k
  ·subst c;rw[ob2];exact⟨i,i+1,g2,Nat.le_refl _,Nat.lt_succ_self _⟩
  ·rw[ob1 i (by omega),g1 _ (lt i (by omega))];exact h.at_ i (by omega)
 ·by_cases c:j<Bs.length
  ·rw[g1 j c] at e;obtain⟨a1,a2,a3,a4⟩:=h.inb j f t m e;exact⟨a1,a2,by omega,fun i h1 h2=>by rw[ob1 i (by omega)];exact a4 i h1 h2⟩
  ·have hl:=(List.getElem?_eq_some_iff.1 e).1;rw[List.length_append,List.length_singleton] at hl;have hj:j=Bs.length:=(by omega);subst hj;rw[g2] at e;cases e;exact⟨rfl,by omega,Nat.le_refl _,fun i h1 h2=>by rw[show i=k by omega,ob2]⟩
 ·by_cases c:i=k
  ·subst c;by_cases e:j=i
   ·subst e;exact⟨fun _=>rfl,fun _=>rfl⟩
   ·rw[ob2,ob1 j (by omega)];have:=lt j (by omega);exact⟨fun q=>by omega,fun q=>absurd q.symm (hno j (by omega))⟩
  ·by_cases e:j=k
   ·subst e;rw[ob2,ob1 i (by omega)];have:=lt i (by omega);exact⟨fun q=>by omega,fun q=>absurd q (hno i (by omega))⟩
   ·rw[ob1 i (by omega),ob1 j (by omega)];exact h.rule i j (by omega) (by omega)
 ·rw[List.length_append,List.length_singleton,Nat.add_sub_cancel];exact g2
 ·rw[List.length_append,List.length_singleton];omega
 ·rw[Nat.add_sub_cancel,ob2,List.length_append,List.length_singleton,Nat.add_sub_cancel]
 ·rw[List.length_append,List.length_singleton];have:=h.few;omega
theorem zC7.more (h:zC7 n ru st k Bs pl ob) (hinj:∀i j,i<n→j<n→st i=st j→i=j) (hk:k<n) (h0:0<k) (hsame:ru (st k)=ru (st (k-1))) {f:Nat} (hf:Bs[Bs.length-1]? =some (f,k,0)):
  zC7 n ru st (k+1) (Bs.set (Bs.length-1) (f,k+1,0)) (updN pl (st k) k) (updN ob (st k) (Bs.length-1)):=by
 obtain⟨f',e1,hl,hlast⟩:=h.last h0;rw[hf] at e1;cases e1;have ne:∀i,i<k→st i≠st k:=fun i hi e=>by have:=hinj i k (by omega) hk e;omega
 have ob1:∀i,i<k→updN ob (st k) (Bs.length-1) (st i)=ob (st i):=fun i hi=>yC _ _ (ne i hi);have ob2:updN ob (st k) (Bs.length-1) (st k)=Bs.length-1:=yw _ _ _;have g2:(Bs.set (Bs.length-1) (f,k+1,0))[Bs.length-1]? =some (f,k+1,0):=by rw[List.getElem?_set,if_pos rfl,if_pos (by omega)]
 have g1:∀(j:Nat),j≠Bs.length-1→(Bs.set (Bs.length-1) (f,k+1,0))[j]? =Bs[j]? :=fun j hj=>by rw[List.getElem?_set,if_neg (fun e=>hj e.symm)]
 have hfk:=h.inb _ _ _ _ hf;refine⟨fun i hi=> ?_,fun i hi=> ?_,fun j f1 t m e=> ?_,fun i j hi hj=> ?_,fun _=>⟨f,?_,?_,?_⟩,?_⟩
 ·by_cases c:i=k
  ·subst c;exact yw _ _ _
  ·rw[yC _ _ (ne i (by omega))];exact h.pl i (by omega)
 ·by_cases c:i=k
  ·subst c;rw[ob2];exact⟨f,i+1,g2,by omega,Nat.lt_succ_self _⟩
  ·rw[ob1 i (by omega)];obtain⟨f1,t1,e1,e2,e3⟩:=h.at_ i (by omega);by_cases d:ob (st i)=Bs.length-1
   ·rw[d] at e1 ⊢;rw[hf] at e1;cases e1;exact⟨f,k+1,g2,e2,by omega⟩
   ·rw[g1 _ d];exact⟨f1,t1,e1,e2,e3⟩
 ·by_cases c:j=Bs.length-1
  ·subst c;rw[g2] at e;cases e;refine⟨rfl,by omega,Nat.le_refl _,fun i h1 h2=> ?_⟩;by_cases d:i=k
   ·subst d;exact ob2
   ·rw[ob1 i (by omega)];exact hfk.2.2.2 i h1 (by omega)
  ·rw[g1 j c] at e;obtain⟨a1,a2,a3,a4⟩:=h.inb j f1 t m e;exact⟨a1,a2,by omega,fun i h1 h2=>by rw[ob1 i (by omega)];exact a4 i h1 h2⟩
 ·by_cases c:i=k
  ·subst c;by_cases e:j=i
   ·subst e;exact⟨fun _=>rfl,fun _=>rfl⟩
   ·rw[ob2,ob1 j (by omega),hsame,←h.rule (i-1) j (by omega) (by omega),hlast]
  ·by_cases e:j=k
   ·subst e;rw[ob2,ob1 i (by omega),hsame,←h.rule i (j-1) (by omega) (by omega),hlast]
   ·rw[ob1 i (by omega),ob1 j (by omega)];exact h.rule i j (by omega) (by omega)
 ·rw[List.length_set];exact g2
 ·rw[List.length_set];exact hl
 ·rw[Nat.add_sub_cancel,ob2,List.length_set]
 ·rw[List.length_set];have:=h.few;omega
theorem zC7.all (h:zC7 n ru st n Bs pl ob) (hst:∀i,i<n→st i<n) (hsur:∀x,x<n→∃i,i<n∧st i=x):
  yx n Bs st pl ob∧(∀y,y<n→¬MkP Bs pl ob y)∧∀y z,y<n→z<n→(ob y=ob z↔ru y=ru z):=by
 have hp:∀x,x<n→∃i,i<n∧st i=x∧pl x=i:=fun x hx=>by
  obtain⟨i,h1,h2⟩:=hsur x hx;exact⟨i,h1,h2,by rw[←h2];exact h.pl i h1⟩
 refine⟨⟨fun x hx=> ?_,fun k hk=>⟨hst k hk,h.pl k hk⟩,fun x hx=> ?_,fun j f t m e=> ?_⟩,fun y hy hm=> ?_,fun y z hy hz=> ?_⟩
 ·obtain⟨i,h1,h2,h3⟩:=hp x hx;rw[h3];exact⟨h1,h2⟩
 ·obtain⟨i,h1,h2,h3⟩:=hp x hx;obtain⟨f,t,e1,e2,e3⟩:=h.at_ i h1;rw[h2] at e1;rw[h3];exact⟨f,t,0,e1,e2,e3⟩
 ·obtain⟨a1,a2,a3,a4⟩:=h.inb j f t m e;subst a1;exact⟨a2,a3,by omega,a4⟩
 ·obtain⟨f,t,m,e1,e2⟩:=hm;obtain⟨i,h1,h2,h3⟩:=hp y hy;obtain⟨f',t',e3,e4,e5⟩:=h.at_ i h1;rw[h2,e1] at e3;cases e3;omega
 ·obtain⟨i,h1,h2,_⟩:=hp y hy;obtain⟨j,h3,h4,_⟩:=hp z hz;rw[←h2,←h4];exact h.rule i j h1 h3
end
end Go.Proofs.YtjeomlickkpebaaGreatDoor
