/-
  Texts of this proof, one behind the other; each begins with its own remark.
-/
import Derived.Shelf.Strconv.Itoa0
import Derived.Shelf.Strconv.Itoa1
import Derived.Shelf.LaysM
import Derived.Shelf.Strconv.Itoa2
import Derived.Shelf.Strconv.Clone
import Derived.Shelf.Strconv.SyntaxError
import Derived.Shelf.LaysC
import Derived.Shelf.Strconv.ToError
import Derived.Shelf.Strconv.Lower
import Derived.Shelf.Strconv.AppendUint10
import Derived.Shelf.Strconv.AppendInt10
import Derived.Shelf.Strconv.AppendIntPublic10
import Derived.Test.YtjeomlickkpebaaGreatDoorProg
import Derived.Laws.IdiomStrings
import Derived.Laws.BytesArg
import Derived.Lib.ItoaLen
import Derived.Deep.RegionLaw
import Derived.Test.YtjeomlickkpebaaGreatDoorBe2
import Derived.Test.YtjeomlickkpebaaGreatDoorBe13
import Derived.Test.YtjeomlickkpebaaGreatDoorBe15
import Derived.Test.YtjeomlickkpebaaGreatDoorBe8
namespace Go.Proofs
open Go.Shelf
def Tryz.laysM176_ren:Go.Shelf.Ren:=⟨fun | 176=>78 | 249=>87 | 288=>95 | 283=>100 | 284=>101 | 285=>102 | 286=>103 | 129=>108 | 317=>107 | 318=>109 | 319=>110 | 320=>111 | 337=>115 | 338=>116 | n=>n,fun | 37=>152 | 2=>2 | 3=>3 | 53=>50 | 4=>4 | 9=>9 | 171=>178 | 0=>0 | 173=>181 | 212=>184 | 51=>159 | 5=>5 | 20=>20 | 213=>185 | 46=>145 | 232=>193 | 233=>194 | n=>n,fun | 17=>0 | 18=>1 | 19=>2 | n=>n⟩
theorem Tryz.laysM176:Go.Proofs.LaysM.n176 Tryz.prog Tryz.laysM176_ren:= {
 mixed:=by kernel_rfl
 f129:=Tryz.func108.trans (congrArg some (by kernel_rfl))
 f176:=Tryz.func78.trans (congrArg some (by kernel_rfl))
 f249:=Tryz.func87.trans (congrArg some (by kernel_rfl))
 f283:=Tryz.func100.trans (congrArg some (by kernel_rfl))
 f284:=Tryz.func101.trans (congrArg some (by kernel_rfl))
 f285:=Tryz.func102.trans (congrArg some (by kernel_rfl))
 f286:=Tryz.func103.trans (congrArg some (by kernel_rfl))
 f288:=Tryz.func95.trans (congrArg some (by kernel_rfl))
 f317:=Tryz.func107.trans (congrArg some (by kernel_rfl))
 f318:=Tryz.func109.trans (congrArg some (by kernel_rfl))
 f319:=Tryz.func110.trans (congrArg some (by kernel_rfl))
 f320:=Tryz.func111.trans (congrArg some (by kernel_rfl))
 f337:=Tryz.func115.trans (congrArg some (by kernel_rfl))
 f338:=Tryz.func116.trans (congrArg some (by kernel_rfl))
 t0:=Tryz.underlying0
 a0:=Tryz.isAgg0
 z0:=Tryz.sizeOf0
 v0:=Tryz.zeroValue0
 t2:=Tryz.underlying2
 a2:=Tryz.isAgg2
 z2:=Tryz.sizeOf2
 v2:=Tryz.zeroValue2
 t3:=Tryz.underlying3
 a3:=Tryz.isAgg3
 z3:=Tryz.sizeOf3
 v3:=Tryz.zeroValue3
 t4:=Tryz.underlying4
 a4:=Tryz.isAgg4
 z4:=Tryz.sizeOf4
 v4:=Tryz.zeroValue4
 t5:=Tryz.underlying5
 a5:=Tryz.isAgg5
 z5:=Tryz.sizeOf5
 v5:=Tryz.zeroValue5
 t9:=Tryz.underlying9
 a9:=Tryz.isAgg9
 z9:=Tryz.sizeOf9
 v9:=Tryz.zeroValue9
 t20:=Tryz.underlying20
 a20:=Tryz.isAgg20
 z20:=Tryz.sizeOf20
 v20:=Tryz.zeroValue20
 t37:=Tryz.underlying152
 a37:=Tryz.isAgg152
 z37:=Tryz.sizeOf152
 v37:=Tryz.zeroValue152
 t46:=Tryz.underlying145
 a46:=Tryz.isAgg145
 z46:=Tryz.sizeOf145
 v46:=Tryz.zeroValue145
 t51:=Tryz.underlying159
 a51:=Tryz.isAgg159
 z51:=Tryz.sizeOf159
 v51:=Tryz.zeroValue159
 t53:=Tryz.underlying50
 a53:=Tryz.isAgg50
 z53:=Tryz.sizeOf50
 v53:=Tryz.zeroValue50
 t171:=Tryz.underlying178
 a171:=Tryz.isAgg178
 z171:=Tryz.sizeOf178
 v171:=Tryz.zeroValue178
 t173:=Tryz.underlying181
 a173:=Tryz.isAgg181
 z173:=Tryz.sizeOf181
 v173:=Tryz.zeroValue181
 t212:=Tryz.underlying184
 a212:=Tryz.isAgg184
 z212:=Tryz.sizeOf184
 v212:=Tryz.zeroValue184
 t213:=Tryz.underlying185
 a213:=Tryz.isAgg185
 z213:=Tryz.sizeOf185
 t232:=Tryz.underlying193
 a232:=Tryz.isAgg193
 z232:=Tryz.sizeOf193
 v232:=Tryz.zeroValue193
 t233:=Tryz.underlying194
 a233:=Tryz.isAgg194
 z233:=Tryz.sizeOf194
 v233:=Tryz.zeroValue194
 g17:=by kernel_rfl
 g18:=by kernel_rfl
 g19:=by kernel_rfl
 i0:=by kernel_rfl
 i2:=by kernel_rfl
 i3:=by kernel_rfl
 i4:=by kernel_rfl
 i5:=by kernel_rfl
 i9:=by kernel_rfl
 i20:=by kernel_rfl
 i37:=by kernel_rfl
 i46:=by kernel_rfl
 i51:=by kernel_rfl
 i53:=by kernel_rfl
 i171:=by kernel_rfl
 i173:=by kernel_rfl
 i212:=by kernel_rfl
 i232:=by kernel_rfl
 i233:=by kernel_rfl
 m17:=by kernel_rfl
 m18:=by kernel_rfl
 m19:=by kernel_rfl}
open Go.RowKit Go.Sort Go.Lib in
theorem Tryz.strconv_AppendInt_10 (B n:Nat) (i:Int) (h0: -9223372036854775808≤i) (h1:i≤9223372036854775807) (sv:Value) (xs:List Value) (w:World) (hown:w.ownsRow B 5 1 sv n xs) (hBw:B≤w.heap.size) (hlim:n+21≤140737488355328) (htab:Lib.TabBelow Tryz.prog B w "internal/strconv.uint64pow10" .u64 Lib.pow10Tab):
  Calls Tryz.prog 78 #[sv,.int .i64 i,.int .i64 10] w fun e w'=>∃v',e= .returned v'∧w'.ownsRow B 5 1 v' (n+(Lib.itoa i).length) (xs++Lib.byteCells (Lib.itoa i))∧Below B w w'∧Lib.OthersKept 5 none w w':=Any.strconv_AppendInt_10 Tryz.laysM176 B n i h0 h1 sv xs w hown hBw hlim htab
end Go.Proofs
namespace Go.Proofs.YtjeomlickkpebaaGreatDoor
open Go.RowKit
def PowW (w:World):Prop:=Lib.TabBelow Tryz.prog w.heap.size w "internal/strconv.uint64pow10" .u64 Lib.pow10Tab
theorem PowW.below {w w':World} (h:PowW w) (hb:Below w.heap.size w w'):PowW w':=fun w2 h2=>h w2 (hb.trans (h2.mono hb.size))
def txtI:List Int→List UInt8
 | []=> []
 | a::l=>Lib.itoa a++32::txtI l
theorem txt_snoc:∀(l:List Int) (a:Int),txtI (l++ [a])=txtI l++(Lib.itoa a++ [32])
 | [],a=>by simp[txtI]
 | b::l,a=>by rw[List.cons_append,txtI,txtI,txt_snoc l a,List.append_assoc,List.cons_append]
def valD (s:List UInt8):Nat:=s.foldl (fun n c=>n*10+(c.toNat-48)) 0
theorem digit_val {u:Nat} (h:u<10):(UInt8.ofNat (48+u)).toNat=48+u:=by
 rw[UInt8.toNat_ofNat'];omega
theorem val_digits (u:Nat):valD (Lib.decDigits u)=u∧∀c,c∈Lib.decDigits u→48≤c.toNat:=by
 induction u using Nat.strongRecOn with
 | ind u ih=>
  rw[Lib.decDigits];by_cases h:u<10
  ·rw[dif_pos h];refine⟨?_,fun c hc=> ?_⟩
   ·show 0*10+((UInt8.ofNat (48+u)).toNat-48)=u;rw[digit_val h];omega
   ·rw[List.mem_singleton.1 hc,digit_val h];omega
  ·rw[dif_neg h];obtain⟨h1,h2⟩:=ih (u/10) (by omega);refine⟨?_,fun c hc=> ?_⟩
   ·unfold valD at h1 ⊢;rw[List.foldl_append,h1];show u/10*10+((UInt8.ofNat (48+u%10)).toNat-48)=u;rw[digit_val (by omega)];omega
   ·rcases List.mem_append.1 hc with hc | hc
    ·exact h2 c hc
    ·rw[List.mem_singleton.1 hc,digit_val (by omega)];omega
theorem digits_inj {u v:Nat} (h:Lib.decDigits u=Lib.decDigits v):u=v:=by rw[←(val_digits u).1,h,(val_digits v).1]
theorem itoa_no (a:Int):∀c,c∈Lib.itoa a→c≠32:=fun c hc=>by
 unfold Lib.itoa at hc;split at hc
 ·rcases List.mem_cons.1 hc with rfl | hc
  ·decide
  ·have:=(val_digits _).2 c hc;intro e;rw[e] at this;exact absurd this (by decide)
 ·have:=(val_digits _).2 c hc;intro e;rw[e] at this;exact absurd this (by decide)
theorem itoa_inj {a b:Int} (ha:0≤a) (hb:0≤b) (h:Lib.itoa a=Lib.itoa b):a=b:=by
 unfold Lib.itoa at h;rw[if_neg (by omega),if_neg (by omega)] at h;have:=digits_inj h;omega
theorem cut_same {s t:List UInt8}:∀ {p q:List UInt8},(∀c,c∈p→c≠32)→(∀c,c∈q→c≠32)→p++32::s=q++32::t→p=q∧s=t
 | [],[],_,_,h=>⟨rfl,by rw[List.nil_append,List.nil_append] at h;exact (List.cons.inj h).2⟩
 | [],c::q,_,hq,h=>by
  rw[List.nil_append,List.cons_append] at h;exact absurd (List.cons.inj h).1.symm (hq c (by simp))
 | c::p,[],hp,_,h=>by
  rw[List.nil_append,List.cons_append] at h;exact absurd (List.cons.inj h).1 (hp c (by simp))
 | c::p,d::q,hp,hq,h=>by
  rw[List.cons_append,List.cons_append] at h;obtain⟨h1,h2⟩:=List.cons.inj h;obtain⟨h3,h4⟩:=cut_same (fun x hx=>hp x (by simp[hx])) (fun x hx=>hq x (by simp[hx])) h2;exact⟨by rw[h1,h3],h4⟩
theorem txt_inj:∀ {l m:List Int},(∀a,a∈l→0≤a)→(∀a,a∈m→0≤a)→txtI l=txtI m→l=m
 | [],[],_,_,_=>rfl
 | [],b::m,_,_,h=>by
  rw[txtI,txtI] at h;have:=congrArg List.length h;rw[List.length_append,List.length_cons,List.length_nil] at this;omega
 | a::l,[],_,_,h=>by
  rw[txtI,txtI] at h;have:=congrArg List.length h;rw[List.length_append,List.length_cons,List.length_nil] at this;omega
 | a::l,b::m,hl,hm,h=>by
  rw[txtI,txtI] at h;obtain⟨h1,h2⟩:=cut_same (itoa_no a) (itoa_no b) h;rw[itoa_inj (hl a (by simp)) (hm b (by simp)) h1,txt_inj (fun x hx=>hl x (by simp[hx])) (fun x hx=>hm x (by simp[hx])) h2]
theorem Tryz.infoU8D:(Tryz.prog.info? 5).map (fun i=>(i.zero,i.size,i.bytes))=some (some (.int .u8 0),1,1):=by kernel_rfl
def OwnT (N:Nat) (w:World) (v:Value) (s:List UInt8):Prop:=w.ownsRow N 5 1 v s.length (Lib.byteCells s)
theorem OwnT.nil (N:Nat) (w:World):OwnT N w (.slice none 0 0) []:=World.ownsRow_nil _ _ _ _
theorem OwnT.form {N:Nat} {w:World} {v:Value} {s:List UInt8} (h:OwnT N w v s):∃ao cap,v= .slice ao s.length cap∧s.length≤cap:=by
 obtain⟨ao,cap,hv,hn,_⟩:=ownZ h;exact⟨ao,cap,hv,hn⟩
theorem run_snocT {N:Nat} {w:World} {v:Value} {s:List UInt8} {X:Nat} {a:UInt8} (t ty:TypeId) (ht:Tryz.prog.underlying t=some (.slice 5)) (hv:OwnT N w v s) (hX:w.cell? ⟨X,0,none⟩=some (.int .u8 (a.toNat:Int))) (hN:N≤w.heap.size) (hs:s.length≤100000000):
  ∃v' w',(Builtin.append_ #[t,t] ty #[v,.slice (some ⟨X,0,none⟩) 1 1]).run Tryz.prog w= .ok v' w'∧OwnT N w' v' (s++ [a])∧Below N w w':=by
 obtain⟨i0,hi,hz0,hz1,hz2⟩:=info_of Tryz.infoU8D;have hn:∀(j:Nat) (u:Value),[Value.int .u8 (a.toNat:Int)][j]? =some u→w.cell? ((⟨X,0,none⟩:Addr).add j)=some u:=fun j u hu=>by
  have hj:=(List.getElem?_eq_some_iff.1 hu).1;have:j=0:=by simpa using hj
  subst this;rw[rlit];simp at hu;rw[←hu];exact hX
 obtain⟨v',w',hr,hown',hgr,_,hat⟩:=run_append_own_at (P:=Tryz.prog) w N t ty 5 i0 (.int .u8 0) 1 1 ht hi hz0 hz1 hz2 rfl (by decide) v s.length (Lib.byteCells s) hv ⟨X,0,none⟩ 1 1 [.int .u8 (a.toNat:Int)] rfl hn (fun u hu=>by rw[List.mem_singleton.1 hu];rfl) (by unfold maxLen;omega) (by omega) hN;refine⟨v',w',hr,?_,⟨hgr.os,hgr.tape,hgr.output,hgr.size,fun k hk=>hgr.block k (by omega) fun e=> ?_⟩⟩
 ·unfold OwnT Lib.byteCells;rw[List.length_append,List.map_append];exact hown'
 ·have:=(World.ownsRow.lt hv k e.symm).1;omega
theorem bytesT_conv {N:Nat} {w:World} {v:Value} {s:List UInt8} (t:TypeId) (ht:Tryz.prog.underlying t=some (.slice 5)) (h:OwnT N w v s):(convert t 9 v).run Tryz.prog w= .ok (.string ⟨s.toArray⟩) w:=by
 obtain⟨ao,cap,rfl,hn,hc⟩:=ownZ h;cases ao with
 | none=>
  have h0:s= []:=by
   cases s with
   | nil=>rfl
   | cons c s=>
    obtain⟨_,_,he,_⟩:=hc 0 (.int .u8 (c.toNat:Int)) rfl;cases he
  rw[h0];exact run_convert_bytes_nil w t 5 ht Tryz.underlying5 _ _ 9 Tryz.underlying9
 | some a=>
  refine run_convert_bytes_back w t 9 5 a cap s ht Tryz.underlying5 Tryz.underlying9 (fun j hj=> ?_);obtain⟨g,o,he,_,hg⟩:=hc j (.int .u8 ((s[j]).toNat:Int)) (by unfold Lib.byteCells;rw[List.getElem?_map,List.getElem?_eq_getElem hj];rfl);cases he;rw[rlit];exact hg
section
variable {w:World} {v:Value} {l:List Int}
theorem itoa_few (a:Int) (h0:0≤a) (h1:a≤1000000):(Lib.itoa a).length≤21:=by
 exact Lib.itoa_length_le a (by omega) (by omega)
theorem txt_few:∀ {l:List Int},(∀a,a∈l→0≤a∧a≤1000000)→(txtI l).length≤l.length*22
 | [],_=>Nat.le_refl _
 | a::l,h=>by
  have h1:=itoa_few a (h a (by simp)).1 (h a (by simp)).2;have h2:=txt_few (l:=l) fun b hb=>h b (by simp[hb]);rw[txtI,List.length_append,List.length_cons,List.length_cons];omega
set_option maxRecDepth 8000 in
theorem ptext_any (h:IntsW w v l) (hp:PowW w) (hr:∀a,a∈l→0≤a∧a≤1000000) (hl:l.length≤100000):
  Calls Tryz.prog 63 #[v] w fun e w'=>e= .returned (.string ⟨(txtI l).toArray⟩)∧Below w.heap.size w w':=by
 have HI:=qh (fun (W:World) (hb:Below w.heap.size w W)=>h.below hb);have HR:=qh hr;obtain⟨n,hn⟩:∃n,l.length=n:=⟨_,rfl⟩;have HN:=qh hn;obtain⟨N,hN⟩:∃N,w.heap.size=N:=⟨_,rfl⟩;have HNN:=qh hN;have HA:=qh (fun (W:World) (hb:Below N w W) (u:Value) (s:List UInt8) (a:Int) (ho:OwnT N W u s) (hs:s.length≤3000000) (ha:0≤a∧a≤1000000)=>
  Tryz.strconv_AppendInt_10 N s.length a (by omega) (by omega) u (Lib.byteCells s) W ho (by have:=hb.size;omega) (by omega) (by rw[←hN] at hb ⊢;exact (show Lib.TabBelow _ _ _ _ _ _ from hp).on hb))
 have hform:=h.form;rw[hn] at hform hl;obtain⟨ao,cap,rfl,hcap⟩:=hform;have H0:Hid (∃u,u=Value.slice none 0 0∧OwnT N w u (txtI (l.take 0))∧Below N w w):=qh ⟨_,rfl,OwnT.nil N w,Below.refl _ _⟩;clear h hp hr hn hN;go_enter Tryz.func63,Tryz.ntmps63;go_wp2_with fail
 go_loopw [3,8] (fun s3 s8 wr=>∃i:Nat,s8= .int .i64 (i:Int)∧i≤n∧Hid (∃u,u=s3∧OwnT N wr u (txtI (l.take i))∧Below N w wr)) (fun _ s8 _=>n-(intOf s8).toNat)
 case atStart=>exact⟨0,rfl,Nat.zero_le _,H0⟩
 case round=>
  clear H0;obtain⟨i,rfl,hi,HX⟩:=hrel;obtain⟨u,hu,hX⟩:=HX.out;subst hu;have HY:=qh hX;clear HX hX;obtain⟨uo,uc,hu,huc⟩:=HY.out.1.form;subst hu;obtain⟨m,hm⟩:∃m,(txtI (l.take i)).length=m:=⟨_,rfl⟩;rw[hm] at HY huc ⊢;have i0:(0:Int)≤(i:Int):=by omega
  have i1:(i:Int)≤100000:=by omega
  by_cases hlt:i<n
  ·have hli:(i:Int)<(n:Int):=(by omega);obtain⟨a,ha⟩:∃a,l[i]? =some a:=⟨_,List.getElem?_eq_getElem (by rw[HN.out];exact hlt)⟩;obtain⟨g,o,cp,hv,_,c1⟩:=(HI.out wr (by rw[HNN.out];exact HY.out.2)).at_ ha;cases hv;have hra:=HR.out a (List.mem_of_getElem? ha);have hfew:(txtI (l.take i)).length≤3000000:=by
    have:=txt_few (l:=l.take i) fun b hb=>HR.out b (List.mem_of_mem_take hb);rw[List.length_take] at this;omega
   have HC:=qh (HA.out wr HY.out.2 _ _ a HY.out.1 hfew hra);have HT:Hid (l.take (i+1)=l.take i++ [a]):=qh (by rw[List.take_add_one,ha];rfl);have hfew2:(txtI (l.take i)++Lib.itoa a).length≤4000000:=by
    have:=itoa_few a hra.1 hra.2;rw[List.length_append];omega
   have HF:=qh hfew2;have hA:∀(W:World) u,OwnT N W u (txtI (l.take i)++Lib.itoa a)→N≤W.heap.size→∃v' w',(Builtin.append_ #[152,152] 152 #[u,.slice (some ⟨W.heap.size,0,none⟩) 1 1]).run Tryz.prog (W.alloc (.cells #[.int .u8 32] 5))= .ok v' w'∧OwnT N w' v' (txtI (l.take (i+1)))∧Below N (W.alloc (.cells #[.int .u8 32] 5)) w':=fun W u ho hN=>by
    rw[HT.out,txt_snoc,←List.append_assoc];exact run_snocT (a:=32) 152 152 Tryz.underlying152 (ownRow_keep ho (keep_below (fun _=>True) (alloc_under W _)) fun _ _=>trivial) (by
     rw[cell_of_row _ _ _ _ _ (0,0) (heap_alloc_new W _)];rfl) (by rw[alloc_size];omega) (by rw[List.length_append] at hfew2 ⊢;omega)
   have HAA:=qh hA;have HB:=qh HY.out.2;clear hra hfew hfew2 hA ha HY huc hm;go_wp2_with fail
   go_fit HC.out;rintro e w2 ⟨v2,rfl,ho2,hb2,_⟩;have ho3:OwnT N w2 v2 (txtI (l.take i)++Lib.itoa a):=by
    unfold OwnT;rw[List.length_append,Lib.byteCells_append];exact ho2
   obtain⟨o2,p2,rfl,_⟩:=ho3.form;obtain⟨m2,hm2⟩:∃m2,(txtI (l.take i)++Lib.itoa a).length=m2:=⟨_,rfl⟩;rw[hm2] at ho2 ho3 ⊢;have hw2:N≤w2.heap.size:=(by have:=HB.out.size;have:=hb2.size;have:=HNN.out;omega);obtain⟨v3,w3,hr3,ho4,hb4⟩:=HAA.out w2 _ ho3 hw2;have H3:Hid (OwnT N w3 v3 (txtI (l.take (i+1)))∧Below N w w3):=qh ⟨ho4,(HB.out.trans hb2).trans (((alloc_under w2 _).mono hw2).trans hb4)⟩;clear ho2 hb2 ho3 ho4 hb4 HC HAA hm2;go_wp2_with (at_builtin;refine napp_list (by rfl) _ _ 152 (by rfl) (by rfl) (by rfl) hr3 ?_)
   go_roundw
   case rel=>exact⟨i+1,by go_num,hlt,qh ⟨_,rfl,H3.out⟩⟩
   case measure=>simp[intOf]<;>omega
  ·have hli:¬(i:Int)<(n:Int):=(by omega);have hin:l.take i=l:=List.take_of_length_le (by rw[HN.out];omega);have hcv:=bytesT_conv 152 Tryz.underlying152 HY.out.1;rw[hin] at hcv;rw[hin] at HY;obtain⟨T,hT⟩:∃T,(txtI l).toArray=T:=⟨_,rfl⟩;rw[hT] at hcv;have HZ:Hid (⟨(txtI l).toArray⟩=(⟨T⟩:ByteArray)∧Below N w wr):=qh ⟨by rw[hT],HY.out.2⟩;clear HY hin hT huc hm;go_wp2_with fail
   go_ret
   exact⟨by rw[HZ.out.1];rfl,by rw[HNN.out];exact HZ.out.2⟩
end
end Go.Proofs.YtjeomlickkpebaaGreatDoor
namespace Go.Proofs.YtjeomlickkpebaaGreatDoor
open Go.RowKit
def PlcC (c:Col) (w:World) (v:Value) (rs:List RuN) (x:List (Nat→Bool)):Prop:=
 ∃us:List Value,us.length=rs.length∧x.length=rs.length∧CelC c w v us∧∀(i:Nat) (r:RuN) (a:Nat→Bool) (u:Value),rs[i]? =some r→x[i]? =some a→us[i]? =some u→BolC c w u r.m a
def PlcR (w:World) (v:Value) (rs:List RuN) (x:List (Nat→Bool)):Prop:=
 x.length=rs.length∧∃ao cap,v= .slice ao rs.length cap∧rs.length≤cap∧∀(i:Nat) (r:RuN) (a:Nat→Bool),rs[i]? =some r→x[i]? =some a→∃g o u,ao=some ⟨g,o,none⟩∧w.cell? ⟨g,o+i,none⟩=some u∧BolR w u r.m a
section
variable {S:Nat→Prop} {c c':Col} {w w':World} {A:Nat} {v u:Value} {rs:List RuN} {x y:List (Nat→Bool)}
theorem PlcC.step (h:PlcC c w v rs x) (hs:StepC S c c' w w') (h0:¬S 0):PlcC c' w' v rs x:=by
 obtain⟨us,h1,h2,h3,h4⟩:=h;exact⟨us,h1,h2,h3.step hs h0,fun i r a u hr ha hu=>(h4 i r a u hr ha hu).step hs h0⟩
theorem PlcR.below (h:PlcR w v rs x) (hb:Below w.heap.size w w'):PlcR w' v rs x:=by
 obtain⟨h1,ao,cap,hv,hn,hc⟩:=h;refine⟨h1,ao,cap,hv,hn,fun i r a hr ha=> ?_⟩;obtain⟨g,o,u,h2,h3,h4⟩:=hc i r a hr ha;exact⟨g,o,u,h2,(keep_below (fun _=>True) hb).cell h3 trivial,h4.below hb⟩
end
end Go.Proofs.YtjeomlickkpebaaGreatDoor
namespace Go.Proofs.YtjeomlickkpebaaGreatDoor
open Go.RowKit
section
variable {S:Nat→Prop} {c c':Col} {w w':World} {A:Nat} {T:TypeId} {v u:Value} {us:List Value}
theorem RowC.pushA {z:Value} {b:Nat} (hf:Fresh0 c w) (h:RowC c A T w v us) (t ty:TypeId) (ht:Tryz.prog.underlying t=some (.slice T)) (hi:(Tryz.prog.info? T).map (fun i=>(i.zero,i.size,i.bytes))=some (some z,1,b)) (hz:z.cells.size=1) (hb:b≤1000)
  (hu:u.oneCell'=true) (hs:us.length≤100000):
  ∃ao cap w' c',(Builtin.append_ #[t,t] ty #[v,.slice (some ⟨w.heap.size,0,none⟩) 1 1]).run Tryz.prog (w.alloc (.cells #[u] T))= .ok (.slice ao (us.length+1) cap) w'∧RowC c' A T w' (.slice ao (us.length+1) cap) (us++ [u])∧StepC (fun a=>a=A) c c' w w':=by
 have hba:=alloc_under w (.cells #[u] T);have hcell:=cell_one_new w u T 0 _ rfl;rw[rlit] at hcell;obtain⟨ao,cap,w',c',h1,h2,h3⟩:=(h.step (S:=fun _=>False) (StepC.below hf hba) (fun e=>e)).push (hf.below hba) t ty ht hi hz hb hcell hu hs;exact⟨ao,cap,w',c',h1,h2,(StepC.below hf hba).trans h3⟩
def colAt (c:Col) (A g:Nat):Col:=fun k=>if k=g then A else c k
theorem colAt_lt {g k:Nat} (h:k<g):colAt c A g k=c k:=if_neg (by omega)
theorem StepC.colAt (hf:Fresh0 c w) (o:Obj):StepC S c (colAt c A w.heap.size) w (w.alloc o) where
 keep:=keep_below _ (alloc_under w o)
 same:=fun _ hk=>colAt_lt hk
 fresh:=fun k hk=>by
  rw[alloc_size] at hk;unfold Go.Proofs.YtjeomlickkpebaaGreatDoor.colAt;rw[if_neg (by omega)];exact hf k (by omega)
theorem RowC.one:RowC (Go.Proofs.YtjeomlickkpebaaGreatDoor.colAt c A w.heap.size) A T (w.alloc (.cells #[u] T)) (.slice (some ⟨w.heap.size,0,none⟩) 1 1) [u] where
 own:=World.ownsRow_lit (base:=0) (e:=T) (size:=1) w #[u] 1 (Nat.zero_le _) (by unfold maxLen;decide) (by simp)
 col:=fun k e=>by
  have:w.heap.size=k:=Option.some.inj e;subst this;exact if_pos rfl
end
abbrev Plc:=List (Nat→Bool)
def boxD (w:World) (D:Nat) (dn dr:Value):Prop:=w.heap[D]? =some (.cells #[dn,dr] 41 (0,0))
section
variable {w w':World} {D:Nat} {dn dr:Value}
theorem boxD.lt (h:boxD w D dn dr):D<w.heap.size:=(Array.getElem?_eq_some_iff.1 h).1
theorem boxD.keep {ok:Nat→Prop} (h:boxD w D dn dr) (hk:KeepW ok w w') (ho:ok D):boxD w' D dn dr:=(hk.same D h.lt ho).trans h
end
structure AllW (w0:World) (rs:List RuN) (c:Col) (w:World) (D:Nat) (pv dn dr:Value) (xs:List Plc) (rows:List (List Int)) (rl:List Int):Prop where
 bel:Below w0.heap.size w0 w
 fr:Fresh0 c w
 old:∀k,k<w0.heap.size→c k=0
 dcol:c D=6
 box:boxD w D dn dr
 pp:∃us:List Value,us.length=xs.length∧RowC c 1 119 w pv us∧∀(i:Nat) x u,xs[i]? =some x→us[i]? =some u→PlcC c w u rs x
 dd:∃us:List Value,us.length=rows.length∧RowC c 4 39 w dn us∧∀(i:Nat) l u,rows[i]? =some l→us[i]? =some u→CelC c w u (numC l)
 rr:RowC c 5 3 w dr (numC rl)
section
variable {S:Nat→Prop} {w0 w w':World} {rs:List RuN} {c c':Col} {D:Nat} {pv dn dr u:Value} {xs:List Plc} {rows:List (List Int)} {rl row:List Int} {x:Plc}
theorem AllW.step (h:AllW w0 rs c w D pv dn dr xs rows rl) (hs:StepC S c c' w w') (hS:∀a,S a→a=2∨a=3):AllW w0 rs c' w' D pv dn dr xs rows rl:=by
 have h0:¬S 0:=fun e=>by have:=hS 0 e;omega
 have hD:=h.box.lt;obtain⟨us,p1,p2,p3⟩:=h.pp;obtain⟨vs,d1,d2,d3⟩:=h.dd
 exact⟨hs.under h.bel h.bel.size fun k hk e=>h0 (by rw[h.old k hk] at e;exact e),hs.fresh,fun k hk=>by rw[hs.same k (Nat.lt_of_lt_of_le hk h.bel.size)];exact h.old k hk,
  by rw[hs.same D hD];exact h.dcol,h.box.keep hs.keep (by rw[h.dcol];exact fun e=>by have:=hS 6 e;omega),
  ⟨us,p1,p2.step hs fun e=>by have:=hS 1 e;omega,fun i x u hx hu=>(p3 i x u hx hu).step hs h0⟩,
  ⟨vs,d1,d2.step hs fun e=>by have:=hS 4 e;omega,fun i l u hl hu=>(d3 i l u hl hu).step hs h0⟩,
  h.rr.step hs fun e=>by have:=hS 5 e;omega⟩
theorem AllW.under (h:AllW w0 rs c w D pv dn dr xs rows rl) (hb:Below w.heap.size w w'):AllW w0 rs c w' D pv dn dr xs rows rl:=h.step (S:=fun _=>False) (StepC.below h.fr hb) fun _ e=>e.elim
theorem AllW.first (h:AllW w0 rs c w D (.slice none 0 0) dn dr [] rows rl) (hx:PlcC c w u rs x):AllW w0 rs (colAt c 1 w.heap.size) (w.alloc (.cells #[u] 119)) D (.slice (some ⟨w.heap.size,0,none⟩) 1 1) dn dr [x] rows rl:=by
 have hs:=StepC.colAt (S:=fun _=>False) (A:=1) h.fr (.cells #[u] 119);obtain⟨vs,d1,d2,d3⟩:=h.dd;have hno:∀a,¬(fun _:Nat=>False) a:=fun _ e=>e
 exact⟨hs.under h.bel h.bel.size fun _ _ e=>e,hs.fresh,fun k hk=>by rw[hs.same k (Nat.lt_of_lt_of_le hk h.bel.size)];exact h.old k hk,by rw[hs.same D h.box.lt];exact h.dcol,h.box.keep hs.keep (fun e=>e),
  ⟨[u],rfl,RowC.one,fun i y v hy hv=>by
    match i,hy,hv with
    | 0,hy,hv=>cases hy;cases hv;exact hx.step hs (fun e=>e)⟩,
  ⟨vs,d1,d2.step hs (fun e=>e),fun i l v hl hv=>(d3 i l v hl hv).step hs (fun e=>e)⟩,h.rr.step hs (fun e=>e)⟩
end
section
variable {w0 w:World} {rs:List RuN} {c:Col} {D:Nat} {pv dn dr rv:Value} {xs:List Plc} {rows:List (List Int)} {rl row:List Int}
end
def GatC (c:Col) (w:World) (v:Value) (rs:List RuN) (x:Plc):Prop:=
 x.length≤rs.length∧∃us:List Value,us.length=x.length∧RowC c 3 46 w v us∧∀(i:Nat) (r:RuN) (a:Nat→Bool) (u:Value),rs[i]? =some r→x[i]? =some a→us[i]? =some u→BolC c w u r.m a
section
variable {S:Nat→Prop} {w w':World} {rs:List RuN} {c c':Col} {v u:Value} {x:Plc} {r:RuN} {a:Nat→Bool}
theorem GatC.step (h:GatC c w v rs x) (hs:StepC S c c' w w') (h0:¬S 0) (h3:¬S 3):GatC c' w' v rs x:=by
 obtain⟨h1,us,h2,h4,h5⟩:=h;exact⟨h1,us,h2,h4.step hs h3,fun i r a u hr ha hu=>(h5 i r a u hr ha hu).step hs h0⟩
end
theorem dapp_step {w w':World} {v u v':Value} {ops:Array Oper} {o:Oper} {a:Act} {K:Act→World→Prop} {Q:Exit→Act→World→Prop} {E:Prop} (hgd:o.guard=none) (s x:Operand) (t:TypeId)
  (ho:o.op= .call ⟨ .builtin .append,#[s,x],#[t,t]⟩)
  (hs:a.eval s=v) (hx:a.eval x=u) (hr:(Builtin.append_ #[t,t] o.type #[v,u]).run Tryz.prog w= .ok v' w') (h:K (a.put o.dst v') w'):
  if Region.wanted o (yielded ops a.tmps)=true then Oper.wp Tryz.prog o a w K Q else E:=by
 have hw:Region.wanted o (yielded ops a.tmps)=true:=by simp[Region.wanted,hgd]
 rw[if_pos hw];unfold Oper.wp execOp;simp only[ho,resolve,invoke,builtin,Sem.run_bind,Sem.run_pure,Result.andThen_ok,List.map_toArray,List.map_cons,List.map_nil,hs,hx,hr];exact h
end Go.Proofs.YtjeomlickkpebaaGreatDoor
namespace Go.Proofs.YtjeomlickkpebaaGreatDoor
open Go.RowKit
structure DfaR (w:World) (v:Value) (d:Dfa):Prop where
 few:d.n≤2000
 same:d.rule.length=d.n
 at_:∃B ao cap ro rc,v= .pointer (some ⟨B,0,none⟩)∧w.cell? ⟨B,0,none⟩=some (.slice ao d.n cap)∧w.cell? ⟨B,1,none⟩=some (.slice ro d.n rc)∧d.n≤cap∧IntsW w (.slice ro d.n rc) d.rule ∧
  ∀(i:Nat) l,d.next[i]? =some l→∃g o u,ao=some ⟨g,o,none⟩∧w.cell? ⟨g,o+i,none⟩=some u∧IntsW w u l
theorem DfaR.below {w w':World} {v:Value} {d:Dfa} (h:DfaR w v d) (hb:Below w.heap.size w w'):DfaR w' v d:=by
 obtain⟨h1,h2,B,ao,cap,ro,rc,hv,c0,c1,hn,hr,hl⟩:=h;have hk:=keep_below (fun _=>True) hb;refine⟨h1,h2,B,ao,cap,ro,rc,hv,hk.cell c0 trivial,hk.cell c1 trivial,hn,hr.below hb,fun i l hi=> ?_⟩;obtain⟨g,o,u,h3,h4,h5⟩:=hl i l hi;exact⟨g,o,u,h3,hk.cell h4 trivial,h5.below hb⟩
end Go.Proofs.YtjeomlickkpebaaGreatDoor
namespace Go.Proofs.YtjeomlickkpebaaGreatDoor
open Go.RowKit
section
variable {w:World} {v:Value} {d:Dfa}
theorem DfaR.row (h:DfaR w v d) (hd:OkD d) {i:Nat} (hi:i<d.n):∃B g o cap u l,v= .pointer (some ⟨B,0,none⟩)∧w.cell? ⟨B,0,none⟩=some (.slice (some ⟨g,o,none⟩) d.n cap)∧d.n≤cap∧d.next[i]? =some l∧w.cell? ⟨g,o+i,none⟩=some u∧IntsW w u l∧l.length=256∧∀b:Nat,d.to i b=l.getD b (-1):=by
 obtain⟨_,_,B,ao,cap,ro,rc,hv,c0,_,hn,_,hl⟩:=h;obtain⟨l,hl1,hl2,hl3⟩:=hd.rowAt hi;obtain⟨g,o,u,rfl,h3,h4⟩:=hl i l hl1;exact⟨B,g,o,cap,u,l,hv,c0,hn,hl1,h3,h4,hl2,hl3⟩
end
end Go.Proofs.YtjeomlickkpebaaGreatDoor
