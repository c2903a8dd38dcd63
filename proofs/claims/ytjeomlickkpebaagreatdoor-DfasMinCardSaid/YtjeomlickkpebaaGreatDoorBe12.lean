/-
  Texts of this proof, one behind the other; each begins with its own remark.
-/
import Derived.Deep.OwnRows
import Derived.Deep.CutRange
import Derived.Test.YtjeomlickkpebaaGreatDoorBe11
set_option maxHeartbeats 4000000
namespace Go.Proofs.YtjeomlickkpebaaGreatDoor
open Go.RowKit
theorem napp_list {w w':World} {v u v':Value} {ops:Array Oper} {rest:List Oper} {o:Oper} {a:Act} {Q:Exit→Act→World→Prop} (hgd:o.guard=none) (s x:Operand) (t:TypeId)
  (ho:o.op= .call ⟨ .builtin .append,#[s,x],#[t,t]⟩)
  (hs:a.eval s=v) (hx:a.eval x=u) (hr:(Builtin.append_ #[t,t] o.type #[v,u]).run Tryz.prog w= .ok v' w') (h:wpList Tryz.prog ops Q rest (a.put o.dst v') w'):wpList Tryz.prog ops Q (o::rest) a w:=by
 refine wpList_plain hgd fun K hK=> ?_;unfold Oper.wp execOp;simp only[ho,resolve,invoke,builtin,Sem.run_bind,Sem.run_pure,Result.andThen_ok,List.map_toArray,List.map_cons,List.map_nil,hs,hx,hr];exact hK _ _ h
theorem Tryz.infoBoolN:(Tryz.prog.info? 4).map (fun i=>(i.zero,i.size,i.bytes))=some (some (.bool false),1,1):=by kernel_rfl
theorem Yn:∀n,noneB n=List.replicate n false
 | 0=>rfl
 | n+1=>by rw[noneB,Yn n,List.replicate_succ]
theorem Kt (n:Nat):madeCells #[.bool false] n=(boolC (noneB n)).toArray:=by
 apply Array.ext';rw[toList_madeCells_one,Yn];simp[boolC]
theorem yr (n:Nat) (hn:n≤1000000) (w:World):(Instr.makeSlice 46 (.int .i64 (n:Int)) (.int .i64 (n:Int))).run Tryz.prog w= .ok (.slice (some ⟨w.heap.size,0,none⟩) n n) (w.alloc (.cells (boolC (noneB n)).toArray 4)):=by
 rw[←Kt];exact run_make_row' (P:=Tryz.prog) 46 4 (.bool false) 1 Tryz.underlying46 Tryz.infoBoolN rfl .i64 .i64 n (by omega) (by omega) w
theorem blkM_new (w:World) (n:Nat):yP (w.alloc (.cells (boolC (noneB n)).toArray 4)) w.heap.size (noneB n):=heap_alloc_new w _
theorem yP.keep {ok:Nat→Prop} {w w':World} {G:Nat} {l:List Bool} (h:yP w G l) (hk:KeepW ok w w') (ho:ok G):yP w' G l:=(hk.same G h.lt ho).trans h
structure ReW (w0 w:World) (G:Nat) (M:List Bool) (v:Value) (l:List Int):Prop where
 m:yP w G M
 o:Zt (G+1) w v l
 b:Below w0.heap.size w0 w
 g:w0.heap.size≤G
theorem ReW.push {w0 w:World} {G:Nat} {M:List Bool} {v:Value} {l:List Int} (h:ReW w0 w G M v l) (a:Int) (t ty:TypeId) (ht:Tryz.prog.underlying t=some (.slice 3)) (hl:l.length≤100000):
  ∃v' w',(Builtin.append_ #[t,t] ty #[v,.slice (some ⟨w.heap.size,0,none⟩) 1 1]).run Tryz.prog (w.alloc (.cells #[.int .i64 a] 3))= .ok v' w'∧ReW w0 w' G M v' (l++ [a]):=by
 have hG:=h.m.lt;have hg:=h.g;have hba:=zA w (.cells #[.int .i64 a] 3);have hm1:=h.m.keep (keep_below (fun _=>True) hba) trivial;have ho1:=h.o.below hba;have hb1:=h.b.trans (hba.mono h.b.size);obtain⟨v',w',hr,h1,h2,h3⟩:=ZP t ty ht ho1 (by have:=cell_one_new w (.int .i64 a) 3 0 _ rfl;rw[Zr] at this;exact this) (by have:=hba.size;omega) hl;have hno:∀k,k<G+1→v.ownBlock≠some k:=fun k hk e=>by have:=(World.ownsRow.lt ho1 k e).1;omega
 exact⟨v',w',hr,⟨hm1.keep h2 (hno G (by omega)),h1,KeepW.below hb1 h2 hb1.size fun k hk=>hno k (by omega),hg⟩⟩
theorem kY (q:List Sta) (M:List Bool):∀n,(qo q M n).length≤n
 | 0=>Nat.le_refl _
 | n+1=>by
  have:=kY q M n;rw[qo];split
  ·rw[List.length_append];simp;omega
  ·omega
def yZ (N:Nat) (w:World) (v:Value) (l:List Int):Prop:=jO (fun k=>N≤k) w v l.length (xK l)∧l.length≤1000000
theorem yZ.ints {N:Nat} {w:World} {v:Value} {l:List Int} (h:yZ N w v l):jG w v l:=⟨h.1.mono fun _ _ _=>trivial,h.2⟩
theorem yZ.mono {M N:Nat} {w:World} {v:Value} {l:List Int} (h:yZ N w v l) (hm:M≤N):yZ M w v l:=⟨h.1.mono fun _ _ e=>Nat.le_trans hm e,h.2⟩
theorem yZ.nil (N:Nat) (w:World):yZ N w (.slice none 0 0) []:=⟨jO.nil _ _,Nat.zero_le _⟩
section
variable {w:World} {v fv:Value} {q:List Sta} {first l:List Int}
set_option maxRecDepth 4000 in
theorem Zp (h:kD w v q first) (hq:∀(i:Nat) (s:Sta),q[i]? =some s→Zh q.length s) (hl:jG w fv l) (hi:InQ q l):
  Calls Tryz.prog 42 #[v,fv] w fun e w'=>∃r,e= .returned r∧yZ w.heap.size w' r (reachP q l)∧Below w.heap.size w w':=by
 obtain⟨B,ao,cap,_,_,hv,c0,hn,_,_,_⟩:=h.form;obtain⟨fo,fc,rfl,hfc⟩:=hl.form;have hfew:=h.few;have hflen:=hl.2;have hmk:=yr q.length (by omega) w;have hml:=(jv q hq l (noneB q.length) hi (zi _)).1;have HM:=qh (fun (k a:Nat) (W:World) (M:List Bool) (hb:Below w.heap.size w W) (hM:yP W w.heap.size M) (hm:M.length=q.length) (ha:a<q.length)=>
  Kx h hq q.length w.heap.size M a W q.length (Nat.le_refl _) (Nat.le_refl _) hb hM hm ha (by have:=Jk M;omega))
 have HI:=qh (fun (a:Nat) (W:World) (hb:Below w.heap.size w W)=>Jx (h.below hb) (a:Int) 1);have HS:=qh (show yP (w.alloc (.cells (boolC (noneB q.length)).toArray 4)) w.heap.size (noneB q.length)∧Below w.heap.size w (w.alloc (.cells (boolC (noneB q.length)).toArray 4)) from⟨blkM_new _ _,zA _ _⟩);have HL:=qh hl;have HQ:=qh hi;have HQS:=qh hq;have HML:=qh hml;obtain⟨n,hqn⟩:∃n,q.length=n:=⟨_,rfl⟩;have HN:=qh hqn;obtain⟨m,hlm⟩:∃m,l.length=m:=⟨_,rfl⟩;have HLM:=qh hlm;rw[hqn] at hmk HS hn c0 hfew;rw[hlm] at hfc hflen HL ⊢;subst hv;clear hml hi hl hq h hqn hlm;go_enter Tryz.func42,Tryz.ntmps42;go_wp2_with fail
 obtain⟨W1,hW1⟩:∃W1,w.alloc (.cells (boolC (noneB n)).toArray 4)=W1:=⟨_,rfl⟩;(try rw[hW1]);rw[hW1] at HS;clear hW1 hmk;obtain⟨G,hG⟩:∃G,w.heap.size=G:=⟨_,rfl⟩;(try rw[hG]);rw[hG] at HS HM;have HG:=qh hG;clear hG;have HS1:Hid (yP W1 G (marksP q (l.take 0) (noneB q.length))∧Below w.heap.size w W1):=by
  refine qh ⟨?_,by rw[HG.out];exact HS.out.2⟩;rw[List.take_zero,marksP,HN.out];exact HS.out.1
 clear HS;go_loopw [19] (fun s19 wr=>∃i:Nat,s19= .int .i64 (i:Int)∧i≤m∧Hid (yP wr G (marksP q (l.take i) (noneB q.length))∧Below w.heap.size w wr)) (fun s19 _=>m-(intOf s19).toNat)
 case atStart=>exact⟨0,rfl,Nat.zero_le _,HS1⟩
 case round=>
  obtain⟨i,rfl,hi,HI1⟩:=hrel;clear HS1;have i0:(0:Int)≤(i:Int):=by omega
  have ib:(i:Int)≤1000000:=by omega
  by_cases hlt:i<m
  ·have hli:(i:Int)<(m:Int):=(by omega);have hla:i<l.length:=(by have:=HLM.out;omega);have hil:l[i]? =some l[i]:=List.getElem?_eq_getElem hla;obtain⟨a,ha⟩:∃a:Nat,l[i]=(a:Int):=⟨l[i].toNat,by have:=(HQ.out l[i] (List.getElem_mem hla)).1;omega⟩;have haq:=(HQ.out l[i] (List.getElem_mem hla)).2;rw[ha] at haq hil;obtain⟨g,o,c2,hfv,_,hx⟩:=(HL.out.below HI1.out.2).at_ (i:=i) hil;injection hfv with e1 e2 e3
   subst e1;clear e2 e3;have hlen:(marksP q (l.take i) (noneB q.length)).length=q.length:=(jv q HQS.out (l.take i) (noneB q.length) (fun x hx=>HQ.out x (List.mem_of_mem_take hx)) (zi _)).1;have H1:=qh (HM.out 0 a wr _ (by rw[←HG.out];exact HI1.out.2) HI1.out.1 hlen (by omega));have HT:Hid (yI q.length q (marksP q (l.take i) (noneB q.length)) a=marksP q (l.take (i+1)) (noneB q.length)):=by
    refine qh ?_;rw[List.take_add_one,hil];show _=marksP q (l.take i++ [(a:Int)]) _;rw[Zi,Int.toNat_natCast]
   rw[HN.out] at H1;clear hil ha haq hlen hla;go_wp2_with fail
   go_fit H1.out;rintro e w2 ⟨rfl,hM2,hb2⟩;have H2:Hid (yP w2 G (marksP q (l.take (i+1)) (noneB q.length))∧Below w.heap.size w w2):=by
    refine qh ⟨?_,by rw[HG.out];exact hb2⟩;rw[←HT.out,HN.out];exact hM2
   clear hM2 hb2 hx;go_wp2_with fail
   go_roundw
   case rel=>exact⟨i+1,by go_num,hlt,H2⟩
   case measure=>simp[intOf];omega
  ·have hli:¬(i:Int)<(m:Int):=(by omega);have him:i=m:=(by omega);have H2:Hid (∃vv,vv=Value.slice none 0 0∧ReW w wr G (marksP q l (noneB q.length)) vv (qo q (marksP q l (noneB q.length)) 0)):=by
    refine qh ⟨_,rfl,?_,World.ownsRow_nil _ _ _ _,HI1.out.2,by rw[HG.out];exact Nat.le_refl _⟩;have:=HI1.out.1;rw[him,List.take_of_length_le (by rw[HLM.out];exact Nat.le_refl _)] at this;exact this
   obtain⟨M,hM⟩:∃M,marksP q l (noneB q.length)=M:=⟨_,rfl⟩;have HR:Hid (reachP q l=qo q M n):=qh (by unfold reachP;rw[hM,HN.out]);rw[hM] at H2 HML;clear him HI1 HM hM;go_wp2_with fail
   obtain⟨wo,hwo⟩:∃wo:World,wr=wo:=⟨_,rfl⟩;rw[hwo] at H2;(try rw[hwo]);clear hwo hi hlt hli i0 ib;go_loopw [8,30] (fun s8 s30 wr=>∃k:Nat,s30= .int .i64 (k:Int)∧k≤n∧Hid (∃vv,vv=s8∧ReW w wr G M vv (qo q M k))) (fun _ s30 _=>n-(intOf s30).toNat)
   case atStart=>exact⟨0,rfl,Nat.zero_le _,H2⟩
   case round=>
    obtain⟨k,rfl,hk,HK⟩:=hrel;clear H2;obtain⟨vv,hvv,hK⟩:=HK.out;subst hvv;have H3:=qh hK;clear HK hK;have k0:(0:Int)≤(k:Int):=(by omega);have kb:(k:Int)≤1000000:=(by omega);by_cases hlt:k<n
    ·have hli:(k:Int)<(n:Int):=(by omega);have hx:=H3.out.m.at_ (i:=k) (by have:=HML.out;have:=HN.out;omega) false;obtain⟨b,hb⟩:∃b,M.getD k false=b:=⟨_,rfl⟩;rw[hb] at hx;have H4:=qh (HI.out k wr H3.out.b);have hisP:isP q (k:Int) 1=decide ((q[k]?.map (·.kind))=some 1):=by
      unfold isP lookS;rw[if_pos (by omega),Int.toNat_natCast];rcases q[k]? with _ | s
      ·rfl
      ·simp only[Option.map_some,Option.some.injEq];rw[Bool.eq_iff_iff];simp
     rw[hisP] at H4;cases b with
     | false=>
      have HE:Hid (qo q M (k+1)=qo q M k):=qh (by rw[qo,if_neg (fun h=>by rw[hb] at h;exact absurd h.1 (by decide))]);clear hb hisP H4;go_wp2_with fail
      go_roundw
      case rel=>exact⟨k+1,by go_num,hlt,qh ⟨_,rfl,by rw[HE.out];exact H3.out⟩⟩
      case measure=>simp[intOf];omega
     | true=>
      obtain⟨d,hd⟩:∃d,decide ((q[k]?.map (·.kind))=some 1)=d:=⟨_,rfl⟩;rw[hd] at H4;cases d with
      | true=>
       have HE:Hid (qo q M (k+1)=qo q M k):=qh (by rw[qo,if_neg (fun h=>h.2 (of_decide_eq_true hd))]);clear hb hisP hd;go_wp2_with fail
       go_fit H4.out;rintro e w2 ⟨rfl,rfl⟩;go_wp2_with fail
       go_roundw
       case rel=>exact⟨k+1,by go_num,hlt,qh ⟨_,rfl,by rw[HE.out];exact H3.out⟩⟩
       case measure=>simp[intOf];omega
      | false=>
       have HE:Hid (qo q M (k+1)=qo q M k++ [(k:Int)]):=qh (by rw[qo,if_pos ⟨hb,of_decide_eq_false hd⟩]);have hkl:=kY q M k;obtain⟨v',w',hr,hR⟩:=H3.out.push (k:Int) 39 39 Tryz.underlying39 (by omega);have H5:=qh hR;clear hb hisP hd hkl hR;go_wp2_with fail
       go_fit H4.out;rintro e w2 ⟨rfl,rfl⟩;go_wp2_with (at_builtin;refine napp_list (by rfl) _ _ 39 (by rfl) (by rfl) (by rfl) hr ?_)
       go_roundw
       case rel=>exact⟨k+1,by go_num,hlt,qh ⟨_,rfl,by rw[HE.out];exact H5.out⟩⟩
       case measure=>simp[intOf];omega
    ·have hli:¬(k:Int)<(n:Int):=(by omega);have hkn:k=n:=(by omega);rw[hkn] at H3;have hkl:=kY q M n;have HF:=qh (show yZ w.heap.size wr vv (reachP q l)∧Below w.heap.size w wr from⟨by rw[HR.out];exact⟨(Zc H3.out.o).mono fun _ _ e=>by have:=H3.out.g;omega,by omega⟩,H3.out.b⟩);clear hkn hkl H3;go_wp2_with fail
     go_ret
     exact⟨_,rfl,HF.out⟩
end
def zFF (f:Nat→Bool):Nat→List Bool
 | 0=> []
 | m+1=>zFF f m++ [f m]
theorem qt (f:Nat→Bool):∀m,(zFF f m).length=m
 | 0=>rfl
 | m+1=>by rw[zFF,List.length_append,qt f m];rfl
theorem Ku (f:Nat→Bool):∀m i,i<m→(zFF f m).getD i false=f i
 | m+1,i,h=>by
  rw[zFF,List.getD_eq_getElem?_getD];by_cases e:i<m
  ·rw[List.getElem?_append_left (by rw[qt];exact e),←List.getD_eq_getElem?_getD,Ku f m i e]
  ·have:i=m:=(by omega);subst this;rw[List.getElem?_append_right (by rw[qt];exact Nat.le_refl _),qt,Nat.sub_self];rfl
def BolO (own:Nat→Prop) (w:World) (v:Value) (m:Nat) (f:Nat→Bool):Prop:=
 0<m∧∃g cap,v= .slice (some ⟨g,0,none⟩) m cap∧m≤cap∧¬own g∧∀j,j<m→w.cell? ⟨g,j,none⟩=some (.bool (f j))
structure Gone (own own':Nat→Prop) (w w':World):Prop where
 keep:KeepW (fun k=>¬own k) w w'
 new:∀k,own' k→own k∨w.heap.size≤k
section
variable {own own' own'':Nat→Prop} {w w' w'':World} {v:Value} {m:Nat} {f g:Nat→Bool}
theorem Gone.refl (own:Nat→Prop) (w:World):Gone own own w w:=⟨KeepW.refl _ _,fun _ h=> .inl h⟩
theorem Gone.of_below (h:Below w.heap.size w w'):Gone own own w w':=⟨keep_below _ h,fun _ h=> .inl h⟩
theorem Gone.still (h:Gone own own' w w') {k:Nat} (hk:k<w.heap.size) (ho:¬own k):¬own' k:=fun e=>by
 rcases h.new k e with h | h
 ·exact ho h
 ·omega
theorem Gone.trans (h:Gone own own' w w') (g:Gone own' own'' w' w''):Gone own own'' w w'':=
 ⟨⟨g.keep.os.trans h.keep.os,g.keep.tape.trans h.keep.tape,g.keep.output.trans h.keep.output,Nat.le_trans h.keep.size g.keep.size,fun k hk ho=>(g.keep.same k (Nat.lt_of_lt_of_le hk h.keep.size) (h.still hk ho)).trans (h.keep.same k hk ho)⟩,
  fun k e=>by
   rcases g.new k e with e | e
   ·exact h.new k e
   ·have:=h.keep.size;right;omega⟩
theorem Gone.wide (h:Gone own own' w w') (X:Nat→Prop):Gone (fun k=>own k∨X k) (fun k=>own' k∨X k) w w':=
 ⟨h.keep.mono fun _ _ ho e=>ho (.inl e),fun k e=>by
  rcases e with e | e
  ·rcases h.new k e with h1 | h1
   ·exact .inl (.inl h1)
   ·exact .inr h1
  ·exact .inl (.inr e)⟩
theorem BolO.mono {own2:Nat→Prop} (h:BolO own w v m f) (hm:∀k,k<w.heap.size→own2 k→own k):BolO own2 w v m f:=by
 obtain⟨h0,b,cap,hv,hn,ho,hc⟩:=h;exact⟨h0,b,cap,hv,hn,fun e=>ho (hm b (rlt (hc 0 h0)) e),hc⟩
theorem BolO.lt (h:BolO own w v m f):∃g cap,v= .slice (some ⟨g,0,none⟩) m cap∧m≤cap∧¬own g∧g<w.heap.size∧∀j,j<m→w.cell? ⟨g,j,none⟩=some (.bool (f j)):=by
 obtain⟨h0,g,cap,hv,hn,ho,hc⟩:=h;exact⟨g,cap,hv,hn,ho,rlt (hc 0 h0),hc⟩
theorem BolO.go (h:BolO own w v m f) (hg:Gone own own' w w'):BolO own' w' v m f:=by
 obtain⟨g,cap,hv,hn,ho,hl,hc⟩:=h.lt;exact⟨h.1,g,cap,hv,hn,hg.still hl ho,fun j hj=>hg.keep.cell (hc j hj) ho⟩
theorem BolO.under (h:BolO own w v m f) (hb:Below w.heap.size w w'):BolO own w' v m f:=h.go (Gone.of_below hb)
theorem BolO.congr (h:BolO own w v m f) (he:∀i,i<m→f i=g i):BolO own w v m g:=by
 obtain⟨h0,b,cap,hv,hn,ho,hc⟩:=h;exact⟨h0,b,cap,hv,hn,ho,fun j hj=>by rw[←he j hj];exact hc j hj⟩
theorem BolO.of_blk {G:Nat} {l:List Bool} (h:yP w G l) (hl:l.length=m) (hm:0<m) (ho:¬own G) (he:∀i,i<m→l.getD i false=f i):BolO own w (.slice (some ⟨G,0,none⟩) m m) m f:=
 ⟨hm,G,m,rfl,Nat.le_refl _,ho,fun j hj=>by rw[h.at_ (by omega) false,he j hj]⟩
theorem BolO.one {w:World} (h:BolO own w v m f):v.oneCell'=true:=by
 obtain⟨_,g,cap,rfl,_⟩:=h;rfl
end
def set4C (s:St4):List Value:= [.int .u64 (s.1:Int),.int .u64 (s.2.1:Int),.int .u64 (s.2.2.1:Int),.int .u64 (s.2.2.2:Int)]
def jT:List St4→List Value
 | []=> []
 | s::l=>set4C s++jT l
theorem Qk:∀l r,jT (l++r)=jT l++jT r
 | [],r=>rfl
 | s::l,r=>by rw[List.cons_append,jT,jT,Qk l r,List.append_assoc]
theorem Xj:∀(l:List St4) (i:Nat) (s:St4),l[i]? =some s→∀j,j<4→(jT l)[i*4+j]? =(set4C s)[j]?
 | t::l,0,s,h,j,hj=>by
  cases h;rw[jT,Nat.zero_mul,Nat.zero_add,List.getElem?_append_left (by show j<4;exact hj)]
 | t::l,i+1,s,h,j,hj=>by
  rw[jT,List.getElem?_append_right (by show 4≤_;omega),show (i+1)*4+j-(set4C t).length=i*4+j from by show (i+1)*4+j-4=_;omega];exact Xj l i s h j hj
theorem Ql:∀(l:List St4) (x:Value),x∈jT l→x.oneCell'=true
 | s::l,x,h=>by
  rw[jT,List.mem_append] at h;rcases h with h | h
  ·simp only[set4C,List.mem_cons,List.not_mem_nil,or_false] at h;rcases h with rfl | rfl | rfl | rfl<;>rfl
  ·exact Ql l x h
def zq (R:Nat) (sv bv:Value):Nat→Prop:=fun k=>k=R∨sv.ownBlock=some k∨bv.ownBlock=some k
def box3 (T:TypeId) (w:World) (R:Nat) (a b c:Value):Prop:=w.heap[R]? =some (.cells #[a,b,c] T (0,0))
section
variable {T:TypeId} {w w':World} {R:Nat} {a b c:Value}
theorem box3.lt (h:box3 T w R a b c):R<w.heap.size:=(Array.getElem?_eq_some_iff.1 h).1
theorem box3.cells (h:box3 T w R a b c):(w.cell? ⟨R,0,none⟩=some a∧w.cell? ⟨R,1,none⟩=some b∧w.cell? ⟨R,2,none⟩=some c)∧w.frozen? ⟨R,0,none⟩=false∧w.frozen? ⟨R,1,none⟩=false∧w.frozen? ⟨R,2,none⟩=false:=by
 unfold box3 at h;refine⟨⟨?_,?_,?_⟩,?_,?_,?_⟩<;>first | (unfold World.cell?;rw[h];rfl) | (unfold World.frozen?;rw[h];simp)
theorem box3.keep {ok:Nat→Prop} (h:box3 T w R a b c) (hk:KeepW ok w w') (ho:ok R):box3 T w' R a b c:=(hk.same R h.lt ho).trans h
theorem box3.under (h:box3 T w R a b c) (hb:Below w.heap.size w w'):box3 T w' R a b c:=h.keep (keep_below (fun _=>True) hb) trivial
theorem box3.set0 (h:box3 T w R a b c) (v:Value):box3 T (w.setCell ⟨R,0,none⟩ v) R v b c:=by
 unfold box3 at h ⊢;unfold World.setCell;simp only[Array.getElem?_modify,if_true,h,Option.map_some];rfl
theorem box3.set1 (h:box3 T w R a b c) (v:Value):box3 T (w.setCell ⟨R,1,none⟩ v) R a v c:=by
 unfold box3 at h ⊢;unfold World.setCell;simp only[Array.getElem?_modify,if_true,h,Option.map_some];rfl
theorem box3.set2 (h:box3 T w R a b c) (v:Value):box3 T (w.setCell ⟨R,2,none⟩ v) R a b v:=by
 unfold box3 at h ⊢;unfold World.setCell;simp only[Array.getElem?_modify,if_true,h,Option.map_some];rfl
theorem box3.new (T:TypeId) (w:World) (a b c:Value):box3 T (w.alloc (.cells #[a,b,c] T)) w.heap.size a b c:=heap_alloc_new w _
end
structure qF (X:Nat→Prop) (w:World) (R:Nat) (sv bv lv:Value) (S:List St4) (m:Nat) (E:Nat→Nat→Bool):Prop where
 b:box3 48 w R sv bv lv
 s:w.ownsRow 0 51 4 sv S.length (jT S)
 r:∃us:List Value,us.length=m∧w.ownsRow 0 46 1 bv m us∧∀k,k<m→∃u,us[k]? =some u∧BolO (fun k=>zq R sv bv k∨X k) w u m (E k)
 sR:sv.ownBlock≠some R
 bR:bv.ownBlock≠some R
 sb:∀k,sv.ownBlock=some k→bv.ownBlock≠some k
 aX:∀k,zq R sv bv k→¬X k
section
variable {X:Nat→Prop} {w w':World} {R m:Nat} {sv bv lv:Value} {S:List St4} {E:Nat→Nat→Bool}
theorem qF.under (h:qF X w R sv bv lv S m E) (hb:Below w.heap.size w w'):qF X w' R sv bv lv S m E:=by
 obtain⟨us,h1,h2,h3⟩:=h.r;refine⟨h.b.under hb,zF h.s (keep_below (fun _=>True) hb) fun _ _=>trivial,⟨us,h1,zF h2 (keep_below (fun _=>True) hb) fun _ _=>trivial,fun k hk=> ?_⟩,h.sR,h.bR,h.sb,h.aX⟩;obtain⟨u,h4,h5⟩:=h3 k hk;exact⟨u,h4,h5.under hb⟩
theorem qF.sform (h:qF X w R sv bv lv S m E):∃ao cap,sv= .slice ao S.length cap∧S.length≤cap:=by
 obtain⟨ao,cap,hv,hn,_⟩:=Zc h.s;exact⟨ao,cap,hv,hn⟩
theorem qF.row (h:qF X w R sv bv lv S m E) {k:Nat} (hk:k<m):∃g cap u,bv= .slice (some ⟨g,0,none⟩) m cap∧m≤cap∧w.cell? ⟨g,k,none⟩=some u∧w.frozen? ⟨g,k,none⟩=false∧g<w.heap.size∧BolO (fun k=>zq R sv bv k∨X k) w u m (E k):=by
 obtain⟨us,h1,h2,h3⟩:=h.r;obtain⟨u,h4,h5⟩:=h3 k hk;have h2':=h2;obtain⟨_,⟨_,h0⟩ | ⟨g,cap,cur,rfl,_,h6,hn,_⟩⟩:=h2'
 ·omega
 ·exact⟨g,cap,u,rfl,hn,by rw[h2.cellAt k (by omega)];exact h4,h2.frozenAt k,(Array.getElem?_eq_some_iff.1 h6).1,h5⟩
theorem qF.setRow (h:qF X w R sv bv lv S m E) {k g cap:Nat} (hk:k<m) (hbv:bv= .slice (some ⟨g,0,none⟩) m cap) {u:Value} {f:Nat→Bool} (hu:BolO (fun k=>zq R sv bv k∨X k) w u m f):
  qF X (w.setCell ⟨g,k,none⟩ u) R sv bv lv S m (fun i=>if i=k then f else E i)∧Gone (zq R sv bv) (zq R sv bv) w (w.setCell ⟨g,k,none⟩ u):=by
 subst hbv;obtain⟨us,h1,h2,h3⟩:=h.r;have hst:=h2.stored k u;have hkeep:KeepW (fun x=>x≠g) w (w.setCell ⟨g,k,none⟩ u):=zE g k none u w fun h=>h rfl;have hg:Gone (zq R sv (.slice (some ⟨g,0,none⟩) m cap)) (zq R sv (.slice (some ⟨g,0,none⟩) m cap)) w (w.setCell ⟨g,k,none⟩ u):=⟨hkeep.mono fun x _ ho e=>ho (.inr (.inr (by rw[e];rfl))),fun _ h=> .inl h⟩;refine⟨⟨h.b.keep hkeep fun e=>h.bR (by rw[e];rfl),zF h.s hkeep fun x e e2=>h.sb x e (by rw[e2];rfl),⟨us.set k u,by rw[List.length_set];exact h1,hst.1,fun i hi=> ?_⟩,h.sR,h.bR,h.sb,h.aX⟩,hg⟩;by_cases e:i=k
 ·subst e;refine⟨u,by rw[List.getElem?_set_self (by omega)],?_⟩;simp only[if_true];exact hu.go (hg.wide X)
 ·obtain⟨y,h4,h5⟩:=h3 i hi;refine⟨y,by rw[List.getElem?_set_ne (fun x=>e x.symm)];exact h4,?_⟩;simp only[if_neg e];exact h5.go (hg.wide X)
theorem qF.congr {F:Nat→Nat→Bool} (h:qF X w R sv bv lv S m E) (he:∀i,i<m→∀j,j<m→E i j=F i j):qF X w R sv bv lv S m F:=by
 obtain⟨us,h1,h2,h3⟩:=h.r;refine⟨h.b,h.s,⟨us,h1,h2,fun k hk=> ?_⟩,h.sR,h.bR,h.sb,h.aX⟩;obtain⟨u,h4,h5⟩:=h3 k hk;exact⟨u,h4,h5.congr fun j hj=>he k hk j hj⟩
theorem qF.ownlt (h:qF X w R sv bv lv S m E):∀k,w.heap.size≤k→¬zq R sv bv k:=fun k hk e=>by
 obtain⟨us,_,h2,_⟩:=h.r;have h3:=h.b.lt;rcases e with e | e | e
 ·omega
 ·have:=(World.ownsRow.lt h.s k e).2;omega
 ·have:=(World.ownsRow.lt h2 k e).2;omega
theorem qF.aside {c i:Nat} {y:Value} (h:qF X w R sv bv lv S m E) (hc:X c):qF X (w.setCell ⟨c,i,none⟩ y) R sv bv lv S m E:=by
 have hk:KeepW (fun k=>k≠c) w (w.setCell ⟨c,i,none⟩ y):=zE c i none y w fun h=>h rfl;have hno:∀k,zq R sv bv k→k≠c:=fun k e e2=>h.aX k e (by rw[e2];exact hc);have hg:Gone (fun k=>zq R sv bv k∨X k) (fun k=>zq R sv bv k∨X k) w (w.setCell ⟨c,i,none⟩ y):=⟨hk.mono fun k _ ho e=>ho (.inr (by rw[e];exact hc)),fun _ e=> .inl e⟩;obtain⟨us,h1,h2,h3⟩:=h.r;refine⟨h.b.keep hk (hno R (.inl rfl)),zF h.s hk fun k e=>hno k (.inr (.inl e)),⟨us,h1,zF h2 hk fun k e=>hno k (.inr (.inr e)),fun k hk2=> ?_⟩,h.sR,h.bR,h.sb,h.aX⟩;obtain⟨u,h4,h5⟩:=h3 k hk2;exact⟨u,h4,h5.go hg⟩
theorem qF.mono {X':Nat→Prop} (h:qF X w R sv bv lv S m E) (hm:∀k,k<w.heap.size→X' k→X k):qF X' w R sv bv lv S m E:=by
 have hlt:=h.ownlt;obtain⟨us,h1,h2,h3⟩:=h.r;refine⟨h.b,h.s,⟨us,h1,h2,fun k hk=> ?_⟩,h.sR,h.bR,h.sb,fun k e e2=> ?_⟩
 ·obtain⟨u,h4,h5⟩:=h3 k hk;exact⟨u,h4,h5.mono fun k hk e=>e.imp id (hm k hk)⟩
 ·by_cases hk:k<w.heap.size
  ·exact h.aX k e (hm k hk e2)
  ·exact hlt k (by omega) e
end
theorem yt:∀(l m:List Nd),zL (l++m)=zL l++zL m
 | [],m=>rfl
 | n::l,m=>by rw[List.cons_append,zL,zL,yt l m,List.append_assoc]
theorem Xk (n:Nd):zU n=if n.kind=1 then n.set::zL n.kids else zL n.kids:=by
 cases n with
 | mk k s l=>rw[zU];rfl
mutual
theorem Kv:∀(n:Nd),(zU n).length≤wtR n
 | .mk k s l=>by
  have:=Xl l;rw[zU,wtR];split
  ·rw[List.length_cons];omega
  ·omega
theorem Xl:∀(l:List Nd),(zL l).length≤wtL l
 | []=>Nat.le_refl _
 | n::l=>by
  have:=Kv n;have:=Xl l;rw[zL,List.length_append,wtL];omega
end
def Kw (n:Nd):Prop:=∀(ok:Nat→Prop) (w:World) (x:Value),zV ok w n x→wtR n≤100000→Calls Tryz.prog 48 #[x] w fun e w'=>e= .returned (.int .i64 ((zU n).length:Int))∧Below w.heap.size w w'
set_option maxRecDepth 4000 in
theorem Vj (n:Nd) (hB:∀m,m∈n.kids→Kw m):Kw n:=by
 intro ok w x hx hwt;obtain⟨hs,u,rfl,hu⟩:=hx;obtain⟨uo,uc,rfl,hul,hub⟩:=hu.form;have hb1:=zA w (.cells #[.int .i64 n.kind,.int .u64 (n.set.1:Int),.int .u64 (n.set.2.1:Int),.int .u64 (n.set.2.2.1:Int),.int .u64 (n.set.2.2.2:Int),.slice uo n.kids.length uc] 77);have HS0:=qh (And.intro (boxN.new 77 w n.kind n.set (.slice uo n.kids.length uc)) (And.intro (hu.under hb1) hb1));have hw:=qm n;have hll:=XX n.kids;have HB:=qh hB;have HSE:=qh (Xk n);obtain⟨nl,hnl⟩:∃nl,n.kids.length=nl:=⟨_,rfl⟩;have HN:=qh hnl;unfold zG;rw[hnl] at hul hub hll HS0 ⊢;have HW:Hid (wtL n.kids≤100000):=qh (by omega);have hnb:(nl:Int)≤100000:=by omega
 obtain⟨z0,hz0⟩:∃z0:Nat,z0=if n.kind=1 then 1 else 0:=⟨_,rfl⟩;have hz1:z0≤1:=by rw[hz0];split<;>omega
 have HZ:Hid ((zU n).length=z0+(zL n.kids).length):=qh (by
  rw[HSE.out,hz0];split
  ·rw[List.length_cons];omega
  ·omega)
 have hkb:(n.kind==1)=decide (z0=1):=by
  rw[hz0];by_cases h:n.kind=1
  ·rw[if_pos h,h];rfl
  ·rw[if_neg h,beq_eq_false_iff_ne.2 h];rfl
 have H0:∀W,Hid (boxN 77 W w.heap.size n.kind n.set (.slice uo nl uc)∧zW ok W n.kids (.slice uo nl uc)∧Below w.heap.size w W)→Hid (boxN 77 W w.heap.size n.kind n.set (.slice uo nl uc)∧zW ok W n.kids (.slice uo nl uc)∧Below w.heap.size w W∧z0=z0+(zL (n.kids.take 0)).length):=fun W h=>qh ⟨h.out.1,h.out.2.1,h.out.2.2,by rw[List.take_zero,zL];rfl⟩;have HS1:=H0 _ HS0;clear hu hnl hB hw hll hwt hb1 HSE H0 HS0 hz0;have hcase:z0=1∧(n.kind==1)=true∨z0=0∧(n.kind==1)=false:=by
  rcases (show z0=1∨z0=0 by omega) with e | e
  ·exact .inl ⟨e,by rw[hkb,e];rfl⟩
  ·exact .inr ⟨e,by rw[hkb,e];rfl⟩
 clear hkb;rcases hcase with ⟨e,hk⟩ | ⟨e,hk⟩
 all_goals
  have HE:=qh e;clear e hz1;go_enter Tryz.func48,Tryz.ntmps48;go_upto_region 2 with (fail)
  obtain⟨W1,hW1⟩:∃W1,w.alloc (.cells #[.int .i64 n.kind,.int .u64 (n.set.1:Int),.int .u64 (n.set.2.1:Int),.int .u64 (n.set.2.2.1:Int),.int .u64 (n.set.2.2.2:Int),.slice uo nl uc] 77)=W1:=⟨_,rfl⟩;(try rw[hW1]);rw[hW1] at HS1;clear hW1;obtain⟨b,hb⟩:∃b,w.heap.size=b:=⟨_,rfl⟩;(try rw[hb]);rw[hb] at HS1;have HBB:=qh hb;clear hb;obtain⟨⟨c0,c1,c2,c3,c4,c5⟩,_⟩:=HS1.out.1.cells;have hbl:=HS1.out.1.lt;go_wp2_with fail
  go_loopw [3,4] (fun s3 s4 wr=>∃(i z:Nat),s4= .int .i64 (i:Int)∧i≤nl∧s3= .int .i64 (z:Int)∧Hid (boxN 77 wr b n.kind n.set (.slice uo nl uc)∧zW ok wr n.kids (.slice uo nl uc)∧Below b w wr∧z=z0+(zL (n.kids.take i)).length)) (fun _ s4 _=>nl-(intOf s4).toNat)
  case atStart=>exact⟨0,z0,rfl,Nat.zero_le _,by rw[HE.out];rfl,HS1⟩
  case round=>
   obtain⟨i,z,rfl,hi,rfl,HQ⟩:=hrel;clear HS1 c0 c1 c2 c3 c4 c5 hbl;obtain⟨⟨c0,c1,c2,c3,c4,c5⟩,_⟩:=HQ.out.1.cells;have hbl:=HQ.out.1.lt;have i0:(0:Int)≤(i:Int):=(by omega);have ib:(i:Int)≤100000:=(by omega);by_cases hlt:i<nl
   ·have hli:(i:Int)<(nl:Int):=(by omega);have hla:i<n.kids.length:=(by have:=HN.out;omega);obtain⟨m,hm⟩:∃m,n.kids[i]=m:=⟨_,rfl⟩;have hil:n.kids[i]? =some m:=(by rw[List.getElem?_eq_getElem hla,hm]);have hmem:m∈n.kids:=List.mem_of_getElem? hil;obtain⟨g,o,cap,ku,hue,_,hso,hkk,hcell⟩:=HQ.out.2.1.at_ hil;obtain⟨kl,kc,rfl,_⟩:=hkk.form;injection hue with e1 e2 e3
    subst e1;clear e2 e3;have d0:=hcell 0 _ (by decide) rfl;have d1:=hcell 1 _ (by decide) rfl;have d2:=hcell 2 _ (by decide) rfl;have d3:=hcell 3 _ (by decide) rfl;have d4:=hcell 4 _ (by decide) rfl;have d5:=hcell 5 _ (by decide) rfl;simp only[Nat.add_zero,←Nat.add_assoc] at d0 d1 d2 d3 d4 d5;have hwm:=kw n.kids m hmem;have HA:=qh (HB.out m hmem ok wr (zG m (.slice kl m.kids.length kc)) ⟨hso,_,rfl,hkk⟩ (by have:=HW.out;omega));unfold zG at HA;have hz2:z+(zU m).length=z0+(zL (n.kids.take (i+1))).length:=by
     rw[List.take_add_one,hil,yt];show _=_+(zL _++zL [m]).length;rw[List.length_append,zL,zL,List.append_nil,HQ.out.2.2.2];omega
    have hzb:z+(zU m).length≤100001:=by
     have h1:=Xl (n.kids.take (i+1));have h2:wtL (n.kids.take (i+1))≤wtL n.kids:=by
      have:=congrArg wtL (List.take_append_drop (i+1) n.kids);rw[kv] at this;omega
     have h3:=HW.out;have h4:z0≤1:=(by rw[HE.out];decide);omega
    have HZ2:=qh hz2;obtain⟨cm,hcm⟩:∃cm,(zU m).length=cm:=⟨_,rfl⟩;rw[hcm] at HA HZ2 hzb;have hzw:IntKind.i64.wrap ((z:Int)+(cm:Int))=(z:Int)+(cm:Int):=(by apply IntWalk.i64_in<;>omega);have z00:(0:Int)≤(z:Int):=(by omega);have cm0:(0:Int)≤(cm:Int):=(by omega);have hzi:(z:Int)+(cm:Int)≤100001:=(by omega);clear hcell hkk hil hmem hla hm hz2 hzb hcm hwm hso;go_wp2_with fail
    go_fit HA.out;rintro e w2 ⟨rfl,hb2⟩;have H2:=qh (show boxN 77 w2 b n.kind n.set (.slice (some ⟨g,o,none⟩) nl uc)∧zW ok w2 n.kids (.slice (some ⟨g,o,none⟩) nl uc)∧Below b w w2 from⟨HQ.out.1.below hb2,HQ.out.2.1.under hb2,HQ.out.2.2.1.trans (hb2.mono (by have:=HQ.out.1.lt;omega))⟩);clear hb2 HA d0 d1 d2 d3 d4 d5 c0 c1 c2 c3 c4 c5 hbl HQ;go_wp2_with fail
    go_roundw
    case rel=>exact⟨i+1,z+cm,by go_num,hlt,by go_num,qh ⟨H2.out.1,H2.out.2.1,H2.out.2.2,HZ2.out⟩⟩
    case measure=>simp[intOf]<;>omega
   ·have hli:¬(i:Int)<(nl:Int):=(by omega);have HF:Hid (z=(zU n).length∧Below w.heap.size w wr):=qh ⟨by
     have h1:=HQ.out.2.2.2;rw[List.take_of_length_le (by have:=HN.out;omega)] at h1;rw[h1,HZ.out],by rw[HBB.out];exact HQ.out.2.2.1⟩
    clear HQ;go_wp2_with fail
    go_ret
    exact⟨by rw[←HF.out.1];rfl,HF.out.2⟩
theorem Qm:∀(N:Nat) (n:Nd),wtR n≤N→Kw n
 | 0,n,h=>absurd (Y9 n) (by omega)
 | N+1,n,h=>Vj n fun m hm=>Qm N m (by have:=kw n.kids m hm;have:=qm n;omega)
end Go.Proofs.YtjeomlickkpebaaGreatDoor
