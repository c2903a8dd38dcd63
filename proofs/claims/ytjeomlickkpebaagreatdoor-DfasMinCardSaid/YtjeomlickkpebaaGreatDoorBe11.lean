/-
  Texts of this proof, one behind the other; each begins with its own remark.
-/
import Derived.Test.YtjeomlickkpebaaGreatDoorBe8
import Derived.Test.YtjeomlickkpebaaGreatDoorBe5
import Derived.Test.YtjeomlickkpebaaGreatDoorBe10
namespace Go.Proofs.YtjeomlickkpebaaGreatDoor
open Go.RowKit
def boolC (l:List Bool):List Value:=l.map Value.bool
def yP (w:World) (G:Nat) (l:List Bool):Prop:=w.heap[G]? =some (.cells (boolC l).toArray 4 (0,0))
section
variable {w:World} {G:Nat} {l:List Bool}
theorem yP.lt (h:yP w G l):G<w.heap.size:=(Array.getElem?_eq_some_iff.1 h).1
theorem yP.at_ (h:yP w G l) {i:Nat} (hi:i<l.length) (d:Bool):w.cell? ⟨G,i,none⟩=some (.bool (l.getD i d)):=by
 rw[cell_of_row w G i _ _ (0,0) h,List.getElem?_toArray,boolC,List.getElem?_map,List.getElem?_eq_getElem hi];simp[List.getD,List.getElem?_eq_getElem hi]
theorem yP.frozen (h:yP w G l) (i:Nat):w.frozen? ⟨G,i,none⟩=false:=frozen_of_row w G i _ _ h
theorem yP.set (h:yP w G l) (i:Nat) (b:Bool):yP (w.setCell ⟨G,i,none⟩ (.bool b)) G (l.set i b):=by
 unfold yP at h ⊢;rw[heap_setCell_same w G i _ _ _ h];unfold boolC;congr 2;rw[List.map_set];simp
end
section
variable {w0:World} {v:Value} {q:List Sta} {first:List Int}
set_option maxHeartbeats 1000000 in
theorem Kx (h0:kD w0 v q first) (hq:∀(i:Nat) (s:Sta),q[i]? =some s→Zh q.length s):∀(f G:Nat) (l:List Bool) (a:Nat) (w:World) (cap:Nat),q.length≤cap→w0.heap.size≤G→Below w0.heap.size w0 w→yP w G l→l.length=q.length→a<q.length→yJ l≤f →
  Calls Tryz.prog 62 #[v,.slice (some ⟨G,0,none⟩) q.length cap,.int .i64 (a:Int)] w fun e w'=>e= .returned (.tuple #[])∧yP w' G (yI f q l a)∧Below w0.heap.size w0 w':=by
 intro f
 induction f with
 | zero=>
  intro G l a w cap hcap hG hb hM hl ha hf;have hx:=hM.at_ (i:=a) (by omega) true;rw[ky l a (by omega)] at hx;have HM:=qh (And.intro hM hb);rw[yI];clear hM hb h0 hq;have h1:(a:Int)<(q.length:Int):=by omega
  have h2:(0:Int)≤(a:Int):=by omega
  go_enter Tryz.func62,Tryz.ntmps62;go_wp2_with fail
  (try simp only[Exit.inBlock,Exit.then]);refine bodyPost_ret (results_none rfl _ _ _) rfl ?_;exact⟨rfl,HM.out⟩
 | succ f ih=>
  intro G l a w cap hcap hG hb hM hl ha hf;have hx:=hM.at_ (i:=a) (by omega) true;have h1:(a:Int)<(q.length:Int):=by omega
  have h2:(0:Int)≤(a:Int):=by omega
  rw[yI];by_cases hs:l.getD a true=true
  ·rw[if_pos hs];rw[hs] at hx;have HM:=qh (And.intro hM hb);clear hM hb h0 hq hs;go_enter Tryz.func62,Tryz.ntmps62;go_wp2_with fail
   (try simp only[Exit.inBlock,Exit.then]);refine bodyPost_ret (results_none rfl _ _ _) rfl ?_;exact⟨rfl,HM.out⟩
  rw[if_neg hs];have hs':l.getD a true=false:=by simpa using hs
  rw[hs'] at hx;have hcnt:=X2 l a hs';obtain⟨s,hsa⟩:∃s,q[a]? =some s:=⟨_,List.getElem?_eq_getElem ha⟩;obtain⟨o1,o2,_⟩:=hq a s hsa;have hfz:=hM.frozen a;have hGl:=hM.lt;have hM1:=hM.set a true;have hk1:KeepW (fun k=>k≠G) w (w.setCell ⟨G,a,none⟩ (.bool true)):=zE G a none _ w fun h=>h rfl;have hb1:Below w0.heap.size w0 (w.setCell ⟨G,a,none⟩ (.bool true)):=KeepW.below hb hk1 hb.size fun k hk=>by omega
  obtain⟨W1,hW1⟩:∃W1,w.setCell ⟨G,a,none⟩ (.bool true)=W1:=⟨_,rfl⟩;have hR1:=h0.below (w':=w.setCell ⟨G,a,none⟩ (.bool true)) hb1;have HI:=qh (Jx hR1 (a:Int) 1);rw[show isP q (a:Int) 1=(s.kind==1) by unfold isP lookS;rw[if_pos (by omega),Int.toNat_natCast,hsa]] at HI;have HX:=qh (show yP W1 G (l.set a true)∧Below w0.heap.size w0 W1 from by rw[←hW1];exact⟨hM1,hb1⟩);rw[hsa];show Calls _ _ _ _ fun e w'=>e= .returned (.tuple #[])∧yP w' G (if s.kind=1 then yI f q (yI f q (l.set a true) s.next) s.also else l.set a true)∧Below w0.heap.size w0 w';by_cases hk:s.kind=1
  ·rw[if_pos hk];rw[hk] at HI;obtain⟨B,g,o,cp,rfl,c0,hn,hc⟩:=hR1.sta hsa;have c5:=hc 5 _ (by decide) rfl;have c6:=hc 6 _ (by decide) rfl;have i5:o+(a*8+5)=o+a*8+5:=(by omega);have i6:o+(a*8+6)=o+a*8+6:=(by omega);rw[i5] at c5;rw[i6] at c6;have H1:=qh (ih G (l.set a true) s.next W1 cap hcap hG HX.out.2 HX.out.1 (by rw[List.length_set];exact hl) o1 (by omega));have hm1:=X4 q hq f (l.set a true) s.next (by rw[List.length_set];exact hl) o1 (by omega);have hm1l:=hm1.len;have hm1c:=hm1.cnt;rw[List.length_set] at hm1l;have H2:=qh (fun W (x:yP W G (yI f q (l.set a true) s.next)∧Below w0.heap.size w0 W)=>ih G (yI f q (l.set a true) s.next) s.also W cap hcap hG x.2 x.1 (by rw[hm1l];exact hl) o2 (by omega));have HC:=qh (fun W (x:Below w0.heap.size w0 W)=>by
    obtain⟨B',g',o',cp',hv',c0',hn',hc'⟩:=(h0.below x).sta hsa;cases hv';have c6':=hc' 6 _ (by decide) rfl;have i6:o'+(a*8+6)=o'+a*8+6:=(by omega);rw[i6] at c6';exact (show ∃g' o' cp',W.cell? ⟨B,0,none⟩=some (.slice (some ⟨g',o',none⟩) q.length cp')∧W.cell? ⟨g',o'+a*8+6,none⟩=some (.int .i64 (s.also:Int)) from⟨_,_,_,c0',c6'⟩))
   obtain⟨nx,hnx⟩:∃nx:Nat,s.next=nx:=⟨_,rfl⟩;obtain⟨al,hal⟩:∃al:Nat,s.also=al:=⟨_,rfl⟩;rw[hnx] at c5 H1 H2;rw[hal] at c6 HC H2;rw[hnx,hal];rw[hW1] at HI c0 c5 c6;clear hM hb h0 hq hs hs' hcnt hsa o1 o2 hM1 hk1 hb1 hR1 ih hc hm1 hm1l hm1c hnx hal i5 i6 hk;go_enter Tryz.func62,Tryz.ntmps62;go_upto_region 2 with (fail)
   (try rw[hW1]);clear hW1 hx hfz;go_wp2_with fail
   go_fit HI.out;rintro e w1 ⟨rfl,rfl⟩;go_wp2_with fail
   go_fit H1.out;rintro e w2 ⟨rfl,hM2,hb2⟩;have HX2:=qh (And.intro hM2 hb2);obtain⟨g2,o2,cp2,d0,d6⟩:=HC.out w2 hb2;clear hM2 hb2;go_wp2_with fail
   go_fit (H2.out _ HX2.out);rintro e w3 ⟨rfl,hM3,hb3⟩;have HX3:=qh (And.intro hM3 hb3);clear hM3 hb3;go_wp2_with fail
   go_end0
   exact⟨rfl,HX3.out⟩
  ·rw[if_neg hk];rw[show (s.kind==1)=false from beq_eq_false_iff_ne.2 hk] at HI;rw[hW1] at HI;clear hM hb h0 hq hs hs' hcnt hsa o1 o2 hM1 hk1 hb1 hR1 ih hk;go_enter Tryz.func62,Tryz.ntmps62;go_upto_region 2 with (fail)
   (try rw[hW1]);clear hW1 hx hfz;go_wp2_with fail
   go_fit HI.out;rintro e w1 ⟨rfl,rfl⟩;go_wp2_with fail
   go_end0
   exact⟨rfl,HX.out⟩
end
def boxN (T:TypeId) (w:World) (B:Nat) (k:Int) (s:St4) (u:Value):Prop:=w.heap[B]? =some (.cells #[.int .i64 k,.int .u64 (s.1:Int),.int .u64 (s.2.1:Int),.int .u64 (s.2.2.1:Int),.int .u64 (s.2.2.2:Int),u] T (0,0))
def ze (w:World) (B:Nat) (t:St4):World:=(((w.setCell ⟨B,1,none⟩ (.int .u64 (t.1:Int))).setCell ⟨B,2,none⟩ (.int .u64 (t.2.1:Int))).setCell ⟨B,3,none⟩ (.int .u64 (t.2.2.1:Int))).setCell ⟨B,4,none⟩ (.int .u64 (t.2.2.2:Int))
def zS (w:World) (B:Nat) (k:Int) (t:St4) (u:Value):World:=(ze (w.setCell ⟨B,0,none⟩ (.int .i64 k)) B t).setCell ⟨B,5,none⟩ u
section
variable {T:TypeId} {w w':World} {B:Nat} {k:Int} {s:St4} {u:Value}
theorem boxN.lt (h:boxN T w B k s u):B<w.heap.size:=(Array.getElem?_eq_some_iff.1 h).1
theorem boxN.cells (h:boxN T w B k s u):(w.cell? ⟨B,0,none⟩=some (.int .i64 k)∧w.cell? ⟨B,1,none⟩=some (.int .u64 (s.1:Int))∧w.cell? ⟨B,2,none⟩=some (.int .u64 (s.2.1:Int))∧w.cell? ⟨B,3,none⟩=some (.int .u64 (s.2.2.1:Int))∧w.cell? ⟨B,4,none⟩=some (.int .u64 (s.2.2.2:Int))∧w.cell? ⟨B,5,none⟩=some u)∧w.frozen? ⟨B,0,none⟩=false∧w.frozen? ⟨B,1,none⟩=false∧w.frozen? ⟨B,2,none⟩=false∧w.frozen? ⟨B,3,none⟩=false∧w.frozen? ⟨B,4,none⟩=false∧w.frozen? ⟨B,5,none⟩=false:=by
 unfold boxN at h;refine⟨⟨?_,?_,?_,?_,?_,?_⟩,?_,?_,?_,?_,?_,?_⟩<;>first | (unfold World.cell?;rw[h];rfl) | (unfold World.frozen?;rw[h];simp)
theorem boxN.below (h:boxN T w B k s u) (hb:Below w.heap.size w w'):boxN T w' B k s u:=(hb.block B h.lt).trans h
theorem boxN.keep {ok:Nat→Prop} (h:boxN T w B k s u) (hk:KeepW ok w w') (ho:ok B):boxN T w' B k s u:=(hk.same B h.lt ho).trans h
theorem boxN.set4 (h:boxN T w B k s u) (t:St4):boxN T (ze w B t) B k t u:=by
 unfold boxN at h ⊢;unfold ze;simp only[World.setCell,Array.getElem?_modify,if_true,h,Option.map_some];rfl
theorem boxN.set6 (h:boxN T w B k s u) (j:Int) (t:St4) (v:Value):boxN T (zS w B j t v) B j t v:=by
 unfold boxN at h ⊢;unfold zS ze;simp only[World.setCell,Array.getElem?_modify,if_true,h,Option.map_some];rfl
end
theorem boxN.new (T:TypeId) (w:World) (k:Int) (s:St4) (u:Value):boxN T (w.alloc (.cells #[.int .i64 k,.int .u64 (s.1:Int),.int .u64 (s.2.1:Int),.int .u64 (s.2.2.1:Int),.int .u64 (s.2.2.2:Int),u] T)) w.heap.size k s u:=heap_alloc_new _ _
theorem vW (w:World) (B:Nat) (t:St4):KeepW (fun k=>k≠B) w (ze w B t):=
 (((zE B 1 none _ w (fun h=>h rfl)).trans (zE B 2 none _ _ (fun h=>h rfl))).trans (zE B 3 none _ _ (fun h=>h rfl))).trans (zE B 4 none _ _ (fun h=>h rfl))
theorem zM (w:World) (B:Nat) (k:Int) (t:St4) (u:Value):KeepW (fun k=>k≠B) w (zS w B k t u):=
 ((zE B 0 none _ w (fun h=>h rfl)).trans (vW _ B t)).trans (zE B 5 none _ _ (fun h=>h rfl))
theorem zDF {l r:List Nat} {b:Nat} (h:vO l=some (b,r)):∃k,r=l.drop k:=by
 match l,h with
 | d::t,h=>
  simp only[vO] at h;split at h
  ·cases h;exact⟨1,rfl⟩
  split at h
  ·cases h;exact⟨1,rfl⟩
  split at h
  ·cases h;exact⟨1,rfl⟩
  split at h
  ·match t,h with
   | a::e::q,h=>
    simp only[Jr] at h;split at h
    ·cases h;exact⟨3,rfl⟩
    ·cases h
  split at h
  ·cases h;exact⟨1,rfl⟩
  ·cases h
theorem let_drop {br:Bool} {l r:List Nat} {b:Nat} (h:letR br l=some (b,r)):∃k,r=l.drop k:=by
 match l,h with
 | c::t,h=>
  simp only[letR] at h;split at h
  ·obtain⟨k,hk⟩:=zDF h;exact⟨k+1,hk⟩
  split at h
  ·cases h
  ·cases h;exact⟨1,rfl⟩
theorem qi {s:ByteArray} {i b:Nat} {br:Bool} {r:List Nat} (h:letR br (zB s i)=some (b,r)):∃k,i<k∧k≤s.size∧r=zB s k∧QQ s i br= .tuple #[.int .u8 (b:Int),.int .i64 (k:Int)]∧b<256:=by
 have h1:=let_len h;rw[rest_len] at h1;refine⟨s.size-r.length,by omega,by omega,je s i (let_drop h),?_,let_lt (Jw s i) h⟩;unfold QQ;rw[h]
theorem jU {s:ByteArray} {i:Nat} {br:Bool} (h:letR br (zB s i)=none):QQ s i br= .tuple #[.int .u8 0,.int .i64 (-1)]:=by
 unfold QQ;rw[h]
theorem rest_head (s:ByteArray) (i:Nat) (c:Nat):(zB s i).head? =some c↔atI s i=(c:Int):=by
 unfold atI;by_cases h:i<s.size
 ·rw[zH s i h,if_pos h];simp only[List.head?_cons,Option.some.injEq];omega
 ·rw[zf s i (by omega),if_neg h];simp
theorem zK (s:ByteArray) (i:Nat):(zB s i).tail=zB s (i+1):=by
 unfold zB;rw[List.tail_drop]
def Xm:Nat→List ByteArray→List (Value×Value)
 | _,[]=> []
 | j,s::ks=>(.string s,.int .i64 (j:Int))::Xm (j+1) ks
theorem Qn:∀(j:Nat) (ks:List ByteArray) (s:ByteArray),Xm j (ks++ [s])=Xm j ks++ [(.string s,.int .i64 ((j+ks.length:Nat):Int))]
 | j,[],s=>rfl
 | j,t::ks,s=>by
  rw[List.cons_append,Xm,Xm,Qn (j+1) ks s,List.cons_append,List.length_cons,show j+1+ks.length=j+(ks.length+1) by omega]
def Vk:List ByteArray→ByteArray→Nat→Option Nat
 | [],_,_=>none
 | t::ks,s,j=>if s=t then some j else Vk ks s (j+1)
def Jd (w:World) (b:Nat) (ks:List ByteArray):Prop:=∃es clock,w.heap[b]? =some (.map es clock)∧es.toList.map (fun e=>(e.key,e.val))=Xm 0 ks
theorem zG4 (s:ByteArray):∀(es:List MapEntry) (ks:List ByteArray) (j i:Nat),es.map (fun e=>(e.key,e.val))=Xm j ks →
  Instr.findNow .string (.string s) es i=some ((Vk ks s j).map fun k=>(i+(k-j),.int .i64 (k:Int)))
 | [],[],j,i,_=>rfl
 | [],t::ks,j,i,h=>by cases h
 | e::es,[],j,i,h=>by cases h
 | e::es,t::ks,j,i,h=>by
  rw[List.map_cons,Xm,List.cons.injEq,Prod.mk.injEq] at h;obtain⟨⟨h1,h2⟩,h3⟩:=h;rw[Instr.findNow,h1];unfold Vk;by_cases c:s=t
  ·subst c;have hb:(s==s)=true:=(MapKept.bytes_beq s s).2 rfl;simp only[Instr.sameNow,hb,h2];simp
  ·have hb:(s==t)=false:=by
    cases hq:s==t
    ·rfl
    ·exact absurd ((MapKept.bytes_beq s t).1 hq) c
   simp only[Instr.sameNow,hb,if_neg c];rw[zG4 s es ks (j+1) (i+1) h3];congr 1;have key:∀k,Vk ks s (j+1)=some k→j+1≤k:=by
    clear zG4 h3;intro k;generalize j+1=a
    induction ks generalizing a with
    | nil=>intro h;cases h
    | cons t ks ih=>
     intro h;rw[Vk] at h;split at h
     ·cases h;exact Nat.le_refl _
     ·have:=ih _ h;omega
   rcases hx:Vk ks s (j+1) with _ | k
   ·rfl
   ·have:=key k hx;simp only[Option.map_some];rw[show i+1+(k-(j+1))=i+(k-j) by omega]
section
variable {w w':World} {b:Nat} {ks:List ByteArray}
theorem Jd.new (w:World):Jd (w.alloc (.map #[] 0)) w.heap.size []:=⟨#[],0,heap_alloc_new _ _,rfl⟩
theorem Jd.lt (h:Jd w b ks):b<w.heap.size:=by
 obtain⟨_,_,h,_⟩:=h;exact (Array.getElem?_eq_some_iff.1 h).1
theorem Jd.keep {ok:Nat→Prop} (h:Jd w b ks) (hk:KeepW ok w w') (ho:ok b):Jd w' b ks:=by
 have hl:=h.lt;obtain⟨es,clock,h,h2⟩:=h;exact⟨es,clock,(hk.same b hl ho).trans h,h2⟩
theorem ZL (h:Jd w b ks) (s:ByteArray):∃es clock,w.heap[b]? =some (.map es clock)∧(Instr.findKey 9 (.string s) es.toList).run Tryz.prog w= .ok ((Vk ks s 0).map fun k=>(k,.int .i64 (k:Int))) w∧es.toList.map (fun e=>(e.key,e.val))=Xm 0 ks:=by
 obtain⟨es,clock,hb,he⟩:=h;refine⟨es,clock,hb,?_,he⟩;unfold Instr.findKey;simp only[Sem.run_bind,run_underlying Tryz.underlying9,Result.andThen_ok,zG4 s es.toList ks 0 0 he,Sem.run_pure,Nat.zero_add,Nat.sub_zero]
theorem Ky (em:Bool) (s:ByteArray) (w:World):(Instr.checkKey em 10000 9 (.string s)).run Tryz.prog w= .ok () w:=by
 rw[show (10000:Nat)=9999+1 from rfl,Instr.checkKey];simp[run_underlying Tryz.underlying9]
theorem zDG (h:Jd w b ks) {s:ByteArray} {k:Nat} (hk:Vk ks s 0=some k):(Instr.lookup 101 (.map (some b)) (.string s) true).run Tryz.prog w= .ok (.tuple #[.int .i64 (k:Int),.bool true]) w:=by
 obtain⟨es,clock,hb,hf,_⟩:=ZL h s;rw[hk] at hf;unfold Instr.lookup;simp only[Sem.run_bind,run_underlying Tryz.underlying101,Result.andThen_ok,MapKept.run_getObj_map hb,Sem.run_pure,Ky,hf];rfl
theorem zG5 (h:Jd w b ks) {s:ByteArray} (hk:Vk ks s 0=none):(Instr.lookup 101 (.map (some b)) (.string s) true).run Tryz.prog w= .ok (.tuple #[.int .i64 0,.bool false]) w:=by
 obtain⟨es,clock,hb,hf,_⟩:=ZL h s;rw[hk] at hf;have hz:(zeroValue 3).run Tryz.prog w= .ok (.int .i64 0) w:=by kernel_rfl
 unfold Instr.lookup;simp only[Sem.run_bind,run_underlying Tryz.underlying101,Result.andThen_ok,MapKept.run_getObj_map hb,Sem.run_pure,Ky,hf,Option.map_none,hz];rfl
theorem zDH (h:Jd w b ks) {s:ByteArray} (hk:Vk ks s 0=none) (n:Int) (hn:n=(ks.length:Int)):
  ∃w',(Instr.mapUpdate 101 (.map (some b)) (.string s) (.int .i64 n)).run Tryz.prog w= .ok () w'∧Jd w' b (ks++ [s])∧KeepW (fun k=>k≠b) w w':=by
 obtain⟨es,clock,hb,hf,he⟩:=ZL h s;rw[hk] at hf;subst hn;refine⟨{w with heap:=w.heap.setIfInBounds b (.map (es.push {key:= .string s,val:= .int .i64 (ks.length:Int),born:=clock}) (clock+1))},?_,?_,?_⟩
 ·unfold Instr.mapUpdate;simp only[Sem.run_bind,run_underlying Tryz.underlying101,Result.andThen_ok,MapKept.run_getObj_map hb,Ky,hf,Option.map_none,MapKept.run_setObj_map _ hb]
 ·refine⟨_,clock+1,(MapKept.heap_set hb).1,?_⟩;rw[Array.toList_push,List.map_append,he,Qn];rw[Nat.zero_add];rfl
 ·exact⟨rfl,rfl,rfl,by show _≤(w.heap.setIfInBounds _ _).size;rw[Array.size_setIfInBounds];exact Nat.le_refl _,fun k _ hk=>(MapKept.heap_set hb).2 k hk⟩
end
end Go.Proofs.YtjeomlickkpebaaGreatDoor
