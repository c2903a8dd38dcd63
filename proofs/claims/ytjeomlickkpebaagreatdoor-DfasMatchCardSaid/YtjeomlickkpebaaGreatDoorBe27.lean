/-
  limnerref10.atom: what it returns, where rows returns what it should from the next place on.
-/
import Derived.Test.YtjeomlickkpebaaGreatDoorBe2
import Derived.Test.YtjeomlickkpebaaGreatDoorBe26
import Derived.Test.YtjeomlickkpebaaGreatDoorBe12
import Derived.Test.YtjeomlickkpebaaGreatDoorBe6
namespace Go.Proofs.YtjeomlickkpebaaGreatDoor
open Go.RowKit
set_option linter.unusedSimpArgs false
def ResP (s:ByteArray) (N:Nat) (w':World) (R:Option (Nd×List Nat)) (e:Ending):Prop:=
 match R with
 | some (n,r)=>∃x,e= .returned (.tuple #[x,.int .i64 ((s.size-r.length:Nat):Int)])∧NodeW (fun k=>N≤k) w' n x
 | none=>∃n x,e= .returned (.tuple #[x,.int .i64 (-1)])∧NodeW (fun k=>N≤k) w' n x
def RowsC (s:ByteArray) (i:Nat):Prop:=∀w,Calls Tryz.prog 47 #[.string s,.int .i64 (i:Int)] w fun e w'=>ResP s w.heap.size w' (rwR (restR s i) [] []) e∧Below w.heap.size w w'
def AtomC (s:ByteArray) (i:Nat):Prop:=∀w,Calls Tryz.prog 66 #[.string s,.int .i64 (i:Int)] w fun e w'=>ResP s w.heap.size w' (atR (restR s i)) e∧Below w.heap.size w w'
theorem spans_drop:∀(f:Nat) (first:Bool) (S:St4) (l:List Nat) (x:St4×List Nat),spansR f first S l=some x→∃k,x.2=l.drop k
 | 0,_,_,_,_,h=>by cases h
 | f+1,first,S,l,x,h=>by
  simp only[spansR] at h;split at h
  ·cases h;exact⟨1,by simp⟩
  split at h
  ·cases h
  ·rename_i a r ha;obtain⟨k1,rfl⟩:=let_drop ha;split at h
   ·split at h
    ·cases h
    ·rename_i b u hb;obtain⟨k2,rfl⟩:=let_drop hb;split at h
     ·cases h
     ·obtain⟨k3,hk⟩:=spans_drop f _ _ _ x h;exact⟨k1+1+k2+k3,by rw[hk];simp[List.drop_drop,List.tail_drop,←List.drop_one,Nat.add_comm,Nat.add_left_comm,Nat.add_assoc]⟩
   ·obtain⟨k3,hk⟩:=spans_drop f _ _ _ x h;exact⟨k1+k3,by rw[hk,List.drop_drop]⟩
theorem bracket_drop {l r:List Nat} {n:Nd} (h:bracketR l=some (n,r)):∃k,r=l.drop k:=by
 unfold bracketR at h;split at h
 ·rcases hs:spansR (l.length+1) true noR l.tail with _ | x
  ·rw[hs] at h;cases h
  ·rw[hs] at h;cases h;obtain⟨k,hk⟩:=spans_drop _ _ _ _ _ hs;exact⟨1+k,by rw[hk,←List.drop_one,List.drop_drop]⟩
 ·rcases hs:spansR (l.length+1) true noR l with _ | x
  ·rw[hs] at h;cases h
  ·rw[hs] at h;cases h;exact spans_drop _ _ _ _ _ hs
theorem signs_drop:∀(l:List Nat) (n:Nd),∃k,(signsR n l).2=l.drop k
 | [],_=>⟨0,rfl⟩
 | c::t,n=>by
  simp only[signsR];split
  ·obtain⟨k,hk⟩:=signs_drop t (.mk (signR c:Nat) noR [n]);exact⟨k+1,by rw[hk];rfl⟩
  ·exact⟨0,rfl⟩
theorem rows_drop:∀(N:Nat) (l:List Nat),l.length≤N→(∀n r,atR l=some (n,r)→∃k,r=l.drop k)∧(∀all row n r,rwR l all row=some (n,r)→∃k,r=l.drop k)
 | N,l,hN=>by
  have hA:∀n r,atR l=some (n,r)→∃k,r=l.drop k:=by
   intro n r h;have hlt:=at_len h;have htl:l.tail.length+1=l.length:=(by rw[List.length_tail];omega);rw[at_eq] at h;split at h
   ·split at h
    ·cases h
    ·rename_i m q hq;split at h
     ·cases h;obtain⟨N,rfl⟩:∃k,N=k+1:=⟨N-1,by omega⟩;obtain⟨k,hk⟩:=(rows_drop N l.tail (by omega)).2 _ _ _ _ hq;exact⟨1+k+1,by rw[hk];simp[List.drop_drop,List.tail_drop,←List.drop_one,Nat.add_comm,Nat.add_left_comm,Nat.add_assoc]⟩
     ·cases h
   split at h
   ·obtain⟨k,hk⟩:=bracket_drop h;exact⟨1+k,by rw[hk,←List.drop_one,List.drop_drop]⟩
   split at h
   ·cases h;exact⟨1,by simp⟩
   ·rcases hs:letR false l with _ | x
    ·rw[hs] at h;cases h
    ·rw[hs] at h;cases h;exact let_drop hs
  refine⟨hA,fun all row n r h=> ?_⟩;rw[rw_eq] at h;split at h
  ·cases h;exact⟨0,rfl⟩
  split at h
  ·rename_i hc;have h4:=congrArg List.length (head_tail hc);simp only[List.length_cons] at h4;obtain⟨N,rfl⟩:∃k,N=k+1:=⟨N-1,by omega⟩;obtain⟨k,hk⟩:=(rows_drop N l.tail (by omega)).2 _ _ _ _ h;exact⟨1+k,by rw[hk,←List.drop_one,List.drop_drop]⟩
  split at h
  ·cases h
  ·rename_i m q hq;have hlt:=at_len hq;have hsl:=signs_len q m;obtain⟨k1,hk1⟩:=hA m q hq;obtain⟨k2,hk2⟩:=signs_drop q m;obtain⟨N,rfl⟩:∃k,N=k+1:=⟨N-1,by omega⟩;obtain⟨k,hk⟩:=(rows_drop N (signsR m q).2 (by omega)).2 _ _ _ _ h;exact⟨k1+k2+k,by rw[hk,hk2,hk1];simp[List.drop_drop,List.tail_drop,←List.drop_one,Nat.add_comm,Nat.add_left_comm,Nat.add_assoc]⟩
theorem rw_drop {l r:List Nat} {all row:List Nd} {n:Nd} (h:rwR l all row=some (n,r)):∃k,r=l.drop k:=(rows_drop _ l (Nat.le_refl _)).2 _ _ _ _ h
theorem at_drop {l r:List Nat} {n:Nd} (h:atR l=some (n,r)):∃k,r=l.drop k:=(rows_drop _ l (Nat.le_refl _)).1 _ _ h
theorem bracket_form {l r:List Nat} {n:Nd} (hl:∀y,y∈l→y<256) (h:bracketR l=some (n,r)):∃S,OkR S∧n= .mk 1 S []:=by
 have hg:=(bracket_good hl h).1.wf;unfold bracketR at h;split at h
 ·rcases hs:spansR (l.length+1) true noR l.tail with _ | x
  ·rw[hs] at h;cases h
  ·rw[hs] at h;cases h;rw[wfR] at hg;exact⟨_,hg.1,rfl⟩
 ·rcases hs:spansR (l.length+1) true noR l with _ | x
  ·rw[hs] at h;cases h
  ·rw[hs] at h;cases h;rw[wfR] at hg;exact⟨_,hg.1,rfl⟩
theorem brk_res {s:ByteArray} {i:Nat} {e:Ending} (h:BrkP s i e):∃(S:St4) (k:Int),e= .returned (.tuple #[nodeV (.mk 1 S []) (.slice none 0 0),.int .i64 k])∧∀N w',ResP s N w' (bracketR (restR s i)) (.returned (.tuple #[nodeV (.mk 1 S []) (.slice none 0 0),.int .i64 k])):=by
 unfold BrkP at h;unfold ResP;rcases hb:bracketR (restR s i) with _ | ⟨n,r⟩
 ·rw[hb] at h;obtain⟨S,hS,he⟩:=h;exact⟨S,-1,he,fun N w'=>⟨.mk 1 S [],_,rfl,NodeW.leaf 1 S hS⟩⟩
 ·rw[hb] at h;obtain⟨S,hS,rfl⟩:=bracket_form (rest_lt s i) hb;exact⟨S,_,h,fun N w'=>⟨_,rfl,NodeW.leaf 1 S hS⟩⟩
theorem res_leaf {s:ByteArray} {N:Nat} {w':World} (k:Int) (S:St4) (hS:OkR S) (r:List Nat) (p:Int) (hp:((s.size-r.length:Nat):Int)=p):ResP s N w' (some (.mk k S [],r)) (.returned (.tuple #[nodeV (.mk k S []) (.slice none 0 0),.int .i64 p])):=by
 rw[←hp];exact⟨_,rfl,NodeW.leaf k S hS⟩
theorem res_no {s:ByteArray} {N:Nat} {w':World} (n:Nd) (x:Value) (h:NodeW (fun k=>N≤k) w' n x):ResP s N w' none (.returned (.tuple #[x,.int .i64 (-1)])):=⟨n,x,rfl,h⟩
set_option maxRecDepth 4000 in
set_option maxHeartbeats 16000000 in
theorem ratom_of (s:ByteArray) (i:Nat) (hi:i≤s.size) (hs:s.size≤1000) (HR:i<s.size→RowsC s (i+1)):AtomC s i:=by
 intro w;have HAT:=qh (fun i W (h:i≤100000)=>rat_any s i W h);have i0:(0:Int)≤(i:Int):=by omega
 have i1:(i:Int)≤1000:=by omega
 have hat:=at_eq (restR s i);have e1:((i+1:Nat):Int)=(i:Int)+1:=by omega
 have hb1:=alloc_under w (.cells #[.int .i64 0,.int .u64 0,.int .u64 0,.int .u64 0,.int .u64 0,.slice none 0 0] 77);have hsz1:=alloc_size w (.cells #[.int .i64 0,.int .u64 0,.int .u64 0,.int .u64 0,.int .u64 0,.slice none 0 0] 77);have hbx1:=boxN.new 77 w 0 noR (.slice none 0 0);have HA:=qh (HAT.out i (w.alloc (.cells #[.int .i64 0,.int .u64 0,.int .u64 0,.int .u64 0,.int .u64 0,.slice none 0 0] 77)) (by omega));obtain⟨W1,hW1⟩:∃W1,w.alloc (.cells #[.int .i64 0,.int .u64 0,.int .u64 0,.int .u64 0,.int .u64 0,.slice none 0 0] 77)=W1:=⟨_,rfl⟩;have hbx1':boxN 77 W1 w.heap.size 0 noR (.slice none 0 0):=by rw[←hW1];exact hbx1
 rw[hW1] at hb1 hsz1;have HB1:=qh (show Below w.heap.size w W1∧W1.heap.size=w.heap.size+1∧boxN 77 W1 w.heap.size 0 noR (.slice none 0 0) from⟨hb1,hsz1,hbx1'⟩);have HW1:=qh hW1;clear hb1 hsz1 hbx1 hbx1' hW1;by_cases h91:atI s i=91
 ·have h91r:=(rest_head s i 91).2 h91;have his:i<s.size:=Classical.byContradiction fun hn=>by have h9:atI s i= -1:=if_neg hn;omega
  rw[h91r,if_neg (by decide),if_pos rfl,rest_tail] at hat;rw[h91] at HA;have hbr:=fun W=>(rbracket_any s (i+1) W (by omega) hs).mono fun e w' h=>And.intro (brk_res h.1) h.2;simp only[←hat,e1] at hbr;have HBR:=qh hbr;clear h91 h91r hat HR e1 hbr;go_enter Tryz.func66,Tryz.ntmps66;go_wp2_with fail
  go_fit HA.out;rintro e w2 ⟨rfl,rfl⟩;go_wp2_with fail
  (try rw[HW1.out]);go_fit (HBR.out _);rintro e w3 ⟨⟨S,k,rfl,hP⟩,hb3⟩;have HP:=qh hP;have HB3:=qh (show boxN 77 w3 w.heap.size 0 noR (.slice none 0 0)∧Below w.heap.size w w3 from⟨HB1.out.2.2.below hb3,HB1.out.1.trans (hb3.mono (by have:=HB1.out.2.1;omega))⟩);unfold nodeV;simp only[Nd.kind,Nd.set];clear hP hb3;have hbx:=HB3.out.1;have hbl:=HB3.out.2;obtain⟨⟨a0,a1,a2,a3,a4,a5⟩,fa0,fa1,fa2,fa3,fa4,fa5⟩:=hbx.cells;have hAlt:=hbx.lt;have hD1:=hbx.set6 (1) (S) (.slice none 0 0);have hD2:=KeepW.below hbl (keep_set6N w3 w.heap.size (1) (S) (.slice none 0 0)) (by omega) (fun k hk=>by omega);obtain⟨⟨y0,y1,y2,y3,y4,y5⟩,_⟩:=hD1.cells;unfold set6N set4N at y0 y1 y2 y3 y4 y5 hD2;have Y0:=qh y0;have Y1:=qh y1;have Y2:=qh y2;have Y3:=qh y3;have Y4:=qh y4;have Y5:=qh y5;have HDB:=qh hD2;clear hD1 hD2 y0 y1 y2 y3 y4 y5 hbx hbl;go_wp2_with fail
  have y0:=Y0.out;have y1:=Y1.out;have y2:=Y2.out;have y3:=Y3.out;have y4:=Y4.out;have y5:=Y5.out;exact bodyPost_ret (v:= .tuple #[.agg #[.int .i64 1,.int .u64 ((S).1:Int),.int .u64 ((S).2.1:Int),.int .u64 ((S).2.2.1:Int),.int .u64 ((S).2.2.2:Int),.slice none 0 0],.int .i64 k]) (by simp[results,Tryz.results66,go_sem,y0,y1,y2,y3,y4,y5]) rfl ⟨HP.out _ _,HDB.out⟩
 by_cases h46:atI s i=46
 ·have h46r:=(rest_head s i 46).2 h46;have his:i<s.size:=Classical.byContradiction fun hn=>by have h9:atI s i= -1:=if_neg hn;omega
  rw[h46r,if_neg (by decide),if_neg (by decide),if_pos rfl,rest_tail] at hat;rw[h46] at HA;have hP:∀N w',ResP s N w' (atR (restR s i)) (.returned (.tuple #[nodeV (.mk 1 (withR (withR noR 0 10) 11 245) []) (.slice none 0 0),.int .i64 ((i:Int)+1)])):=fun N w'=>by rw[hat];exact res_leaf 1 _ (ok_with _ _ _ (by omega) (ok_with _ _ _ (by omega) ok_no)) _ _ (by rw[rest_len];omega)
  have hw1:=fun W=>rwith_any noR 0 9 W ok_no (by omega);have hw2:=fun W=>rwith_any (withR noR 0 10) 11 255 W (ok_with _ _ _ (by omega) ok_no) (by omega);simp only[show 9+1-0=10 from rfl] at hw1;simp only[show 255+1-11=245 from rfl] at hw2;obtain⟨S1,hS1⟩:∃S1,withR noR 0 10=S1:=⟨_,rfl⟩;simp only[hS1] at hw1 hw2 hP;obtain⟨S,hS⟩:∃S,withR S1 11 245=S:=⟨_,rfl⟩;simp only[hS] at hw2 hP;have HP:=qh hP;have HWA:=qh hw1;have HWB:=qh hw2;unfold setV at HWA HWB;clear h46 h46r hat HR e1 hP hw1 hw2 hS hS1;go_enter Tryz.func66,Tryz.ntmps66;go_wp2_with fail
  go_fit HA.out;rintro e w2 ⟨rfl,rfl⟩;go_wp2_with fail
  (try rw[HW1.out]);go_fit (HWA.out _);rintro e w3 ⟨rfl,hb3⟩;go_wp2_with fail
  go_fit (HWB.out _);rintro e w4 ⟨rfl,hb4⟩;have HB3:=qh (show boxN 77 w4 w.heap.size 0 noR (.slice none 0 0)∧Below w.heap.size w w4 from⟨(HB1.out.2.2.below hb3).below hb4,(HB1.out.1.trans (hb3.mono (by have:=HB1.out.2.1;omega))).trans (hb4.mono (by have:=HB1.out.2.1;have:=hb3.size;omega))⟩);clear hb3 hb4;have hbx:=HB3.out.1;have hbl:=HB3.out.2;obtain⟨⟨a0,a1,a2,a3,a4,a5⟩,fa0,fa1,fa2,fa3,fa4,fa5⟩:=hbx.cells;have hAlt:=hbx.lt;have hD1:=hbx.set6 (1) (S) (.slice none 0 0);have hD2:=KeepW.below hbl (keep_set6N w4 w.heap.size (1) (S) (.slice none 0 0)) (by omega) (fun k hk=>by omega);obtain⟨⟨y0,y1,y2,y3,y4,y5⟩,_⟩:=hD1.cells;unfold set6N set4N at y0 y1 y2 y3 y4 y5 hD2;have Y0:=qh y0;have Y1:=qh y1;have Y2:=qh y2;have Y3:=qh y3;have Y4:=qh y4;have Y5:=qh y5;have HDB:=qh hD2;clear hD1 hD2 y0 y1 y2 y3 y4 y5 hbx hbl;go_wp2_with fail
  have y0:=Y0.out;have y1:=Y1.out;have y2:=Y2.out;have y3:=Y3.out;have y4:=Y4.out;have y5:=Y5.out;exact bodyPost_ret (v:= .tuple #[.agg #[.int .i64 1,.int .u64 ((S).1:Int),.int .u64 ((S).2.1:Int),.int .u64 ((S).2.2.1:Int),.int .u64 ((S).2.2.2:Int),.slice none 0 0],.int .i64 ((i:Int)+1)]) (by simp[results,Tryz.results66,go_sem,y0,y1,y2,y3,y4,y5]) rfl ⟨HP.out _ _,HDB.out⟩
 by_cases h40:atI s i=40;case neg=>
  have r40:¬(restR s i).head? =some 40:=fun h=>h40 ((rest_head s i 40).1 h);have r91:¬(restR s i).head? =some 91:=fun h=>h91 ((rest_head s i 91).1 h);have r46:¬(restR s i).head? =some 46:=fun h=>h46 ((rest_head s i 46).1 h);rw[if_neg r40,if_neg r91,if_neg r46] at hat;obtain⟨c,hc⟩:∃c,atI s i=c:=⟨_,rfl⟩;rw[hc] at HA h40 h91 h46;have b40:(c==40)=false:=beq_eq_false_iff_ne.2 h40;have b91:(c==91)=false:=beq_eq_false_iff_ne.2 h91;have b46:(c==46)=false:=beq_eq_false_iff_ne.2 h46;clear h40 h91 h46 r40 r91 r46 hc HR;rcases hL:letR false (restR s i) with _ | ⟨b,r⟩
  ·rw[hL] at hat;have hP:∀N w',ResP s N w' (atR (restR s i)) (.returned (.tuple #[nodeV emptyR (.slice none 0 0),.int .i64 (-1)])):=fun N w'=>(by rw[hat];exact res_no emptyR _ (NodeW.leaf 0 noR ok_no));have HL:Hid (∀W,Calls Tryz.prog 81 #[.string s,.int .i64 (i:Int),.bool false] W fun e w'=>e= .returned (.tuple #[.int .u8 0,.int .i64 (-1)])∧∃m,w'=W.drewN m):=fun W=>(by have h9:=rletter_any s i false W (by omega);rw[let_not hL] at h9;exact h9);have HP:=qh hP;clear hP hL hat;go_enter Tryz.func66,Tryz.ntmps66;go_wp2_with fail
   go_fit HA.out;rintro e w2 ⟨rfl,rfl⟩;go_wp2_with fail
   (try rw[HW1.out]);go_fit (HL.out _);rintro e w3 ⟨rfl,m3,hw3⟩;have hb3:Below W1.heap.size W1 w3:=(by rw[hw3];exact below_drewN (Below.refl _ _) m3);have HB3:=qh (show boxN 77 w3 w.heap.size 0 noR (.slice none 0 0)∧Below w.heap.size w w3 from⟨HB1.out.2.2.below hb3,HB1.out.1.trans (hb3.mono (by have:=HB1.out.2.1;omega))⟩);clear hb3 hw3;have hbx:=HB3.out.1;have hbl:=HB3.out.2;obtain⟨⟨a0,a1,a2,a3,a4,a5⟩,fa0,fa1,fa2,fa3,fa4,fa5⟩:=hbx.cells;have hAlt:=hbx.lt;have hD1:=hbx.set6 (0) (noR) (.slice none 0 0);have hD2:=KeepW.below hbl (keep_set6N w3 w.heap.size (0) (noR) (.slice none 0 0)) (by omega) (fun k hk=>by omega);obtain⟨⟨y0,y1,y2,y3,y4,y5⟩,_⟩:=hD1.cells;unfold set6N set4N at y0 y1 y2 y3 y4 y5 hD2;simp only[show ((noR.1:Nat):Int)=0 from rfl,show ((noR.2.1:Nat):Int)=0 from rfl,show ((noR.2.2.1:Nat):Int)=0 from rfl,show ((noR.2.2.2:Nat):Int)=0 from rfl] at y0 y1 y2 y3 y4 y5 hD2;have Y0:=qh y0;have Y1:=qh y1;have Y2:=qh y2;have Y3:=qh y3;have Y4:=qh y4;have Y5:=qh y5;have HDB:=qh hD2;clear hD1 hD2 y0 y1 y2 y3 y4 y5 hbx hbl;go_wp2_with fail
   have y0:=Y0.out;have y1:=Y1.out;have y2:=Y2.out;have y3:=Y3.out;have y4:=Y4.out;have y5:=Y5.out;exact bodyPost_ret (v:= .tuple #[.agg #[.int .i64 0,.int .u64 0,.int .u64 0,.int .u64 0,.int .u64 0,.slice none 0 0],.int .i64 (-1)]) (by simp[results,Tryz.results66,go_sem,y0,y1,y2,y3,y4,y5]) rfl ⟨HP.out _ _,HDB.out⟩
  ·obtain⟨k,hik,hks,hr,hv,hb⟩:=let_at hL;rw[hL] at hat;have hP:∀N w',ResP s N w' (atR (restR s i)) (.returned (.tuple #[nodeV (.mk 1 (withR noR b (b+1-b)) []) (.slice none 0 0),.int .i64 (k:Int)])):=fun N w'=>(by rw[hat,show b+1-b=1 by omega,hr];exact res_leaf 1 _ (ok_with _ _ _ (by omega) ok_no) _ _ (by rw[rest_len];omega));have HL:Hid (∀W,Calls Tryz.prog 81 #[.string s,.int .i64 (i:Int),.bool false] W fun e w'=>e= .returned (.tuple #[.int .u8 (b:Int),.int .i64 (k:Int)])∧∃m,w'=W.drewN m):=fun W=>(by have h9:=rletter_any s i false W (by omega);rw[hv] at h9;exact h9);have hw1:=fun W=>rwith_any noR b b W ok_no hb;obtain⟨S,hS⟩:∃S,withR noR b (b+1-b)=S:=⟨_,rfl⟩;simp only[hS] at hw1 hP;have HP:=qh hP;have HWA:=qh hw1;unfold setV at HWA;have k0:(0:Int)≤(k:Int):=(by omega);have b0:(0:Int)≤(b:Int):=(by omega);have b255:(b:Int)≤255:=(by omega);clear hP hL hat hw1 hS hr hv;go_enter Tryz.func66,Tryz.ntmps66;go_wp2_with fail
   go_fit HA.out;rintro e w2 ⟨rfl,rfl⟩;go_wp2_with fail
   (try rw[HW1.out]);go_fit (HL.out _);rintro e w3 ⟨rfl,m3,hw3⟩;have hb3:Below W1.heap.size W1 w3:=(by rw[hw3];exact below_drewN (Below.refl _ _) m3);have HB3:=qh hb3;clear hb3 hw3;go_wp2_with fail
   go_fit (HWA.out _);rintro e w4 ⟨rfl,hb4⟩;have hb5:Below W1.heap.size W1 w4:=HB3.out.trans (hb4.mono HB3.out.size);clear HB3;have HB3:=qh (show boxN 77 w4 w.heap.size 0 noR (.slice none 0 0)∧Below w.heap.size w w4 from⟨HB1.out.2.2.below hb5,HB1.out.1.trans (hb5.mono (by have:=HB1.out.2.1;omega))⟩);clear hb4 hb5;have hbx:=HB3.out.1;have hbl:=HB3.out.2;obtain⟨⟨a0,a1,a2,a3,a4,a5⟩,fa0,fa1,fa2,fa3,fa4,fa5⟩:=hbx.cells;have hAlt:=hbx.lt;have hD1:=hbx.set6 (1) (S) (.slice none 0 0);have hD2:=KeepW.below hbl (keep_set6N w4 w.heap.size (1) (S) (.slice none 0 0)) (by omega) (fun k hk=>by omega);obtain⟨⟨y0,y1,y2,y3,y4,y5⟩,_⟩:=hD1.cells;unfold set6N set4N at y0 y1 y2 y3 y4 y5 hD2;have Y0:=qh y0;have Y1:=qh y1;have Y2:=qh y2;have Y3:=qh y3;have Y4:=qh y4;have Y5:=qh y5;have HDB:=qh hD2;clear hD1 hD2 y0 y1 y2 y3 y4 y5 hbx hbl;go_wp2_with fail
   have y0:=Y0.out;have y1:=Y1.out;have y2:=Y2.out;have y3:=Y3.out;have y4:=Y4.out;have y5:=Y5.out;exact bodyPost_ret (v:= .tuple #[.agg #[.int .i64 1,.int .u64 ((S).1:Int),.int .u64 ((S).2.1:Int),.int .u64 ((S).2.2.1:Int),.int .u64 ((S).2.2.2:Int),.slice none 0 0],.int .i64 (k:Int)]) (by simp[results,Tryz.results66,go_sem,y0,y1,y2,y3,y4,y5]) rfl ⟨HP.out _ _,HDB.out⟩
 case pos=>
  have h40r:=(rest_head s i 40).2 h40;have his:i<s.size:=Classical.byContradiction fun hn=>by have h9:atI s i= -1:=if_neg hn;omega
  rw[h40r,if_pos rfl,rest_tail] at hat;rw[h40] at HA;have hr:=HR his;clear h40 h91 h46 h40r;rcases hq:rwR (restR s (i+1)) [] [] with _ | ⟨q,r⟩
  ·rw[hq] at hat;have hrr:∀W,Calls Tryz.prog 47 #[.string s,.int .i64 ((i:Int)+1)] W fun e w'=>∃n uo un uc,e= .returned (.tuple #[.agg #[.int .i64 n.kind,.int .u64 ((n.set).1:Int),.int .u64 ((n.set).2.1:Int),.int .u64 ((n.set).2.2.1:Int),.int .u64 ((n.set).2.2.2:Int),.slice uo un uc],.int .i64 (-1)])∧True∧NodeW (fun k=>W.heap.size≤k) w' n (nodeV n (.slice uo un uc))∧Below W.heap.size W w':=fun W=>by
    have h9:=hr W;rw[hq,e1] at h9;refine h9.mono ?_;rintro e w3 ⟨hP,hb⟩;obtain⟨n,x,he,hn,hnq⟩:∃n x,e= .returned (.tuple #[x,.int .i64 (-1)])∧NodeW (fun k=>W.heap.size≤k) w3 n x∧True:=(by obtain⟨n,x,he,hn⟩:=hP;exact⟨n,x,he,hn,trivial⟩);obtain⟨h1,u,rfl,h2⟩:=hn;obtain⟨uo,uc,rfl,_⟩:=h2.form;exact⟨n,uo,_,uc,he,hnq,⟨h1,_,rfl,h2⟩,hb⟩
   have HP:Hid (∀N w' n x,NodeW (fun k=>N≤k) w' n x→ResP s N w' (atR (restR s i)) (.returned (.tuple #[x,.int .i64 (-1)]))):=fun N w' n x h=>(by rw[hat];exact res_no n x h);have HRR:=qh hrr;clear hrr hr HR hq hat e1;go_enter Tryz.func66,Tryz.ntmps66;go_wp2_with fail
   go_fit HA.out;rintro e w2 ⟨rfl,rfl⟩;go_wp2_with fail
   (try rw[HW1.out]);go_fit (HRR.out _);rintro e w3 ⟨n,uo,un,uc,rfl,_,hn,hb3⟩;have hlt3:w.heap.size<w3.heap.size:=(by have:=HB1.out.2.1;have:=hb3.size;omega);have hb4:=alloc_under w3 (.cells #[.int .i64 n.kind,.int .u64 (n.set.1:Int),.int .u64 (n.set.2.1:Int),.int .u64 (n.set.2.2.1:Int),.int .u64 (n.set.2.2.2:Int),.slice uo un uc] 77);have hc4:=boxN.new 77 w3 n.kind n.set (.slice uo un uc);have ha4:=(HB1.out.2.2.below hb3).below hb4;have hl4:=(HB1.out.1.trans (hb3.mono (by have:=HB1.out.2.1;omega))).trans (hb4.mono (by omega));have hn4:=hn.below hb4;obtain⟨W4,hW4⟩:∃W4,w3.alloc (.cells #[.int .i64 n.kind,.int .u64 (n.set.1:Int),.int .u64 (n.set.2.1:Int),.int .u64 (n.set.2.2.1:Int),.int .u64 (n.set.2.2.2:Int),.slice uo un uc] 77)=W4:=⟨_,rfl⟩;rw[hW4] at hb4 hc4 ha4 hl4 hn4;obtain⟨C,hC⟩:∃C,w3.heap.size=C:=⟨_,rfl⟩;rw[hC] at hc4 hlt3;have hs1:=HB1.out.2.1;rw[hs1] at hn4;have HB4:=qh (show boxN 77 W4 w.heap.size 0 noR (.slice none 0 0)∧boxN 77 W4 C n.kind n.set (.slice uo un uc)∧Below w.heap.size w W4∧NodeW (fun k=>w.heap.size+1≤k) W4 n (nodeV n (.slice uo un uc)) from⟨ha4,hc4,hl4,hn4⟩);have HW4:=qh hW4;have HC:=qh hC;clear hb4 hc4 ha4 hl4 hn4 hW4 hC hs1 hn hb3;go_upto_region 4 with (fail)
   (try rw[HW4.out]);(try rw[HC.out]);clear HW4 HC;have hbx:=HB4.out.1;have hbl:=HB4.out.2.2.1;obtain⟨⟨a0,a1,a2,a3,a4,a5⟩,fa0,fa1,fa2,fa3,fa4,fa5⟩:=hbx.cells;have hAlt:=hbx.lt;have hD1:=hbx.set6 (n.kind) (n.set) (.slice uo un uc);have hD2:=KeepW.below hbl (keep_set6N W4 w.heap.size (n.kind) (n.set) (.slice uo un uc)) (by omega) (fun k hk=>by omega);obtain⟨⟨y0,y1,y2,y3,y4,y5⟩,_⟩:=hD1.cells;unfold set6N set4N at y0 y1 y2 y3 y4 y5 hD2;have Y0:=qh y0;have Y1:=qh y1;have Y2:=qh y2;have Y3:=qh y3;have Y4:=qh y4;have Y5:=qh y5;have HDB:=qh hD2;clear hD1 hD2 y0 y1 y2 y3 y4 y5 hbx hbl;have hnf:=(HB4.out.2.2.2.keep (keep_set6N W4 w.heap.size n.kind n.set (.slice uo un uc)) (fun k _ hk e=>by have h8:w.heap.size+1≤k:=hk;omega)).mono (ok':=fun k=>w.heap.size≤k) (fun k _ hk=>by have h8:w.heap.size+1≤k:=hk;show w.heap.size≤k;omega);unfold set6N set4N at hnf;have HNF:=qh hnf;clear hnf;obtain⟨⟨c0,c1,c2,c3,c4,c5⟩,fc0,fc1,fc2,fc3,fc4,fc5⟩:=HB4.out.2.1.cells;have hClt:=HB4.out.2.1.lt;have hne:w.heap.size≠C:=(by omega);go_wp2_with fail
   have y0:=Y0.out;have y1:=Y1.out;have y2:=Y2.out;have y3:=Y3.out;have y4:=Y4.out;have y5:=Y5.out;exact bodyPost_ret (v:= .tuple #[.agg #[.int .i64 n.kind,.int .u64 ((n.set).1:Int),.int .u64 ((n.set).2.1:Int),.int .u64 ((n.set).2.2.1:Int),.int .u64 ((n.set).2.2.2:Int),.slice uo un uc],.int .i64 (-1)]) (by simp[results,Tryz.results66,go_sem,y0,y1,y2,y3,y4,y5]) rfl ⟨HP.out _ _ n _ HNF.out,HDB.out⟩
  ·rw[hq] at hat;have hrl:=rw_len hq;rw[rest_len] at hrl;obtain⟨kk,hkk⟩:∃kk,s.size-r.length=kk:=⟨_,rfl⟩;have hsuf:r=restR s kk:=(by rw[←hkk];exact rest_of s (i+1) (rw_drop hq));have hrr:∀W,Calls Tryz.prog 47 #[.string s,.int .i64 ((i:Int)+1)] W fun e w'=>∃n uo un uc,e= .returned (.tuple #[.agg #[.int .i64 n.kind,.int .u64 ((n.set).1:Int),.int .u64 ((n.set).2.1:Int),.int .u64 ((n.set).2.2.1:Int),.int .u64 ((n.set).2.2.2:Int),.slice uo un uc],.int .i64 (kk:Int)])∧n=q∧NodeW (fun k=>W.heap.size≤k) w' n (nodeV n (.slice uo un uc))∧Below W.heap.size W w':=fun W=>by
    have h9:=hr W;rw[hq,e1] at h9;unfold ResP at h9;simp only[hkk] at h9;refine h9.mono ?_;rintro e w3 ⟨hP,hb⟩;obtain⟨n,x,he,hn,hnq⟩:∃n x,e= .returned (.tuple #[x,.int .i64 (kk:Int)])∧NodeW (fun k=>W.heap.size≤k) w3 n x∧n=q:=(by obtain⟨x,he,hn⟩:=hP;exact⟨q,x,he,hn,rfl⟩);obtain⟨h1,u,rfl,h2⟩:=hn;obtain⟨uo,uc,rfl,_⟩:=h2.form;exact⟨n,uo,_,uc,he,hnq,⟨h1,_,rfl,h2⟩,hb⟩
   have HRR:=qh hrr;have kk0:(0:Int)≤(kk:Int):=(by omega);have bkk:decide ((kk:Int)<0)=false:=decide_eq_false (by omega);have kk1:kk≤s.size:=(by omega);have HA2:=qh (fun W=>HAT.out kk W (by omega));simp only at hat;rw[hsuf] at hat;by_cases h41:atI s kk=41
   ·rw[if_pos ((rest_head s kk 41).2 h41),rest_tail] at hat;have hks:kk<s.size:=Classical.byContradiction fun hn=>(by have h9:atI s kk= -1:=if_neg hn;omega);have HP:Hid (∀N w' x,NodeW (fun k=>N≤k) w' q x→ResP s N w' (atR (restR s i)) (.returned (.tuple #[x,.int .i64 ((kk:Int)+1)]))):=fun N w' x h=>(by rw[hat];unfold ResP;simp only;refine⟨x,?_,h⟩;rw[rest_len,show ((s.size-(s.size-(kk+1)):Nat):Int)=(kk:Int)+1 by omega]);rw[h41] at HA2;clear hrr hr HR hq hat e1 h41 hsuf hrl hkk;go_enter Tryz.func66,Tryz.ntmps66;go_wp2_with fail
    go_fit HA.out;rintro e w2 ⟨rfl,rfl⟩;go_wp2_with fail
    (try rw[HW1.out]);go_fit (HRR.out _);rintro e w3 ⟨n,uo,un,uc,rfl,rfl,hn,hb3⟩;have hlt3:w.heap.size<w3.heap.size:=(by have:=HB1.out.2.1;have:=hb3.size;omega);have hb4:=alloc_under w3 (.cells #[.int .i64 n.kind,.int .u64 (n.set.1:Int),.int .u64 (n.set.2.1:Int),.int .u64 (n.set.2.2.1:Int),.int .u64 (n.set.2.2.2:Int),.slice uo un uc] 77);have hc4:=boxN.new 77 w3 n.kind n.set (.slice uo un uc);have ha4:=(HB1.out.2.2.below hb3).below hb4;have hl4:=(HB1.out.1.trans (hb3.mono (by have:=HB1.out.2.1;omega))).trans (hb4.mono (by omega));have hn4:=hn.below hb4;obtain⟨W4,hW4⟩:∃W4,w3.alloc (.cells #[.int .i64 n.kind,.int .u64 (n.set.1:Int),.int .u64 (n.set.2.1:Int),.int .u64 (n.set.2.2.1:Int),.int .u64 (n.set.2.2.2:Int),.slice uo un uc] 77)=W4:=⟨_,rfl⟩;rw[hW4] at hb4 hc4 ha4 hl4 hn4;obtain⟨C,hC⟩:∃C,w3.heap.size=C:=⟨_,rfl⟩;rw[hC] at hc4 hlt3;have hs1:=HB1.out.2.1;rw[hs1] at hn4;have HB4:=qh (show boxN 77 W4 w.heap.size 0 noR (.slice none 0 0)∧boxN 77 W4 C n.kind n.set (.slice uo un uc)∧Below w.heap.size w W4∧NodeW (fun k=>w.heap.size+1≤k) W4 n (nodeV n (.slice uo un uc)) from⟨ha4,hc4,hl4,hn4⟩);have HW4:=qh hW4;have HC:=qh hC;clear hb4 hc4 ha4 hl4 hn4 hW4 hC hs1 hn hb3;go_upto_region 4 with (fail)
    (try rw[HW4.out]);(try rw[HC.out]);clear HW4 HC;go_wp2_with fail
    go_fit (HA2.out _);rintro e w5 ⟨rfl,rfl⟩;have hbx:=HB4.out.1;have hbl:=HB4.out.2.2.1;obtain⟨⟨a0,a1,a2,a3,a4,a5⟩,fa0,fa1,fa2,fa3,fa4,fa5⟩:=hbx.cells;have hAlt:=hbx.lt;have hD1:=hbx.set6 (n.kind) (n.set) (.slice uo un uc);have hD2:=KeepW.below hbl (keep_set6N w5 w.heap.size (n.kind) (n.set) (.slice uo un uc)) (by omega) (fun k hk=>by omega);obtain⟨⟨y0,y1,y2,y3,y4,y5⟩,_⟩:=hD1.cells;unfold set6N set4N at y0 y1 y2 y3 y4 y5 hD2;have Y0:=qh y0;have Y1:=qh y1;have Y2:=qh y2;have Y3:=qh y3;have Y4:=qh y4;have Y5:=qh y5;have HDB:=qh hD2;clear hD1 hD2 y0 y1 y2 y3 y4 y5 hbx hbl;have hnf:=(HB4.out.2.2.2.keep (keep_set6N w5 w.heap.size n.kind n.set (.slice uo un uc)) (fun k _ hk e=>by have h8:w.heap.size+1≤k:=hk;omega)).mono (ok':=fun k=>w.heap.size≤k) (fun k _ hk=>by have h8:w.heap.size+1≤k:=hk;show w.heap.size≤k;omega);unfold set6N set4N at hnf;have HNF:=qh hnf;clear hnf;obtain⟨⟨c0,c1,c2,c3,c4,c5⟩,fc0,fc1,fc2,fc3,fc4,fc5⟩:=HB4.out.2.1.cells;have hClt:=HB4.out.2.1.lt;have hne:w.heap.size≠C:=(by omega);go_wp2_with fail
    have y0:=Y0.out;have y1:=Y1.out;have y2:=Y2.out;have y3:=Y3.out;have y4:=Y4.out;have y5:=Y5.out;exact bodyPost_ret (v:= .tuple #[.agg #[.int .i64 n.kind,.int .u64 ((n.set).1:Int),.int .u64 ((n.set).2.1:Int),.int .u64 ((n.set).2.2.1:Int),.int .u64 ((n.set).2.2.2:Int),.slice uo un uc],.int .i64 ((kk:Int)+1)]) (by simp[results,Tryz.results66,go_sem,y0,y1,y2,y3,y4,y5]) rfl ⟨HP.out _ _ _ HNF.out,HDB.out⟩
   ·rw[if_neg (fun h=>h41 ((rest_head s kk 41).1 h))] at hat;have HP:Hid (∀N w' x,NodeW (fun k=>N≤k) w' q x→ResP s N w' (atR (restR s i)) (.returned (.tuple #[x,.int .i64 (-1)]))):=fun N w' x h=>(by rw[hat];exact res_no q x h);obtain⟨c2,hc2⟩:∃c2,atI s kk=c2:=⟨_,rfl⟩;rw[hc2] at HA2 h41;have b41:(c2==41)=false:=beq_eq_false_iff_ne.2 h41;have b41n:(c2 != 41)=true:=bne_iff_ne.2 h41;clear hrr hr HR hq hat e1 h41 hsuf hrl hkk hc2;go_enter Tryz.func66,Tryz.ntmps66;go_wp2_with fail
    go_fit HA.out;rintro e w2 ⟨rfl,rfl⟩;go_wp2_with fail
    (try rw[HW1.out]);go_fit (HRR.out _);rintro e w3 ⟨n,uo,un,uc,rfl,rfl,hn,hb3⟩;have hlt3:w.heap.size<w3.heap.size:=(by have:=HB1.out.2.1;have:=hb3.size;omega);have hb4:=alloc_under w3 (.cells #[.int .i64 n.kind,.int .u64 (n.set.1:Int),.int .u64 (n.set.2.1:Int),.int .u64 (n.set.2.2.1:Int),.int .u64 (n.set.2.2.2:Int),.slice uo un uc] 77);have hc4:=boxN.new 77 w3 n.kind n.set (.slice uo un uc);have ha4:=(HB1.out.2.2.below hb3).below hb4;have hl4:=(HB1.out.1.trans (hb3.mono (by have:=HB1.out.2.1;omega))).trans (hb4.mono (by omega));have hn4:=hn.below hb4;obtain⟨W4,hW4⟩:∃W4,w3.alloc (.cells #[.int .i64 n.kind,.int .u64 (n.set.1:Int),.int .u64 (n.set.2.1:Int),.int .u64 (n.set.2.2.1:Int),.int .u64 (n.set.2.2.2:Int),.slice uo un uc] 77)=W4:=⟨_,rfl⟩;rw[hW4] at hb4 hc4 ha4 hl4 hn4;obtain⟨C,hC⟩:∃C,w3.heap.size=C:=⟨_,rfl⟩;rw[hC] at hc4 hlt3;have hs1:=HB1.out.2.1;rw[hs1] at hn4;have HB4:=qh (show boxN 77 W4 w.heap.size 0 noR (.slice none 0 0)∧boxN 77 W4 C n.kind n.set (.slice uo un uc)∧Below w.heap.size w W4∧NodeW (fun k=>w.heap.size+1≤k) W4 n (nodeV n (.slice uo un uc)) from⟨ha4,hc4,hl4,hn4⟩);have HW4:=qh hW4;have HC:=qh hC;clear hb4 hc4 ha4 hl4 hn4 hW4 hC hs1 hn hb3;go_upto_region 4 with (fail)
    (try rw[HW4.out]);(try rw[HC.out]);clear HW4 HC;go_wp2_with fail
    go_fit (HA2.out _);rintro e w5 ⟨rfl,rfl⟩;have hbx:=HB4.out.1;have hbl:=HB4.out.2.2.1;obtain⟨⟨a0,a1,a2,a3,a4,a5⟩,fa0,fa1,fa2,fa3,fa4,fa5⟩:=hbx.cells;have hAlt:=hbx.lt;have hD1:=hbx.set6 (n.kind) (n.set) (.slice uo un uc);have hD2:=KeepW.below hbl (keep_set6N w5 w.heap.size (n.kind) (n.set) (.slice uo un uc)) (by omega) (fun k hk=>by omega);obtain⟨⟨y0,y1,y2,y3,y4,y5⟩,_⟩:=hD1.cells;unfold set6N set4N at y0 y1 y2 y3 y4 y5 hD2;have Y0:=qh y0;have Y1:=qh y1;have Y2:=qh y2;have Y3:=qh y3;have Y4:=qh y4;have Y5:=qh y5;have HDB:=qh hD2;clear hD1 hD2 y0 y1 y2 y3 y4 y5 hbx hbl;have hnf:=(HB4.out.2.2.2.keep (keep_set6N w5 w.heap.size n.kind n.set (.slice uo un uc)) (fun k _ hk e=>by have h8:w.heap.size+1≤k:=hk;omega)).mono (ok':=fun k=>w.heap.size≤k) (fun k _ hk=>by have h8:w.heap.size+1≤k:=hk;show w.heap.size≤k;omega);unfold set6N set4N at hnf;have HNF:=qh hnf;clear hnf;obtain⟨⟨c0,c1,c2,c3,c4,c5⟩,fc0,fc1,fc2,fc3,fc4,fc5⟩:=HB4.out.2.1.cells;have hClt:=HB4.out.2.1.lt;have hne:w.heap.size≠C:=(by omega);go_wp2_with fail
    have y0:=Y0.out;have y1:=Y1.out;have y2:=Y2.out;have y3:=Y3.out;have y4:=Y4.out;have y5:=Y5.out;exact bodyPost_ret (v:= .tuple #[.agg #[.int .i64 n.kind,.int .u64 ((n.set).1:Int),.int .u64 ((n.set).2.1:Int),.int .u64 ((n.set).2.2.1:Int),.int .u64 ((n.set).2.2.2:Int),.slice uo un uc],.int .i64 (-1)]) (by simp[results,Tryz.results66,go_sem,y0,y1,y2,y3,y4,y5]) rfl ⟨HP.out _ _ _ HNF.out,HDB.out⟩
end Go.Proofs.YtjeomlickkpebaaGreatDoor
