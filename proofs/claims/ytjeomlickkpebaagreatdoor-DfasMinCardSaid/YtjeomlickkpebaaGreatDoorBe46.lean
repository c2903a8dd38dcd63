/-
  Texts of this proof, one behind the other; each begins with its own remark.
-/
import Derived.Test.YtjeomlickkpebaaGreatDoorBe44
import Derived.Test.YtjeomlickkpebaaGreatDoorBe45
set_option maxHeartbeats 8000000
namespace Go.Proofs.YtjeomlickkpebaaGreatDoor
open Go.RowKit
def MadeOut (L:List ByteArray) (w':World) (e:Ending):Prop:=
 (xG L≠0∧e= .returned (.tuple #[.pointer none,.pointer none,.int .i64 (xG L)])) ∨
 (xG L=0∧∃np,kD w' (.pointer np) (quE L) (fiE L)∧((∃dp k,e= .returned (.tuple #[.pointer np,.pointer dp,.int .i64 0])∧DfW w' (.pointer dp) (Z4 L k)∧(goL L k).1.length=k) ∨
  (e= .returned (.tuple #[.pointer np,.pointer none,.int .i64 70])∧∃ls:List (List Int),(∀l,l∈ls→kN (quE L) (reachP (quE L) (fiE L)) l)∧(∀(i j:Nat) a b,i<j→ls[i]? =some a→ls[j]? =some b→a≠b)∧2000<ls.length)))
section
variable {w:World} {v:Value} {d:Dfa} {L:List ByteArray}
theorem JQ (h:qJ w v L) (he:zFN w):Calls Tryz.prog 13 #[v] w fun e w'=>MadeOut L w' e∧Below w.heap.size w w':=by
 have HMK:=qh (Km h he.1);obtain⟨er,her⟩:∃er,xG L=er:=⟨_,rfl⟩;have HE:=qh her;have HDM:=qh (fun (W:World) (hb:Below w.heap.size w W) (np:Option Addr) (h:kD W (.pointer np) (quE L) (fiE L)) (h0:xG L=0)=>KG h h0 (he.2.below hb));obtain⟨vo,vc,rfl,_⟩:=h.form;rw[her] at HMK;clear h he her;by_cases h0:er=0
 ·subst h0;go_enter Tryz.func13,Tryz.ntmps13;go_wp2_with fail
  go_fit HMK.out;rintro e w1 ⟨np,rfl,hp,_,hb⟩;have H1:=qh (And.intro (hp trivial).2 hb);clear hp hb;go_wp2_with fail
  go_fit (HDM.out _ H1.out.2 _ H1.out.1 HE.out);rintro e w2 ⟨ho,hb⟩;have H2:=qh (And.intro (H1.out.1.below hb) (H1.out.2.trans (hb.mono H1.out.2.size)));rcases ho with ⟨dp,k,rfl,hD,hk⟩ | ⟨rfl,ls,h1,h2,h3⟩
  ·have HF:Hid (MadeOut L w2 (.returned (.tuple #[.pointer np,.pointer dp,.int .i64 0]))):=qh (.inr ⟨HE.out,np,H2.out.1,.inl ⟨dp,k,rfl,hD,hk⟩⟩);clear hD hk hb;go_wp2_with fail
   go_ret3
   exact⟨HF.out,H2.out.2⟩
  ·have HF:Hid (MadeOut L w2 (.returned (.tuple #[.pointer np,.pointer none,.int .i64 70]))):=qh (.inr ⟨HE.out,np,H2.out.1,.inr ⟨rfl,ls,h1,h2,h3⟩⟩);clear h1 h2 h3 hb;go_wp2_with fail
   go_ret3
   exact⟨HF.out,H2.out.2⟩
 ·have heb:(er==0)=false:=beq_eq_false_iff_ne.2 h0;have heb2:(er != 0)=true:=by simpa using h0
  have HNE:=qh h0;clear h0;go_enter Tryz.func13,Tryz.ntmps13;go_wp2_with fail
  go_fit HMK.out;rintro e w1 ⟨np,rfl,_,hp,hb⟩;have H1:=qh hb;have HF:Hid (MadeOut L w1 (.returned (.tuple #[.pointer none,.pointer none,.int .i64 er]))):=qh (.inl ⟨by rw[HE.out];exact HNE.out,by rw[HE.out]⟩);clear hp hb;go_wp2_with fail
  go_ret3
  exact⟨HF.out,H1.out⟩
theorem KC (h:DfV w v d) (s:ByteArray) (hs:s.size≤1000) (a x y z:Int):
  Calls Tryz.prog 25 #[v,.string s,.int .i64 a,.int .i64 x,.int .i64 y,.int .i64 z] w fun e w'=>e= .returned (.bool (decide (qr d s a=(x,y,z))))∧Below w.heap.size w w':=by
 have HM:=qh (YY h s hs a);obtain⟨m,hm⟩:∃m,qr d s a=m:=⟨_,rfl⟩;rw[hm] at HM ⊢;obtain⟨m1,m2,m3⟩:=m;clear h hs hm;go_enter Tryz.func25,Tryz.ntmps25;go_wp2_with fail
 go_fit HM.out;rintro e w1 ⟨rfl,hb⟩;have HB:=qh hb;clear hb;by_cases h1:m1=x
 ·have k1:(m1==x)=true:=by rw[h1];exact beq_self_eq_true _
  by_cases h2:m2=y
  ·have k2:(m2==y)=true:=(by rw[h2];exact beq_self_eq_true _);by_cases h3:m3=z
   ·have k3:(m3==z)=true:=(by rw[h3];exact beq_self_eq_true _);go_wp2_with fail
    go_ret
    exact⟨by simp[h1,h2,h3],HB.out⟩
   ·have k3:(m3==z)=false:=beq_eq_false_iff_ne.2 h3;go_wp2_with fail
    go_ret
    exact⟨by simp[h1,h2,h3],HB.out⟩
  ·have k2:(m2==y)=false:=beq_eq_false_iff_ne.2 h2;go_wp2_with fail
   go_ret
   exact⟨by simp[h1,h2],HB.out⟩
 ·have k1:(m1==x)=false:=beq_eq_false_iff_ne.2 h1;go_wp2_with fail
  go_ret
  exact⟨by simp[h1],HB.out⟩
def yV (L:List ByteArray):Bool:=decide (5<L.length)||L.any fun s=>decide (24<s.size)
theorem YR (h:5<L.length):yV L=true:=by unfold yV;rw[decide_eq_true h];rfl
theorem YS {s:ByteArray} (h:s∈L) (hs:24<s.size):yV L=true:=by
 unfold yV;rw[List.any_eq_true.2 ⟨s,h,decide_eq_true hs⟩,Bool.or_true]
theorem KD (h:L.length≤5) (ha:∀s,s∈L→s.size≤24):yV L=false:=by
 unfold yV;rw[Bool.or_eq_false_iff,decide_eq_false_iff_not,List.any_eq_false];exact⟨by omega,fun s hs=>by have:=ha s hs;simp;omega⟩
theorem KE (h:qJ w v L):
  Calls Tryz.prog 10 #[v] w fun e w'=>e= .returned (.bool (yV L))∧w'=w:=by
 obtain⟨vo,vc,rfl,hvc⟩:=h.form;have HG:=qh (YR (L:=L));have HG2:Hid (∀s:ByteArray,s∈L→24<s.size→yV L=true):=qh (fun s h1 h2=>YS h1 h2);have HG3:=qh (KD (L:=L));have HV:=qh h;obtain⟨m,hm⟩:∃m,L.length=m:=⟨_,rfl⟩;have HM:=qh hm;rw[hm] at hvc HV HG HG3 ⊢;clear h hm;obtain⟨gb,hgb⟩:∃b,yV L=b:=⟨_,rfl⟩;rw[hgb] at HG HG2 HG3 ⊢;clear hgb;by_cases hm8:5<m
 ·have hmi:(m:Int)>5:=by omega
  have hg:=HG.out hm8;subst hg;clear HG HG2 HG3 hm8;go_enter Tryz.func10,Tryz.ntmps10;go_wp2_with fail
  go_ret
  exact⟨rfl,rfl⟩
 have hmi:¬(m:Int)>5:=by omega
 clear HG;go_enter Tryz.func10,Tryz.ntmps10;go_wp2_with fail
 go_loop [3] (fun s3=>∃(i:Nat),s3= .int .i64 (i:Int)∧i≤m∧Hid (∀s,s∈L.take i→s.size≤24)) (fun s3=>m-(intOf s3).toNat)
 case atStart=>exact⟨0,rfl,Nat.zero_le _,qh (fun s hs=>by simp at hs)⟩
 case round=>
  obtain⟨i,rfl,hi,HZ⟩:=hrel;have i0:(0:Int)≤(i:Int):=by omega
  have ib:(i:Int)≤5:=by omega
  by_cases hlt:i<m
  ·have hli:(i:Int)<(m:Int):=(by omega);have hla:i<L.length:=(by have:=HM.out;omega);obtain⟨s,hs⟩:∃s,L[i]=s:=⟨_,rfl⟩;have hil:L[i]? =some s:=(by rw[List.getElem?_eq_getElem hla,hs]);obtain⟨g,o,c,hve,hc⟩:=HV.out.get hil;injection hve with e1 e2 e3
   subst e1;clear e2 e3;by_cases hs24:24<s.size
   ·have hs6:(s.size:Int)>24:=(by omega);have hg:=HG2.out _ (List.mem_of_getElem? hil) hs24;subst hg;clear HG2 HG3 hla hs hil hs24;go_wp2_with fail
    go_ret
    exact⟨rfl,rfl⟩
   ·have hs6:¬(s.size:Int)>24:=(by omega);have HZ2:Hid (∀s,s∈L.take (i+1)→s.size≤24):=qh (fun t ht=>by
     rw[List.take_add_one,hil,List.mem_append] at ht;rcases ht with ht | ht
     ·exact HZ.out t ht
     ·simp at ht;rw[ht];omega)
    clear hla hs hil hs24 HG2 HG3;go_wp2_with fail
    go_round
    case rel=>exact⟨i+1,by go_num,hlt,HZ2⟩
    case measure=>simp[intOf]<;>omega
  ·have hli:¬(i:Int)<(m:Int):=(by omega);have hg:=HG3.out (by omega) (fun s hs=>HZ.out s (by rw[List.take_of_length_le (by have:=HM.out;omega)];exact hs));subst hg;clear HG2 HG3;go_wp2_with fail
   go_ret
   exact⟨rfl,rfl⟩
theorem vk {W:World} {r:Array Value} {t:TypeId} (i:Nat) (x:Value) (h:r[i]? =some x):(W.alloc (.cells r t)).cell? ⟨W.heap.size,i,none⟩=some x:=by
 rw[cell_of_row _ _ i _ _ (0,0) (heap_alloc_new _ _)];exact h
theorem QB (W:World) (X:Nat) (L:List ByteArray) (h:∀(i:Nat) x,L[i]? =some x→W.cell? ⟨X,i,none⟩=some (.string x)):qJ W (.slice (some ⟨X,0,none⟩) L.length L.length) L:=
 ⟨_,_,rfl,Nat.le_refl _,fun i x hx=>⟨X,0,rfl,by rw[Nat.zero_add];exact h i x hx⟩⟩
theorem zEG (h:qJ w v L) (he:zFN w) (hE:xG L=0) {k:Nat} (hk:(goL L k).1.length=k) (hk2:k≤2000):
  Calls Tryz.prog 13 #[v] w fun e w'=>∃np dp,e= .returned (.tuple #[.pointer np,.pointer dp,.int .i64 0])∧DfW w' (.pointer dp) (Z4 L k)∧Below w.heap.size w w':=
 (JQ h he).mono fun e w' ⟨h1,hb⟩=>by
  rcases h1 with ⟨h1,_⟩ | ⟨_,np,_,⟨dp,m,rfl,h2,h3⟩ | ⟨_,ls,h4,h5,h6⟩⟩
  ·exact absurd hE h1
  ·have:m=k:=zD5 h3 hk;subst this;exact⟨np,dp,rfl,h2,hb⟩
  ·have:=zG1 hk h4 h5;omega
def tyA:ByteArray:=⟨#[97,98,120]⟩
def tyB:ByteArray:=⟨#[98]⟩
def tyC:ByteArray:=⟨#[97]⟩
theorem tyA_is:qr (Z4 exA 4) tyA 0=(2,0,2):=by kernel_rfl
theorem tyB_is:qr (Z4 exA 4) tyB 0=(0,-1,0):=by kernel_rfl
theorem tyC_is:qr (Z4 exC 5) tyC 0=(0,-1,1):=by kernel_rfl
set_option maxRecDepth 4000 in
theorem KF (he:zFN w):Calls Tryz.prog 11 #[] w fun e w'=>e= .returned (.bool true)∧Below w.heap.size w w':=by
 have HK:=qh (fun (W:World) (hb:Below w.heap.size w W) (L:List ByteArray) (u:Value) (k:Nat) (hE:xG L=0) (hk:(goL L k).1.length=k) (hk2:k≤2000) (h:qJ W u L)=>zEG h (he.below hb) hE hk hk2);have HT:=qh (fun (W:World) (u:Value) (d:Dfa) (h:DfW W u d) (s:ByteArray) (hs:s.size≤1000) (a x y z:Int) (hm:qr d s a=(x,y,z))=>((KC h.1 s hs a x y z).mono fun e w' h2=>(⟨by rw[h2.1,hm];simp,h2.2⟩:e= .returned (.bool true)∧Below W.heap.size W w')));have HS:=qh (fun (W:World) (u:Value) (d:Dfa) (n:Nat) (h:DfW W u d) (hn:d.n=n)=>((kI h).mono fun e w' h2=>(⟨by rw[h2.1,hn],h2.2⟩:e= .returned (.int .i64 (n:Int))∧Below W.heap.size W w')));have HM:=qh (fun (W:World) (u:Value) (d:Dfa) (h:DfW W u d)=>JT h);clear he;go_enter Tryz.func11,Tryz.ntmps11;go_wp2_with fail
 have hb1:=zA w (.cells #[.string ⟨#[97,98]⟩,.string ⟨#[97,99]⟩,.string ⟨#[97]⟩] 9);go_fit (HK.out _ hb1 exA _ 4 zD8 Ko (by decide) (QB _ _ exA (fun i x hx=>vk i _ (by
  have h3:i<3:=(List.getElem?_eq_some_iff.1 hx).1;rcases i with _ | _ | _ | i
  ·cases hx;rfl
  ·cases hx;rfl
  ·cases hx;rfl
  ·omega))))
 rintro e w1 ⟨np1,dp1,rfl,hd1,hb2⟩;have H1:=qh (And.intro hd1 (hb1.trans (hb2.mono hb1.size)));clear hb1 hb2 hd1;go_wp2_with fail
 have hb1:=H1.out.2.trans ((zA w1 (.cells #[.string ⟨#[91,94,92,120,48,48,45,92,120,102,102,93,97]⟩] 9)).mono H1.out.2.size);have hd1:=H1.out.1.below (zA w1 (.cells #[.string ⟨#[91,94,92,120,48,48,45,92,120,102,102,93,97]⟩] 9));go_fit (HK.out _ hb1 exB _ 1 zD9 Kp (by decide) (QB _ _ exB (fun i x hx=>vk i _ (by
  have h3:i<1:=(List.getElem?_eq_some_iff.1 hx).1;rcases i with _ | i
  ·cases hx;rfl
  ·omega))))
 rintro e w2 ⟨np2,dp2,rfl,hd2,hb2⟩;have H2:=qh (And.intro (hd1.below hb2) (And.intro hd2 (hb1.trans (hb2.mono hb1.size))));clear hb1 hb2 hd1 hd2 H1;go_wp2_with fail
 have hb1:=H2.out.2.2.trans ((zA w2 (.cells #[.string ⟨#[97,98]⟩,.string ⟨#[98,98]⟩,.string ⟨#[98]⟩] 9)).mono H2.out.2.2.size);have hd1:=H2.out.1.below (zA w2 (.cells #[.string ⟨#[97,98]⟩,.string ⟨#[98,98]⟩,.string ⟨#[98]⟩] 9));have hd2:=H2.out.2.1.below (zA w2 (.cells #[.string ⟨#[97,98]⟩,.string ⟨#[98,98]⟩,.string ⟨#[98]⟩] 9));go_fit (HK.out _ hb1 exC _ 5 zDA zG2 (by decide) (QB _ _ exC (fun i x hx=>vk i _ (by
  have h3:i<3:=(List.getElem?_eq_some_iff.1 hx).1;rcases i with _ | _ | _ | i
  ·cases hx;rfl
  ·cases hx;rfl
  ·cases hx;rfl
  ·omega))))
 rintro e w3 ⟨np3,dp3,rfl,hd3,hb2⟩;have H3:=qh (And.intro (hd1.below hb2) (And.intro (hd2.below hb2) (And.intro hd3 (hb1.trans (hb2.mono hb1.size)))));clear hb1 hb2 hd1 hd2 hd3 H2 HK;go_wp2_with fail
 go_fit (HS.out _ _ _ 4 H3.out.1 exA_n);rintro e w4 ⟨rfl,hb⟩;have H4:=qh (And.intro (H3.out.1.below hb) (And.intro (H3.out.2.1.below hb) (And.intro (H3.out.2.2.1.below hb) (H3.out.2.2.2.trans (hb.mono H3.out.2.2.2.size)))));clear hb H3;go_wp2_with fail
 go_fit (HM.out _ _ _ H4.out.1);rintro e w5 ⟨mp,M,rfl,hM,hI,hb⟩;have H5:=qh (And.intro (H4.out.1.below hb) (And.intro (H4.out.2.1.below hb) (And.intro (H4.out.2.2.1.below hb) (And.intro (H4.out.2.2.2.trans (hb.mono H4.out.2.2.2.size)) (And.intro hM (exA_min hI))))));clear hb H4 hM hI;go_wp2_with fail
 go_fit (HS.out _ _ _ 4 H5.out.2.2.2.2.1 H5.out.2.2.2.2.2);rintro e w6 ⟨rfl,hb⟩;have H6:=qh (And.intro (H5.out.1.below hb) (And.intro (H5.out.2.1.below hb) (And.intro (H5.out.2.2.1.below hb) (H5.out.2.2.2.1.trans (hb.mono H5.out.2.2.2.1.size)))));clear hb H5;go_wp2_with fail
 go_fit (HT.out _ _ _ H6.out.1 _ (by decide) _ _ _ _ tyA_is);rintro e w7 ⟨rfl,hb⟩;have H7:=qh (And.intro (H6.out.1.below hb) (And.intro (H6.out.2.1.below hb) (And.intro (H6.out.2.2.1.below hb) (H6.out.2.2.2.trans (hb.mono H6.out.2.2.2.size)))));clear hb H6;go_wp2_with fail
 go_fit (HT.out _ _ _ H7.out.1 _ (by decide) _ _ _ _ tyB_is);rintro e w8 ⟨rfl,hb⟩;have H8:=qh (And.intro (H7.out.2.1.below hb) (And.intro (H7.out.2.2.1.below hb) (H7.out.2.2.2.trans (hb.mono H7.out.2.2.2.size))));clear hb H7;go_wp2_with fail
 go_fit (HS.out _ _ _ 1 H8.out.1 exB_n);rintro e w9 ⟨rfl,hb⟩;have H9:=qh (And.intro (H8.out.1.below hb) (And.intro (H8.out.2.1.below hb) (H8.out.2.2.trans (hb.mono H8.out.2.2.size))));clear hb H8;go_wp2_with fail
 go_fit (HM.out _ _ _ H9.out.1);rintro e w10 ⟨mp2,M2,rfl,hM,hI,hb⟩;have H10:=qh (And.intro (H9.out.2.1.below hb) (And.intro (H9.out.2.2.trans (hb.mono H9.out.2.2.size)) (And.intro hM (exB_min hI))));clear hb H9 hM hI;go_wp2_with fail
 go_fit (HS.out _ _ _ 1 H10.out.2.2.1 H10.out.2.2.2);rintro e w11 ⟨rfl,hb⟩;have H11:=qh (And.intro (H10.out.1.below hb) (H10.out.2.1.trans (hb.mono H10.out.2.1.size)));clear hb H10;go_wp2_with fail
 go_fit (HT.out _ _ _ H11.out.1 _ (by decide) _ _ _ _ tyC_is);rintro e w12 ⟨rfl,hb⟩;have H12:=qh (H11.out.2.trans (hb.mono H11.out.2.size));clear hb H11;go_wp2_with fail
 go_ret
 exact⟨rfl,H12.out⟩
end
end Go.Proofs.YtjeomlickkpebaaGreatDoor
namespace Go.Proofs.YtjeomlickkpebaaGreatDoor
open Go.ChangeShapes Go.WideShapes Go.ChangeAt Go.RowKit
theorem Tryz.gPow:Tryz.prog.globalNamed "internal/strconv.uint64pow10" =some 0:=by kernel_rfl
theorem Tryz.gPowType:(Tryz.prog.globals[0]?).map (·.type)=some 184:=by kernel_rfl
theorem Tryz.cellsPow:Tryz.prog.cellsOf 184=20:=by kernel_rfl
theorem Tryz.cellsPowU:Tryz.prog.cellsOf 50=1:=by kernel_rfl
set_option maxRecDepth 20000 in
theorem JR {W:World} (h:laidMet Tryz.prog [("math/bits.deBruijn32tab",Rows.laid_math_bits_deBruijn32tab),("math/bits.deBruijn64tab",Rows.laid_math_bits_deBruijn64tab),("internal/strconv.uint64pow10",Rows.laid_internal_strconv_uint64pow10),("strconv.ErrRange",Rows.laid_strconv_ErrRange),("strconv.ErrSyntax",Rows.laid_strconv_ErrSyntax)] W):zC2 W:=by
 obtain⟨ps,⟨_,_,_,_,_,_,_,_,_,_,⟨_,_,_,_,_,_,_,_,_,_,⟨g3,t3,cs3,f3,p3,q3,hg3,ht3,hv3,hd3,_,_⟩,_⟩,_⟩,_⟩:=h;obtain rfl:=Option.some.inj (Tryz.gPow.symm.trans hg3);obtain rfl:=Option.some.inj (Tryz.gPowType.symm.trans ht3);have a3:Lib.TabIs Tryz.prog W "internal/strconv.uint64pow10" .u64 Lib.pow10Tab:=by
  unfold Lib.TabIs;rw[hv3,←Lib.cells_of_tab (zs:=Lib.pow10Tab) Tryz.underlying184 Tryz.underlying50 Tryz.cellsPowU Tryz.cellsPow hd3]
 have hlt:=World.block_lt_of_cell? _ _ (a3.cell Tryz.gPow 0 (by rw[Lib.pow10Tab_length];omega));intro w' hb;have h2:=a3;unfold Lib.TabIs at h2 ⊢;rw[←h2];unfold World.var?;rw[Tryz.gPow];simp only[Option.bind_some];rw[(keep_below (fun _=>True) hb).same _ hlt trivial]
theorem kH {W:World} (h:laidMet Tryz.prog [("math/bits.deBruijn32tab",Rows.laid_math_bits_deBruijn32tab),("math/bits.deBruijn64tab",Rows.laid_math_bits_deBruijn64tab),("internal/strconv.uint64pow10",Rows.laid_internal_strconv_uint64pow10),("strconv.ErrRange",Rows.laid_strconv_ErrRange),("strconv.ErrSyntax",Rows.laid_strconv_ErrSyntax)] W):zFN W:=⟨QU h,JR h⟩
end Go.Proofs.YtjeomlickkpebaaGreatDoor
