/-
  Texts of this proof, one behind the other; each begins with its own remark.
-/
import Derived.Shelf.Strings.BuilderK
import Derived.Shelf.Strconv.ToError
import Derived.Shelf.Strconv.Lower
import Derived.Test.YtjeomlickkpebaaGreatDoorBe22
import Derived.Test.YtjeomlickkpebaaGreatDoorBe9
set_option maxHeartbeats 4000000
namespace Go.Proofs
open Go.Shelf
def Tryz.laysC245_ren:Go.Shelf.Ren:=⟨fun | 245=>129 | 279=>132 | 280=>133 | 281=>134 | 282=>135 | 316=>136 | 171=>138 | 205=>137 | 243=>139 | 246=>140 | 283=>100 | 284=>101 | 285=>102 | 286=>103 | 129=>108 | 317=>107 | 318=>109 | 319=>110 | 320=>111 | 337=>115 | 338=>116 | n=>n,fun | 9=>9 | 3=>3 | 75=>196 | 167=>200 | 4=>4 | 168=>202 | 210=>207 | 37=>152 | 0=>0 | 127=>209 | 145=>212 | 143=>210 | 2=>2 | 171=>178 | 53=>50 | 5=>5 | 173=>181 | 212=>184 | 51=>159 | 20=>20 | 213=>185 | 46=>145 | 232=>193 | 233=>194 | 80=>214 | n=>n,fun | 15=>4 | 16=>5 | 17=>0 | 18=>1 | 19=>2 | n=>n⟩
theorem Tryz.laysC245:Go.Proofs.LaysC.n245 Tryz.prog Tryz.laysC245_ren:= {
 mixed:=by kernel_rfl
 f129:=Tryz.func108.trans (congrArg some (by kernel_rfl))
 f171:=Tryz.func138.trans (congrArg some (by kernel_rfl))
 f205:=Tryz.func137.trans (congrArg some (by kernel_rfl))
 f243:=Tryz.func139.trans (congrArg some (by kernel_rfl))
 f245:=Tryz.func129.trans (congrArg some (by kernel_rfl))
 f246:=Tryz.func140.trans (congrArg some (by kernel_rfl))
 f279:=Tryz.func132.trans (congrArg some (by kernel_rfl))
 f280:=Tryz.func133.trans (congrArg some (by kernel_rfl))
 f281:=Tryz.func134.trans (congrArg some (by kernel_rfl))
 f282:=Tryz.func135.trans (congrArg some (by kernel_rfl))
 f283:=Tryz.func100.trans (congrArg some (by kernel_rfl))
 f284:=Tryz.func101.trans (congrArg some (by kernel_rfl))
 f285:=Tryz.func102.trans (congrArg some (by kernel_rfl))
 f286:=Tryz.func103.trans (congrArg some (by kernel_rfl))
 f316:=Tryz.func136.trans (congrArg some (by kernel_rfl))
 f317:=Tryz.func107.trans (congrArg some (by kernel_rfl))
 f318:=Tryz.func109.trans (congrArg some (by kernel_rfl))
 f319:=Tryz.func110.trans (congrArg some (by kernel_rfl))
 f320:=Tryz.func111.trans (congrArg some (by kernel_rfl))
 f337:=Tryz.func115.trans (congrArg some (by kernel_rfl))
 f338:=Tryz.func116.trans (congrArg some (by kernel_rfl))
 t0:=Tryz.underlying0
 a0:=Tryz.isAgg0
 z0:=Tryz.sizeOf0
 v0:=Tryz.zeroValue0
 t2:=Tryz.underlying2
 a2:=Tryz.isAgg2
 z2:=Tryz.sizeOf2
 v2:=Tryz.zeroValue2
 t3:=Tryz.underlying3
 a3:=Tryz.isAgg3
 z3:=Tryz.sizeOf3
 v3:=Tryz.zeroValue3
 t4:=Tryz.underlying4
 a4:=Tryz.isAgg4
 z4:=Tryz.sizeOf4
 v4:=Tryz.zeroValue4
 t5:=Tryz.underlying5
 a5:=Tryz.isAgg5
 z5:=Tryz.sizeOf5
 v5:=Tryz.zeroValue5
 t9:=Tryz.underlying9
 a9:=Tryz.isAgg9
 z9:=Tryz.sizeOf9
 v9:=Tryz.zeroValue9
 t20:=Tryz.underlying20
 a20:=Tryz.isAgg20
 z20:=Tryz.sizeOf20
 v20:=Tryz.zeroValue20
 t37:=Tryz.underlying152
 a37:=Tryz.isAgg152
 z37:=Tryz.sizeOf152
 v37:=Tryz.zeroValue152
 t46:=Tryz.underlying145
 a46:=Tryz.isAgg145
 z46:=Tryz.sizeOf145
 v46:=Tryz.zeroValue145
 t51:=Tryz.underlying159
 a51:=Tryz.isAgg159
 z51:=Tryz.sizeOf159
 v51:=Tryz.zeroValue159
 t53:=Tryz.underlying50
 a53:=Tryz.isAgg50
 z53:=Tryz.sizeOf50
 v53:=Tryz.zeroValue50
 t75:=Tryz.underlying196
 a75:=Tryz.isAgg196
 z75:=Tryz.sizeOf196
 v75:=Tryz.zeroValue196
 t127:=Tryz.underlying209
 a127:=Tryz.isAgg209
 z127:=Tryz.sizeOf209
 v127:=Tryz.zeroValue209
 t143:=Tryz.underlying210
 a143:=Tryz.isAgg210
 z143:=Tryz.sizeOf210
 v143:=Tryz.zeroValue210
 t145:=Tryz.underlying212
 a145:=Tryz.isAgg212
 z145:=Tryz.sizeOf212
 v145:=Tryz.zeroValue212
 t167:=Tryz.underlying200
 a167:=Tryz.isAgg200
 z167:=Tryz.sizeOf200
 v167:=Tryz.zeroValue200
 t168:=Tryz.underlying202
 a168:=Tryz.isAgg202
 z168:=Tryz.sizeOf202
 v168:=Tryz.zeroValue202
 t171:=Tryz.underlying178
 a171:=Tryz.isAgg178
 z171:=Tryz.sizeOf178
 v171:=Tryz.zeroValue178
 t173:=Tryz.underlying181
 a173:=Tryz.isAgg181
 z173:=Tryz.sizeOf181
 v173:=Tryz.zeroValue181
 t210:=Tryz.underlying207
 a210:=Tryz.isAgg207
 z210:=Tryz.sizeOf207
 v210:=Tryz.zeroValue207
 t212:=Tryz.underlying184
 a212:=Tryz.isAgg184
 z212:=Tryz.sizeOf184
 v212:=Tryz.zeroValue184
 t213:=Tryz.underlying185
 a213:=Tryz.isAgg185
 z213:=Tryz.sizeOf185
 t232:=Tryz.underlying193
 a232:=Tryz.isAgg193
 z232:=Tryz.sizeOf193
 v232:=Tryz.zeroValue193
 t233:=Tryz.underlying194
 a233:=Tryz.isAgg194
 z233:=Tryz.sizeOf194
 v233:=Tryz.zeroValue194
 g15:=by kernel_rfl
 g16:=by kernel_rfl
 g17:=by kernel_rfl
 g18:=by kernel_rfl
 g19:=by kernel_rfl
 t80:=Tryz.underlying214
 a80:=Tryz.isAgg214
 z80:=Tryz.sizeOf214
 v80:=Tryz.zeroValue214
 i0:=by kernel_rfl
 i2:=by kernel_rfl
 i3:=by kernel_rfl
 i4:=by kernel_rfl
 i5:=by kernel_rfl
 i9:=by kernel_rfl
 i20:=by kernel_rfl
 i37:=by kernel_rfl
 i46:=by kernel_rfl
 i51:=by kernel_rfl
 i53:=by kernel_rfl
 i75:=by kernel_rfl
 i80:=by kernel_rfl
 i127:=by kernel_rfl
 i143:=by kernel_rfl
 i145:=by kernel_rfl
 i167:=by kernel_rfl
 i168:=by kernel_rfl
 i171:=by kernel_rfl
 i173:=by kernel_rfl
 i210:=by kernel_rfl
 i212:=by kernel_rfl
 i232:=by kernel_rfl
 i233:=by kernel_rfl
 m15:=by kernel_rfl
 m16:=by kernel_rfl
 m17:=by kernel_rfl
 m18:=by kernel_rfl
 m19:=by kernel_rfl
 c0:=by kernel_rfl
 c2:=by kernel_rfl
 c3:=by kernel_rfl
 c4:=by kernel_rfl
 c5:=by kernel_rfl
 c9:=by kernel_rfl
 c20:=by kernel_rfl
 c37:=by kernel_rfl
 c46:=by kernel_rfl
 c51:=by kernel_rfl
 c53:=by kernel_rfl
 c75:=by kernel_rfl
 c80:=by kernel_rfl
 c127:=by kernel_rfl
 c143:=by kernel_rfl
 c145:=by kernel_rfl
 c167:=by kernel_rfl
 c168:=by kernel_rfl
 c171:=by kernel_rfl
 c173:=by kernel_rfl
 c210:=by kernel_rfl
 c212:=by kernel_rfl
 c213:=by kernel_rfl
 c232:=by kernel_rfl
 c233:=by kernel_rfl}
open Go.RowKit in
theorem Tryz.strconv_toError_syntax (fn s:ByteArray) (base bits:Int) (ev:Value) (w:World) (hlim:s.size≤281474976710656) (hv:w.cell? ⟨4,0,none⟩=some ev) (hev:ev= .nilIface∨∃te pe,ev= .iface te pe):
  Calls Tryz.prog 129 #[.string fn,.string s,.int .i64 base,.int .i64 bits,.iface 200 (.int .i64 2)] w fun e w'=>∃N,e= .returned (.iface 202 (.pointer (some ⟨N,0,none⟩)))∧w.heap.size≤N∧w'.heap[N]? =some (.cells #[.string fn,.string s,ev] 207 (0,0))∧Below w.heap.size w w':=Any.strconv_toError_syntax Tryz.laysC245 fn s base bits ev w hlim hv hev
end Go.Proofs
namespace Go.Proofs.YtjeomlickkpebaaGreatDoor
open Go.RowKit
def XG (w:World):Prop:=∃ev,w.cell? ⟨4,0,none⟩=some ev∧(ev= .nilIface∨∃te pe,ev= .iface te pe)
theorem XG.below {w w':World} (h:XG w) (hb:Below w.heap.size w w'):XG w':=by
 obtain⟨ev,h1,h2⟩:=h;exact⟨ev,(keep_below (fun _=>True) hb).cell h1 trivial,h2⟩
theorem XG.keep {ok:Nat→Prop} {w w':World} (h:XG w) (hk:KeepW ok w w') (ho:ok 4):XG w':=by
 obtain⟨ev,h1,h2⟩:=h;exact⟨ev,hk.cell h1 ho,h2⟩
structure RxW (w:World) (R:Nat) (s:ByteArray) (i:Nat):Prop where
 rd:RdW w R s i
 err:XG w
 ne:R≠4
theorem RxW.below {w w':World} {R:Nat} {s:ByteArray} {i:Nat} (h:RxW w R s i) (hb:Below w.heap.size w w'):RxW w' R s i:=⟨h.rd.below hb,h.err.below hb,h.ne⟩
theorem RxW.keep {ok:Nat→Prop} {w w':World} {R:Nat} {s:ByteArray} {i:Nat} (h:RxW w R s i) (hk:KeepW ok w w') (ho:ok R) (hg:ok 4):RxW w' R s i:=⟨h.rd.keep hk ho,h.err.keep hk hg,h.ne⟩
theorem RxW.move {w w':World} {R:Nat} {s:ByteArray} {i j:Nat} (h:RxW w R s i) (hk:KeepW (fun k=>k≠R) w w') (hr:RdW w' R s j):RxW w' R s j:=⟨hr,h.err.keep hk h.ne.symm,h.ne⟩
theorem zB7 (s:ByteArray) (w:World) (hs:s.size=2) (he:XG w):
  Calls Tryz.prog 129 #[.string ⟨#[80,97,114,115,101,85,105,110,116]⟩,.string s,.int .i64 16,.int .i64 8,.iface 200 (.int .i64 2)] w fun e w'=>∃N,e= .returned (.iface 202 (.pointer (some ⟨N,0,none⟩)))∧Below w.heap.size w w':=by
 obtain⟨ev,h1,h2⟩:=he;exact (Tryz.strconv_toError_syntax ⟨#[80,97,114,115,101,85,105,110,116]⟩ s 16 8 ev w (by rw[hs];decide) h1 h2).mono fun e w' ⟨N,e1,_,_,e2⟩=>⟨N,e1,e2⟩
theorem YK (s:ByteArray) (w:World) (hs:s.size=2) (he:XG w):
  Calls Tryz.prog 127 #[.string s,.int .i64 16,.int .i64 8] w fun e w'=>(match XH 0 (xM s) with
   | some n=>e= .returned (.tuple #[.int .u64 (n:Int),.nilIface])
   | none=>∃T a,e= .returned (.tuple #[.int .u64 0,.iface T (.pointer a)]))∧Below w.heap.size w w':=by
 have HU:=qh (zBD s w hs);rcases hh:XH 0 (xM s) with _ | n
 ·rw[hh] at HU;have HT:=qh (fun W (hb:Below w.heap.size w W)=>zB7 s W hs (he.below hb));unfold zGY at HU;clear hh he;go_enter Tryz.func127,Tryz.ntmps127;go_wp2_with fail
  go_fit HU.out;rintro e w1 ⟨rfl,hb⟩;have HB:=qh hb;have HT1:=qh (HT.out w1 hb);clear hb;go_wp2_with fail
  go_fit HT1.out;rintro e w2 ⟨N,rfl,hb2⟩;have HB2:=qh (HB.out.trans (hb2.mono HB.out.size));clear hb2;go_wp2_with fail
  go_ret2
  exact⟨⟨_,_,rfl⟩,HB2.out⟩
 ·rw[hh] at HU;unfold zGY at HU;clear hh he;obtain⟨a,ha⟩:∃a:Int,(n:Int)=a:=⟨_,rfl⟩;simp only[ha] at HU ⊢;clear ha;go_enter Tryz.func127,Tryz.ntmps127;go_wp2_with fail
  go_fit HU.out;rintro e w1 ⟨rfl,hb⟩;have HB:=qh hb;clear hb;go_wp2_with fail
  go_ret2
  exact⟨rfl,HB.out⟩
def MvP (s:ByteArray) (R:Nat) (w w':World) (o:Option (Nat×List Nat)) (e:Ending):Prop:=
 KeepW (fun k=>k≠R) w w'∧match o with
 | some (b,r)=>e= .returned (.int .u8 (b:Int))∧RdW w' R s (s.size-r.length)
 | none=>e=Xq
theorem zGS (s:ByteArray) (i:Nat) (h:i+1<s.size):Jr (zB s i)=(XH 0 [bR s i,bR s (i+1)]).map fun n=>(n,zB s (i+2)):=by
 rw[zH s i (by omega),zH s (i+1) h];simp only[Jr,XH];rcases digR (bR s i) with _ | x
 ·rfl
 rcases digR (bR s (i+1)) with _ | y
 ·rfl
 simp
theorem two_bytes (a b:Nat) (ha:a<256) (hb:b<256):xM (strOfNums [(a:Int),(b:Int)])= [a,b]:=by
 have e:strOfNums [(a:Int),(b:Int)]=zII [a,b]:=by
  apply ByteArray.ext;simp[strOfNums,zII]
 rw[e,Vl [a,b] (by intro x hx;simp at hx;omega)]
theorem zGT (a b n:Nat) (h:XH 0 [a,b]=some n):n<256:=by
 simp only[XH] at h;rcases ha:digR a with _ | x
 ·rw[ha] at h;cases h
 rw[ha] at h;rcases hb:digR b with _ | y
 ·rw[hb] at h;cases h
 rw[hb] at h;have h1:=Zn ha;have h2:=Zn hb;have:=Option.some.inj h;omega
theorem YL {w:World} {R:Nat} {s:ByteArray} {i:Nat} (h:RxW w R s i) (hi:i≤s.size) (hs:s.size≤1000):
  Calls Tryz.prog 126 #[.pointer (some ⟨R,0,none⟩)] w fun e w'=>MvP s R w w' (Jr (zB s i)) e:=by
 by_cases h0:i=s.size
 ·subst h0;have HN:=qh (ke h.rd);have HE:=qh (show Jr (zB s s.size)=none by rw[zf s _ (Nat.le_refl _)];rfl);clear h;go_enter Tryz.func126,Tryz.ntmps126;go_wp2_with fail
  go_fit HN.out;rintro e w1 ⟨rfl,hb⟩;exact⟨rfl,by rw[HE.out];exact⟨keep_below _ hb,rfl⟩⟩
 by_cases h1:i+1=s.size
 ·have HN:=qh (jI h.rd (by omega) hs);have HX:=qh (fun W (hr:RdW W R s (i+1))=>ke (h1▸hr));have HE:=qh (show Jr (zB s i)=none by rw[zH s _ (by omega),zf s _ (by omega)];rfl);clear h h1;go_enter Tryz.func126,Tryz.ntmps126;go_wp2_with fail
  go_fit HN.out;rintro e w1 ⟨rfl,hr,hk⟩;have H2:=qh (HX.out w1 hr);have HK:=qh hk;clear hr hk;go_wp2_with fail
  go_fit H2.out;rintro e w2 ⟨rfl,hb⟩;exact⟨rfl,by rw[HE.out];exact⟨HK.out.trans (keep_below _ hb),rfl⟩⟩
 ·have HN:=qh (jI h.rd (by omega) hs);have HX:=qh (fun W (hr:RdW W R s (i+1))=>jI hr (by omega) hs);have HE:=qh (zGS s i (by omega));have HM:=qh (fun W (hk:KeepW (fun k=>k≠R) w W)=>h.err.keep hk h.ne.symm);have hRW:=qh h;have ha:=j6 s i;have hb:=j6 s (i+1);obtain⟨a,haa⟩:∃a,bR s i=a:=⟨_,rfl⟩;obtain⟨b,hbb⟩:∃b,bR s (i+1)=b:=⟨_,rfl⟩;rw[haa] at HN ha HE;rw[hbb] at hb HE;simp only[hbb] at HX;have HP:=qh (fun W (he:XG W)=>YK (strOfNums [(a:Int),(b:Int)]) W rfl he);rw[two_bytes a b ha hb] at HP;have HCV:=qh (fun (W:World)=>run_convert_bytes_arg (P:=Tryz.prog) (W.alloc (.cells #[.int .u8 (a:Int),.int .u8 (b:Int)] 5)) 152 5 Tryz.underlying152 Tryz.underlying5 W.heap.size 0 2 2 [(a:Int),(b:Int)] rfl (by
   intro j hj;have h2:j=0∨j=1:=(by omega);rcases h2 with rfl | rfl<;>(unfold World.cell?;rw[heap_alloc_new];rfl)) 9 Tryz.underlying9)
  obtain⟨T,hT⟩:∃T,strOfNums [(a:Int),(b:Int)]=T:=⟨_,rfl⟩;simp only[hT] at HP HCV;clear h hT haa hbb;go_enter Tryz.func126,Tryz.ntmps126;go_wp2_with fail
  go_fit HN.out;rintro e w1 ⟨rfl,hr,hk⟩;have H2:=qh (HX.out w1 hr);have HK:=qh hk;clear hr hk;go_wp2_with fail
  go_fit H2.out;rintro e w2 ⟨rfl,hr,hk⟩;have HR:=qh hr;have HK2:=qh (HK.out.trans hk);have hcv:=HCV.out w2;clear hr hk;go_wp2_with fail
  have HB3:=qh (zA w2 (.cells #[.int .u8 (a:Int),.int .u8 (b:Int)] 5));have HK3:=qh (HK2.out.trans (keep_below _ HB3.out));have HP3:=qh (HP.out _ (HM.out _ HK3.out));rcases hh:XH 0 [a,b] with _ | n
  ·simp only[hh] at HP3;rw[hh] at HE;clear hh;go_fit HP3.out;rintro e w3 ⟨⟨U,p,rfl⟩,hb3⟩;have HB4:=qh (HK3.out.trans (keep_below _ hb3));have HNO:=qh (fun W=>jW W);clear hb3;go_wp2_with fail
   go_fit (HNO.out _);rintro e w4 ⟨rfl,rfl⟩;exact⟨rfl,by rw[HE.out];exact⟨HB4.out,rfl⟩⟩
  ·simp only[hh] at HP3;rw[hh] at HE;have hn:=zGT a b n hh;clear hh;have HF:Hid (MvP s R w2 w2 none Xq→True):=fun _=>trivial;have HRE:=qh (show s.size-(zB s (i+2)).length=i+2 by rw[rest_len];omega);obtain⟨z,hz⟩:∃z:Int,(n:Int)=z:=⟨_,rfl⟩;have z0:0≤z:=(by omega);have z1:z≤255:=(by omega);have HZ:=qh hz;rw[hz] at HP3;clear hz HF hn;go_fit HP3.out;rintro e w3 ⟨rfl,hb3⟩;have HB4:=qh (show RdW w3 R s (i+2)∧KeepW (fun k=>k≠R) w w3 from⟨(HR.out.below HB3.out).below hb3,HK3.out.trans (keep_below _ hb3)⟩);have HYES:=qh (fun W=>xn W);clear hb3;go_wp2_with fail
   go_fit (HYES.out _);rintro e w4 ⟨rfl,rfl⟩;go_wp2_with fail
   go_ret
   exact⟨HB4.out.2,by rw[HE.out];exact⟨by rw[HZ.out];rfl,by rw[HRE.out];exact HB4.out.1⟩⟩
theorem za (s:ByteArray) (i:Nat) (h:i≤s.size):s.size-(zB s i).length=i:=by rw[rest_len];omega
section
variable {w:World} {R:Nat} {s:ByteArray} {i:Nat}
theorem JN (h:RxW w R s i) (hi:i≤s.size) (hs:s.size≤1000):
  Calls Tryz.prog 124 #[.pointer (some ⟨R,0,none⟩)] w fun e w'=>MvP s R w w' (vO (zB s i)) e:=by
 by_cases h0:i=s.size
 ·subst h0;have HN:=qh (ke h.rd);have HE:=qh (show vO (zB s s.size)=none by rw[zf s _ (Nat.le_refl _)];rfl);clear h;go_enter Tryz.func124,Tryz.ntmps124;go_wp2_with fail
  go_fit HN.out;rintro e w1 ⟨rfl,hb⟩;exact⟨rfl,by rw[HE.out];exact⟨keep_below _ hb,rfl⟩⟩
 have HN:=qh (jI h.rd (by omega) hs);have HE:=qh (show vO (zB s i)=vO (bR s i::zB s (i+1)) by rw[zH s i (by omega)]);have HSZ:=qh (za s (i+1) (by omega));have hd:=j6 s i;have HX:=qh h;obtain⟨d,hdd⟩:∃d,bR s i=d:=⟨_,rfl⟩;rw[hdd] at HN HE hd;clear h hdd;by_cases e110:d=110
 ·subst e110;have HE2:=qh (show vO (110::zB s (i+1))=some (10,zB s (i+1)) from rfl);rw[show ((110:Nat):Int)=110 from rfl] at HN;clear hd;go_enter Tryz.func124,Tryz.ntmps124;go_wp2_with fail
  go_fit HN.out;rintro e w1 ⟨rfl,hr,hk⟩;have HR:=qh (And.intro hr hk);clear hr hk;go_wp2_with fail
  go_ret
  exact⟨HR.out.2,by rw[HE.out,HE2.out];exact⟨rfl,by rw[HSZ.out];exact HR.out.1⟩⟩
 have i110:((d:Int)==110)=false:=beq_eq_false_iff_ne.2 (by omega);by_cases e116:d=116
 ·subst e116;have HE2:=qh (show vO (116::zB s (i+1))=some (9,zB s (i+1)) from rfl);rw[show ((116:Nat):Int)=116 from rfl] at HN;clear hd;go_enter Tryz.func124,Tryz.ntmps124;go_wp2_with fail
  go_fit HN.out;rintro e w1 ⟨rfl,hr,hk⟩;have HR:=qh (And.intro hr hk);clear hr hk;go_wp2_with fail
  go_ret
  exact⟨HR.out.2,by rw[HE.out,HE2.out];exact⟨rfl,by rw[HSZ.out];exact HR.out.1⟩⟩
 have i116:((d:Int)==116)=false:=beq_eq_false_iff_ne.2 (by omega);by_cases e114:d=114
 ·subst e114;have HE2:=qh (show vO (114::zB s (i+1))=some (13,zB s (i+1)) from rfl);rw[show ((114:Nat):Int)=114 from rfl] at HN;clear hd;go_enter Tryz.func124,Tryz.ntmps124;go_wp2_with fail
  go_fit HN.out;rintro e w1 ⟨rfl,hr,hk⟩;have HR:=qh (And.intro hr hk);clear hr hk;go_wp2_with fail
  go_ret
  exact⟨HR.out.2,by rw[HE.out,HE2.out];exact⟨rfl,by rw[HSZ.out];exact HR.out.1⟩⟩
 have i114:((d:Int)==114)=false:=beq_eq_false_iff_ne.2 (by omega);by_cases e120:d=120
 ·subst e120;have HE2:=qh (show vO (120::zB s (i+1))=Jr (zB s (i+1)) from rfl);have HNU:=qh (fun W (hr:RdW W R s (i+1)) (hk:KeepW (fun k=>k≠R) w W)=>YL (HX.out.move hk hr) (by omega) hs);rw[show ((120:Nat):Int)=120 from rfl] at HN;clear hd i110 i116 i114 e110 e116 e114;rcases hh:Jr (zB s (i+1)) with _ | ⟨b,r⟩
  ·rw[hh] at HE2;simp only[hh] at HNU;clear hh;go_enter Tryz.func124,Tryz.ntmps124;go_wp2_with fail
   go_fit HN.out;rintro e w1 ⟨rfl,hr,hk⟩;have H2:=qh (HNU.out w1 hr hk);have HK:=qh hk;clear hr hk;go_wp2_with fail
   go_fit H2.out;rintro e w2 ⟨hk2,rfl⟩;exact⟨rfl,by rw[HE.out,HE2.out];exact⟨HK.out.trans hk2,rfl⟩⟩
  ·rw[hh] at HE2;simp only[hh] at HNU;clear hh;go_enter Tryz.func124,Tryz.ntmps124;go_wp2_with fail
   go_fit HN.out;rintro e w1 ⟨rfl,hr,hk⟩;have H2:=qh (HNU.out w1 hr hk);have HK:=qh hk;clear hr hk;go_wp2_with fail
   go_fit H2.out;rintro e w2 ⟨hk2,rfl,hr2⟩;have HR2:=qh (And.intro (HK.out.trans hk2) hr2);clear hk2 hr2;go_wp2_with fail
   go_ret
   exact⟨HR2.out.1,by rw[HE.out,HE2.out];exact⟨rfl,HR2.out.2⟩⟩
 have i120:((d:Int)==120)=false:=beq_eq_false_iff_ne.2 (by omega);have HSP:=qh (fun W=>kE d W hd);by_cases hsp:jD d=true
 ·have HE2:=qh (show vO (d::zB s (i+1))=some (d,zB s (i+1)) by simp only[vO];rw[if_neg e110,if_neg e116,if_neg e114,if_neg e120,if_pos hsp]);rw[hsp] at HSP;have HYES:=qh (fun W=>xn W);clear e110 e116 e114 e120 hsp hd;go_enter Tryz.func124,Tryz.ntmps124;go_wp2_with fail
  go_fit HN.out;rintro e w1 ⟨rfl,hr,hk⟩;have HR:=qh (And.intro hr hk);clear hr hk;go_wp2_with fail
  go_fit (HSP.out _);rintro e w2 ⟨rfl,rfl⟩;go_wp2_with fail
  go_fit (HYES.out _);rintro e w3 ⟨rfl,rfl⟩;go_wp2_with fail
  go_ret
  exact⟨HR.out.2,by rw[HE.out,HE2.out];exact⟨rfl,by rw[HSZ.out];exact HR.out.1⟩⟩
 ·have HE2:=qh (show vO (d::zB s (i+1))=none by simp only[vO];rw[if_neg e110,if_neg e116,if_neg e114,if_neg e120,if_neg hsp]);rw[show jD d=false by simpa using hsp] at HSP;have HNO:=qh (fun W=>jW W);clear e110 e116 e114 e120 hsp hd;go_enter Tryz.func124,Tryz.ntmps124;go_wp2_with fail
  go_fit HN.out;rintro e w1 ⟨rfl,hr,hk⟩;have HR:=qh (And.intro hr hk);clear hr hk;go_wp2_with fail
  go_fit (HSP.out _);rintro e w2 ⟨rfl,rfl⟩;go_wp2_with fail
  go_fit (HNO.out _);rintro e w3 ⟨rfl,rfl⟩;exact⟨rfl,by rw[HE.out,HE2.out];exact⟨HR.out.2,rfl⟩⟩
theorem yd (h:RxW w R s i) (hi:i≤s.size) (hs:s.size≤1000):
  Calls Tryz.prog 121 #[.pointer (some ⟨R,0,none⟩)] w fun e w'=>MvP s R w w' (letR true (zB s i)) e:=by
 by_cases h0:i=s.size
 ·subst h0;have HN:=qh (ke h.rd);have HE:=qh (show letR true (zB s s.size)=none by rw[zf s _ (Nat.le_refl _)];rfl);clear h;go_enter Tryz.func121,Tryz.ntmps121;go_wp2_with fail
  go_fit HN.out;rintro e w1 ⟨rfl,hb⟩;exact⟨rfl,by rw[HE.out];exact⟨keep_below _ hb,rfl⟩⟩
 have HN:=qh (jI h.rd (by omega) hs);have HE:=qh (show letR true (zB s i)=letR true (bR s i::zB s (i+1)) by rw[zH s i (by omega)]);have HSZ:=qh (za s (i+1) (by omega));have hd:=j6 s i;have HX:=qh h;obtain⟨d,hdd⟩:∃d,bR s i=d:=⟨_,rfl⟩;rw[hdd] at HN HE hd;clear h hdd;by_cases e92:d=92
 ·subst e92;have HE2:=qh (show letR true (92::zB s (i+1))=vO (zB s (i+1)) from rfl);have HNU:=qh (fun W (hr:RdW W R s (i+1)) (hk:KeepW (fun k=>k≠R) w W)=>JN (HX.out.move hk hr) (by omega) hs);rw[show ((92:Nat):Int)=92 from rfl] at HN;clear hd;rcases hh:vO (zB s (i+1)) with _ | ⟨b,r⟩
  ·rw[hh] at HE2;simp only[hh] at HNU;clear hh;go_enter Tryz.func121,Tryz.ntmps121;go_wp2_with fail
   go_fit HN.out;rintro e w1 ⟨rfl,hr,hk⟩;have H2:=qh (HNU.out w1 hr hk);have HK:=qh hk;clear hr hk;go_wp2_with fail
   go_fit H2.out;rintro e w2 ⟨hk2,rfl⟩;exact⟨rfl,by rw[HE.out,HE2.out];exact⟨HK.out.trans hk2,rfl⟩⟩
  ·rw[hh] at HE2;simp only[hh] at HNU;clear hh;go_enter Tryz.func121,Tryz.ntmps121;go_wp2_with fail
   go_fit HN.out;rintro e w1 ⟨rfl,hr,hk⟩;have H2:=qh (HNU.out w1 hr hk);have HK:=qh hk;clear hr hk;go_wp2_with fail
   go_fit H2.out;rintro e w2 ⟨hk2,rfl,hr2⟩;have HR2:=qh (And.intro (HK.out.trans hk2) hr2);clear hk2 hr2;go_wp2_with fail
   go_ret
   exact⟨HR2.out.1,by rw[HE.out,HE2.out];exact⟨rfl,HR2.out.2⟩⟩
 have i92:((d:Int)==92)=false:=beq_eq_false_iff_ne.2 (by omega);have HSP:=qh (fun W=>kE d W hd);by_cases hsp:jD d=true
 ·have HE2:=qh (show letR true (d::zB s (i+1))=none by simp only[letR];rw[if_neg e92,if_pos ⟨hsp,.inl trivial⟩]);rw[hsp] at HSP;have HNO:=qh (fun W=>jW W);clear e92 hsp hd;go_enter Tryz.func121,Tryz.ntmps121;go_wp2_with fail
  go_fit HN.out;rintro e w1 ⟨rfl,hr,hk⟩;have HR:=qh (And.intro hr hk);clear hr hk;go_wp2_with fail
  go_fit (HSP.out _);rintro e w2 ⟨rfl,rfl⟩;go_wp2_with fail
  go_fit (HNO.out _);rintro e w3 ⟨rfl,rfl⟩;exact⟨rfl,by rw[HE.out,HE2.out];exact⟨HR.out.2,rfl⟩⟩
 ·have HE2:=qh (show letR true (d::zB s (i+1))=some (d,zB s (i+1)) by simp only[letR];rw[if_neg e92,if_neg (fun e=>hsp e.1)]);rw[show jD d=false by simpa using hsp] at HSP;have HYES:=qh (fun W=>xn W);clear e92 hsp hd;go_enter Tryz.func121,Tryz.ntmps121;go_wp2_with fail
  go_fit HN.out;rintro e w1 ⟨rfl,hr,hk⟩;have HR:=qh (And.intro hr hk);clear hr hk;go_wp2_with fail
  go_fit (HSP.out _);rintro e w2 ⟨rfl,rfl⟩;go_wp2_with fail
  go_fit (HYES.out _);rintro e w3 ⟨rfl,rfl⟩;go_wp2_with fail
  go_ret
  exact⟨HR.out.2,by rw[HE.out,HE2.out];exact⟨rfl,by rw[HSZ.out];exact HR.out.1⟩⟩
end
end Go.Proofs.YtjeomlickkpebaaGreatDoor
namespace Go.Proofs.YtjeomlickkpebaaGreatDoor
def bkF (d:Dfa) (k z b:Nat):List Nat:=(if z=d.n then [d.n] else [])++(List.range k).filter fun y=>decide (toN d y b=z)
def bkG (d:Dfa) (k B z b:Nat):List Nat:=if b<B then bkF d (k+1) z b else bkF d k z b
section
variable {d:Dfa} {k B z b:Nat}
theorem VJ:bkF d (k+1) z b=bkF d k z b++if toN d k b=z then [k] else []:=by
 unfold bkF;rw[List.range_succ,List.filter_append,List.append_assoc];congr 2;by_cases c:toN d k b=z
 ·rw[if_pos c,List.filter_cons_of_pos (by simpa using c),List.filter_nil]
 ·rw[if_neg c,List.filter_cons_of_neg (by simpa using c),List.filter_nil]
theorem zB8:bkG d k 0 z b=bkF d k z b:=if_neg (Nat.not_lt_zero _)
theorem zGU (hb:b<256):bkG d k 256 z b=bkF d (k+1) z b:=if_pos hb
theorem zE9:bkG d k (B+1) (toN d k B) B=bkG d k B (toN d k B) B++ [k]:=by
 unfold bkG;rw[if_pos (Nat.lt_succ_self _),if_neg (Nat.lt_irrefl _),VJ,if_pos rfl]
theorem zB9 (h:¬(z=toN d k B∧b=B)):bkG d k (B+1) z b=bkG d k B z b:=by
 unfold bkG;by_cases c:b=B
 ·subst c;rw[if_pos (Nat.lt_succ_self _),if_neg (Nat.lt_irrefl _),VJ,if_neg (fun e=>h ⟨e.symm,rfl⟩),List.append_nil]
 ·by_cases e:b<B
  ·rw[if_pos e,if_pos (by omega)]
  ·rw[if_neg e,if_neg (by omega)]
theorem zBA:(bkF d k z b).length≤k+1:=by
 unfold bkF;rw[List.length_append];have h1:(if z=d.n then [d.n] else []).length≤1:=by split<;>simp
 have h2:((List.range k).filter fun y=>decide (toN d y b=z)).length≤k:=by
  have:=List.length_filter_le (fun y=>decide (toN d y b=z)) (List.range k)
  rwa [List.length_range] at this
 omega
theorem zGV:(bkG d k B z b).length≤k+2:=by
 unfold bkG;split
 ·exact zBA
 ·exact Nat.le_succ_of_le zBA
theorem zI4 (b:Nat):toN d d.n b=d.n:=ZD fun e=>Nat.lt_irrefl _ e.1
theorem zI5:BkO d (bkF d d.n):=by
 refine⟨fun z b _ _=> ?_,fun z b y _ _=> ?_⟩
 ·unfold bkF;refine List.nodup_append.2 ⟨by split<;>simp,List.Nodup.sublist (List.filter_sublist) List.nodup_range,fun a ha b hb e=> ?_⟩;have hb2:=List.mem_range.1 (List.mem_filter.1 hb).1;split at ha
  ·rw[List.mem_singleton.1 ha] at e;omega
  ·cases ha
 ·unfold bkF;rw[List.mem_append,List.mem_filter,List.mem_range,decide_eq_true_iff];constructor
  ·rintro (h | ⟨h1,h2⟩)
   ·split at h
    ·rename_i hz;rw[List.mem_singleton.1 h,zI4,hz];exact⟨Nat.le_refl _,rfl⟩
    ·cases h
   ·exact⟨Nat.le_of_lt h1,h2⟩
  ·rintro⟨h1,h2⟩;by_cases c:y=d.n
   ·subst c;rw[zI4] at h2;left;rw[if_pos h2.symm];exact List.mem_singleton.2 rfl
   ·exact .inr ⟨by omega,h2⟩
end
end Go.Proofs.YtjeomlickkpebaaGreatDoor
