/-
  limnerref10.letter: what it returns.
-/
import Derived.Test.YtjeomlickkpebaaGreatDoorBe4
namespace Go.Proofs.YtjeomlickkpebaaGreatDoor
open Go.RowKit
def QQ (s:ByteArray) (i:Nat) (br:Bool):Value:=
 match letR br (zB s i) with
 | some (b,r)=> .tuple #[.int .u8 (b:Int),.int .i64 ((s.size-r.length:Nat):Int)]
 | none=> .tuple #[.int .u8 0,.int .i64 (-1)]
theorem Kz (c:Nat):zCM (c:Int)=match digR c with
 | some x=>(x:Int)
 | none=> -1:=by
 unfold zCM digR;by_cases h1:48≤c∧c≤57
 ·rw[if_pos (by omega),if_pos h1];show _=((c-48:Nat):Int);omega
 by_cases h2:97≤c∧c≤102
 ·rw[if_neg (by omega),if_pos (by omega),if_neg h1,if_pos h2];show _=((c-87:Nat):Int);omega
 by_cases h3:65≤c∧c≤70
 ·rw[if_neg (by omega),if_neg (by omega),if_pos (by omega),if_neg h1,if_neg h2,if_pos h3];show _=((c-55:Nat):Int);omega
 ·rw[if_neg (by omega),if_neg (by omega),if_neg (by omega),if_neg h1,if_neg h2,if_neg h3]
section
variable {s:ByteArray} {i:Nat} {br:Bool}
theorem zDI (h:s.size≤i):QQ s i br= .tuple #[.int .u8 0,.int .i64 (-1)]:=by
 unfold QQ;rw[zf s i h];rfl
theorem vX (h:i<s.size) (h92:bR s i≠92) (hs:¬(jD (bR s i)=true∧(br=true∨bR s i≠45∧bR s i≠94))):QQ s i br= .tuple #[.int .u8 (bR s i:Int),.int .i64 ((i:Int)+1)]:=by
 unfold QQ;rw[zH s i h];simp only[letR,if_neg h92,if_neg hs];rw[rest_len,show ((s.size-(s.size-(i+1)):Nat):Int)=(i:Int)+1 by omega]
theorem Qo (h:i<s.size) (h92:bR s i≠92) (hs:jD (bR s i)=true∧(br=true∨bR s i≠45∧bR s i≠94)):QQ s i br= .tuple #[.int .u8 0,.int .i64 (-1)]:=by
 unfold QQ;rw[zH s i h];simp only[letR,if_neg h92,if_pos hs]
theorem kZ (h:i<s.size) (h92:bR s i=92):QQ s i br=match vO (zB s (i+1)) with
 | some (b,r)=> .tuple #[.int .u8 (b:Int),.int .i64 ((s.size-r.length:Nat):Int)]
 | none=> .tuple #[.int .u8 0,.int .i64 (-1)]:=by
 unfold QQ;rw[zH s i h];simp only[letR,if_pos h92]
theorem Jv (h:i<s.size) (h92:bR s i=92) (h1:s.size≤i+1):QQ s i br= .tuple #[.int .u8 0,.int .i64 (-1)]:=by
 rw[kZ h h92,zf s _ h1];rfl
theorem jV (h92:bR s i=92) (h1:i+1<s.size) (x:Nat) (hx:vO (bR s (i+1)::zB s (i+2))=some (x,zB s (i+2))):QQ s i br= .tuple #[.int .u8 (x:Int),.int .i64 ((i:Int)+2)]:=by
 rw[kZ (by omega) h92,zH s _ h1,hx];simp only;rw[rest_len,show ((s.size-(s.size-(i+2)):Nat):Int)=(i:Int)+2 by omega]
theorem vy (h92:bR s i=92) (h1:i+1<s.size) (hx:vO (bR s (i+1)::zB s (i+2))=none):QQ s i br= .tuple #[.int .u8 0,.int .i64 (-1)]:=by
 rw[kZ (by omega) h92,zH s _ h1,hx]
theorem zDJ (h92:bR s i=92) (h1:i+3<s.size) (h120:bR s (i+1)=120) (x y:Nat) (hx:digR (bR s (i+2))=some x) (hy:digR (bR s (i+3))=some y):QQ s i br= .tuple #[.int .u8 ((x:Int)*16+(y:Int)),.int .i64 ((i:Int)+4)]:=by
 rw[kZ (by omega) h92,zH s (i+1) (by omega),zH s (i+2) (by omega),zH s (i+3) (by omega)];simp only[vO,h120,Jr,hx,hy];rw[if_neg (by decide),if_neg (by decide),if_neg (by decide),if_pos trivial];simp only;rw[rest_len,show ((s.size-(s.size-(i+3+1)):Nat):Int)=(i:Int)+4 by omega,show ((x*16+y:Nat):Int)=(x:Int)*16+(y:Int) by omega]
theorem vz (h92:bR s i=92) (h1:i+1<s.size) (h120:bR s (i+1)=120) (hn:s.size≤i+3∨digR (bR s (i+2))=none∨digR (bR s (i+3))=none):QQ s i br= .tuple #[.int .u8 0,.int .i64 (-1)]:=by
 refine vy h92 h1 ?_;simp only[vO,h120];rw[if_neg (by decide),if_neg (by decide),if_neg (by decide),if_pos trivial];by_cases h3:i+3<s.size
 ·rw[zH s (i+2) (by omega),zH s (i+3) h3];simp only[Jr];rcases hn with hn | hn | hn
  ·omega
  ·rw[hn]
  ·rw[hn];split
   ·rename_i e;cases e
   ·rfl
 ·by_cases h2:i+2<s.size
  ·rw[zH s (i+2) h2,zf s _ (by omega)];rfl
  ·rw[zf s _ (by omega)];rfl
end
set_option maxHeartbeats 4000000 in
theorem y9 (s:ByteArray) (i:Nat) (br:Bool) (w:World) (hi:i≤90000):
  Calls Tryz.prog 81 #[.string s,.int .i64 (i:Int),.bool br] w fun e w'=>e= .returned (QQ s i br)∧∃m,w'=w.drewN m:=by
 have HA:=qh (ZM s i w (by omega));have HA1:=qh (ZM s (i+1) w (by omega));rw[show ((i+1:Nat):Int)=(i:Int)+1 by omega] at HA1;have hi':(i:Int)≤90000:=by omega
 have hi0:(0:Int)≤(i:Int):=by omega
 by_cases h:i<s.size;case neg=>
  have HE:=qh (zDI (br:=br) (show s.size≤i by omega));have e1:atI s i= -1:=if_neg h;rw[e1] at HA;clear e1;go_enter Tryz.func81,Tryz.ntmps81;go_wp2_with fail
  go_fit HA.out;rintro e w2 ⟨rfl,rfl⟩;go_wp2_with fail
  go_ret2
  exact⟨by rw[HE.out];rfl,0,rfl⟩
 case pos=>
 have e1:atI s i=(bR s i:Int):=if_pos h;rw[e1] at HA;clear e1;have hc256:=j6 s i;obtain⟨c,hc⟩:∃c,bR s i=c:=⟨_,rfl⟩;rw[hc] at HA hc256;have c0:(0:Int)≤(c:Int):=by omega
 have c255:(c:Int)≤255:=by omega
 by_cases h92:c=92;case neg=>
  have HSP:=qh (kC c w hc256);have n92:¬(c:Int)=92:=by omega
  by_cases hs:jD c=true
  ·rw[hs] at HSP;cases br with
   | true=>
    have HE:=qh (Qo (br:=true) h (by rw[hc];exact h92) ⟨by rw[hc];exact hs,.inl rfl⟩);clear h hc h92 hs;go_enter Tryz.func81,Tryz.ntmps81;go_wp2_with fail
    go_fit HA.out;rintro e w2 ⟨rfl,rfl⟩;go_wp2_with fail
    go_fit HSP.out;rintro e w2 ⟨rfl,rfl⟩;go_wp2_with fail
    go_ret2
    exact⟨by rw[HE.out];rfl,0,rfl⟩
   | false=>
    by_cases h45:c=45
    ·subst h45;have HE:=qh (vX (br:=false) h (by rw[hc];exact h92) (by rw[hc];simp));rw[hc] at HE;clear h hc h92 hs n92 c0 c255;go_enter Tryz.func81,Tryz.ntmps81;go_wp2_with fail
     go_fit HA.out;rintro e w2 ⟨rfl,rfl⟩;go_wp2_with fail
     go_fit HSP.out;rintro e w2 ⟨rfl,rfl⟩;go_wp2_with fail
     go_ret2
     exact⟨by rw[HE.out];rfl,0,rfl⟩
    by_cases h94:c=94
    ·subst h94;have HE:=qh (vX (br:=false) h (by rw[hc];exact h92) (by rw[hc];simp));rw[hc] at HE;clear h hc h92 hs n92 c0 c255;go_enter Tryz.func81,Tryz.ntmps81;go_wp2_with fail
     go_fit HA.out;rintro e w2 ⟨rfl,rfl⟩;go_wp2_with fail
     go_fit HSP.out;rintro e w2 ⟨rfl,rfl⟩;go_wp2_with fail
     go_ret2
     exact⟨by rw[HE.out];rfl,0,rfl⟩
    ·have HE:=qh (Qo (br:=false) h (by rw[hc];exact h92) ⟨by rw[hc];exact hs,.inr ⟨by rw[hc];exact h45,by rw[hc];exact h94⟩⟩);have b45:((c:Int) != 45)=true:=bne_iff_ne.2 (by omega);have b94:((c:Int) != 94)=true:=bne_iff_ne.2 (by omega);clear h hc h92 hs h45 h94;go_enter Tryz.func81,Tryz.ntmps81;go_wp2_with fail
     go_fit HA.out;rintro e w2 ⟨rfl,rfl⟩;go_wp2_with fail
     go_fit HSP.out;rintro e w2 ⟨rfl,rfl⟩;go_wp2_with fail
     go_ret2
     exact⟨by rw[HE.out];rfl,0,rfl⟩
  ·have hs':jD c=false:=(by simpa using hs);rw[hs'] at HSP;have HE:=qh (vX (br:=br) h (by rw[hc];exact h92) (by rw[hc];exact fun h=>hs h.1));rw[hc] at HE;clear h hc h92 hs hs';go_enter Tryz.func81,Tryz.ntmps81;go_wp2_with fail
   go_fit HA.out;rintro e w2 ⟨rfl,rfl⟩;go_wp2_with fail
   go_fit HSP.out;rintro e w2 ⟨rfl,rfl⟩;go_wp2_with fail
   go_ret2
   exact⟨by rw[HE.out];rfl,0,rfl⟩
 case pos=>
 subst h92;clear c0 c255 hc256;by_cases h1:i+1<s.size;case neg=>
  have HE:=qh (Jv (br:=br) h hc (show s.size≤i+1 by omega));have e1:atI s (i+1)= -1:=if_neg h1;rw[e1] at HA1;clear e1 h hc h1;go_enter Tryz.func81,Tryz.ntmps81;go_wp2_with fail
  go_fit HA.out;rintro e w2 ⟨rfl,rfl⟩;go_wp2_with fail
  go_fit HA1.out;rintro e w2 ⟨rfl,rfl⟩;go_wp2_with fail
  go_ret2
  exact⟨by rw[HE.out];rfl,0,rfl⟩
 case pos=>
 have e1:atI s (i+1)=(bR s (i+1):Int):=if_pos h1;rw[e1] at HA1;clear e1;have hd256:=j6 s (i+1);obtain⟨d,hd⟩:∃d,bR s (i+1)=d:=⟨_,rfl⟩;rw[hd] at HA1 hd256;by_cases h110:d=110
 ·subst h110;have HE:=qh (jV (br:=br) hc h1 10 (by rw[hd];rfl));clear hd256;clear h hc h1 hd;go_enter Tryz.func81,Tryz.ntmps81;go_wp2_with fail
  go_fit HA.out;rintro e w2 ⟨rfl,rfl⟩;go_wp2_with fail
  go_fit HA1.out;rintro e w2 ⟨rfl,rfl⟩;go_wp2_with fail
  go_ret2
  exact⟨by rw[HE.out];rfl,0,rfl⟩
 by_cases h116:d=116
 ·subst h116;have HE:=qh (jV (br:=br) hc h1 9 (by rw[hd];rfl));clear hd256;clear h hc h1 hd;go_enter Tryz.func81,Tryz.ntmps81;go_wp2_with fail
  go_fit HA.out;rintro e w2 ⟨rfl,rfl⟩;go_wp2_with fail
  go_fit HA1.out;rintro e w2 ⟨rfl,rfl⟩;go_wp2_with fail
  go_ret2
  exact⟨by rw[HE.out];rfl,0,rfl⟩
 by_cases h114:d=114
 ·subst h114;have HE:=qh (jV (br:=br) hc h1 13 (by rw[hd];rfl));clear hd256;clear h hc h1 hd;go_enter Tryz.func81,Tryz.ntmps81;go_wp2_with fail
  go_fit HA.out;rintro e w2 ⟨rfl,rfl⟩;go_wp2_with fail
  go_fit HA1.out;rintro e w2 ⟨rfl,rfl⟩;go_wp2_with fail
  go_ret2
  exact⟨by rw[HE.out];rfl,0,rfl⟩
 have n110:¬(d:Int)=110:=by omega
 have n116:¬(d:Int)=116:=by omega
 have n114:¬(d:Int)=114:=by omega
 have d0:(0:Int)≤(d:Int):=by omega
 have d255:(d:Int)≤255:=by omega
 have HSP:=qh (kC d w hd256);by_cases h120:d=120;case neg=>
  have n120:¬(d:Int)=120:=by omega
  by_cases hs:jD d=true
  ·rw[hs] at HSP;have HE:=qh (jV (br:=br) hc h1 d (by rw[hd];simp only[vO];rw[if_neg h110,if_neg h116,if_neg h114,if_neg h120,if_pos hs]));clear h110 h116 h114 h120 hs hd256;clear h hc h1 hd;go_enter Tryz.func81,Tryz.ntmps81;go_wp2_with fail
   go_fit HA.out;rintro e w2 ⟨rfl,rfl⟩;go_wp2_with fail
   go_fit HA1.out;rintro e w2 ⟨rfl,rfl⟩;go_wp2_with fail
   go_fit HSP.out;rintro e w2 ⟨rfl,rfl⟩;go_wp2_with fail
   go_ret2
   exact⟨by rw[HE.out];rfl,0,rfl⟩
  ·have hs':jD d=false:=(by simpa using hs);rw[hs'] at HSP;have HE:=qh (vy (br:=br) hc h1 (by rw[hd];simp only[vO];rw[if_neg h110,if_neg h116,if_neg h114,if_neg h120,if_neg hs]));clear h110 h116 h114 h120 hs hs' hd256;clear h hc h1 hd;go_enter Tryz.func81,Tryz.ntmps81;go_wp2_with fail
   go_fit HA.out;rintro e w2 ⟨rfl,rfl⟩;go_wp2_with fail
   go_fit HA1.out;rintro e w2 ⟨rfl,rfl⟩;go_wp2_with fail
   go_fit HSP.out;rintro e w2 ⟨rfl,rfl⟩;go_wp2_with fail
   go_ret2
   exact⟨by rw[HE.out];rfl,0,rfl⟩
 case pos=>
 subst h120;clear n110 n116 n114 d0 d255 h110 h116 h114 hd256;rw[show jD 120=false from rfl] at HSP;by_cases h3:i+3<s.size;case neg=>
  have HE:=qh (vz (br:=br) hc h1 hd (.inl (show s.size≤i+3 by omega)));have n3:¬((i:Int)+3<(s.size:Int)):=by omega
  clear h hc h1 hd;clear h3;go_enter Tryz.func81,Tryz.ntmps81;go_wp2_with fail
  go_fit HA.out;rintro e w2 ⟨rfl,rfl⟩;go_wp2_with fail
  go_fit HA1.out;rintro e w2 ⟨rfl,rfl⟩;go_wp2_with fail
  go_fit HSP.out;rintro e w2 ⟨rfl,rfl⟩;go_wp2_with fail
  go_ret2
  exact⟨by rw[HE.out];rfl,0,rfl⟩
 case pos=>
 have p3:(i:Int)+3<(s.size:Int):=by omega
 have p2:(i:Int)+2<(s.size:Int):=by omega
 have g2:=zCN s (i+2) (by omega);have g3:=zCN s (i+3) h3;have x256:=j6 s (i+2);have y256:=j6 s (i+3);have HX:=qh (fun W=>Zq (bR s (i+2):Int) W (by omega) (by omega));have HY:=qh (fun W=>Zq (bR s (i+3):Int) W (by omega) (by omega));have hx:=Kz (bR s (i+2));have hy:=Kz (bR s (i+3));have HN:=qh (fun (hn:digR (bR s (i+2))=none∨digR (bR s (i+3))=none)=>vz (br:=br) hc h1 hd (.inr hn));have HM:=qh (fun x y (hx:digR (bR s (i+2))=some x) (hy:digR (bR s (i+3))=some y)=>zDJ (br:=br) hc h3 hd x y hx hy);have t2:((i+2:Nat):Int)=(i:Int)+2:=by omega
 have t3:((i+3:Nat):Int)=(i:Int)+3:=by omega
 have T2:((i:Int)+2).toNat=i+2:=by omega
 have T3:((i:Int)+3).toNat=i+3:=by omega
 obtain⟨X,hX⟩:∃X,bR s (i+2)=X:=⟨_,rfl⟩;obtain⟨Y,hY⟩:∃Y,bR s (i+3)=Y:=⟨_,rfl⟩;rw[hX] at g2 HX hx HN HM x256;rw[hY] at g3 HY hy HN HM y256;clear hX hY;cases hdx:digR X with
 | none=>
  rw[hdx] at hx;simp only at hx;have HE:=qh (HN.out (.inl hdx));rw[hx] at HX;clear hx hy HN HM hdx HY g3 T3 t3;clear h hc h1 hd;go_enter Tryz.func81,Tryz.ntmps81;go_wp2_with fail
  go_fit HA.out;rintro e w2 ⟨rfl,rfl⟩;go_wp2_with fail
  go_fit HA1.out;rintro e w2 ⟨rfl,rfl⟩;go_wp2_with fail
  go_fit (HX.out _);rintro e w2 ⟨rfl,rfl⟩;go_wp2_with fail
  go_fit HSP.out;rintro e w2 ⟨rfl,rfl⟩;go_wp2_with fail
  go_ret2
  exact⟨by rw[HE.out];rfl,0,rfl⟩
 | some x=>
  have x16:=Zn hdx;rw[hdx] at hx;simp only at hx;rw[hx] at HX;clear hx;have x0:(0:Int)≤(x:Int):=by omega
  have x15:(x:Int)≤15:=by omega
  cases hdy:digR Y with
  | none=>
   rw[hdy] at hy;simp only at hy;have HE:=qh (HN.out (.inr hdy));rw[hy] at HY;clear hy HN HM hdx hdy;clear h hc h1 hd;go_enter Tryz.func81,Tryz.ntmps81;go_wp2_with fail
   go_fit HA.out;rintro e w2 ⟨rfl,rfl⟩;go_wp2_with fail
   go_fit HA1.out;rintro e w2 ⟨rfl,rfl⟩;go_wp2_with fail
   go_fit (HX.out _);rintro e w2 ⟨rfl,rfl⟩;go_wp2_with fail
   go_fit (HY.out _);rintro e w2 ⟨rfl,rfl⟩;go_wp2_with fail
   go_fit HSP.out;rintro e w2 ⟨rfl,rfl⟩;go_wp2_with fail
   go_ret2
   exact⟨by rw[HE.out];rfl,0,rfl⟩
  | some y=>
   have y16:=Zn hdy;rw[hdy] at hy;simp only at hy;rw[hy] at HY;have HE:=qh (HM.out x y hdx hdy);have y0:(0:Int)≤(y:Int):=(by omega);have y15:(y:Int)≤15:=(by omega);clear hy HN HM hdx hdy;clear h hc h1 hd;go_enter Tryz.func81,Tryz.ntmps81;go_wp2_with fail
   go_fit HA.out;rintro e w2 ⟨rfl,rfl⟩;go_wp2_with fail
   go_fit HA1.out;rintro e w2 ⟨rfl,rfl⟩;go_wp2_with fail
   go_fit (HX.out _);rintro e w2 ⟨rfl,rfl⟩;go_wp2_with fail
   go_fit (HY.out _);rintro e w2 ⟨rfl,rfl⟩;go_wp2_with fail
   have l2:(0:Int)≤(i:Int)+2:=(by omega);have l3:(0:Int)≤(i:Int)+3:=(by omega);have m2:=IntWalk.i64_in ((i:Int)+2) (by omega);have m3:=IntWalk.i64_in ((i:Int)+3) (by omega);have m4:=IntWalk.i64_in ((i:Int)+4) (by omega);have m5:=IntWalk.i64_in ((x:Int)*16) (by omega);have m6:=IntWalk.i64_in ((x:Int)*16+(y:Int)) (by omega);have m7:=IntWalk.u8_in ((x:Int)*16+(y:Int)) (by omega);go_quiet (first | (go_at_call_of 89 (Value.int .u8 (X:Int));exact Calls.quiet_of_same (HX.out _)) | (go_at_call_of 89 (Value.int .u8 (Y:Int));exact Calls.quiet_of_same (HY.out _)))
   go_wp2_with fail
   go_ret2
   exact⟨by rw[HE.out];rfl,nq,rfl⟩
end Go.Proofs.YtjeomlickkpebaaGreatDoor
