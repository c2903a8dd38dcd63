/-
  limnerref10: special, Has, at, digit, sign: what each returns.
-/
import Derived.Deep.Cut
import Derived.Test.YtjeomlickkpebaaGreatDoorBe3
import Derived.Test.YtjeomlickkpebaaGreatDoorBe2
set_option maxHeartbeats 2000000
namespace Go.Proofs.YtjeomlickkpebaaGreatDoor
open Go.RowKit
def atI (s:ByteArray) (i:Nat):Int:=if i<s.size then (bR s i:Int) else -1
theorem ZM (s:ByteArray) (i:Nat) (w:World) (hi:i≤100000):
  Calls Tryz.prog 64 #[.string s,.int .i64 (i:Int)] w fun e w'=>e= .returned (.int .i64 (atI s i))∧w'=w:=by
 by_cases h:i<s.size
 ·have hb:=zCN s i h;have h1:(i:Int)<(s.size:Int):=by omega
  have h0:(0:Int)≤(i:Int):=by omega
  have hlt:=j6 s i;have HA:Hid (atI s i=(bR s i:Int)):=if_pos h;obtain⟨b,hbb⟩:∃b,bR s i=b:=⟨_,rfl⟩;rw[hbb] at hb hlt HA;clear hbb;go_enter Tryz.func64,Tryz.ntmps64;go_wp2_with fail
  go_ret
  exact⟨by rw[HA.out];rfl,rfl⟩
 ·have h1:(s.size:Int)≤(i:Int):=by omega
  have HA:Hid (atI s i= -1):=if_neg h;go_enter Tryz.func64,Tryz.ntmps64;go_wp2_with fail
  go_ret
  exact⟨by rw[HA.out];rfl,rfl⟩
def Qp (c:Int):Int:=if c=42 then 4 else if c=43 then 5 else if c=63 then 6 else 0
theorem zA0 (c:Int) (w:World):
  Calls Tryz.prog 67 #[.int .i64 c] w fun e w'=>e= .returned (.int .i64 (Qp c))∧w'=w:=by
 unfold Qp;by_cases h1:c=42
 ·subst h1;go_enter Tryz.func67,Tryz.ntmps67;go_wp2
  go_ret
  exact⟨rfl,rfl⟩
 by_cases h2:c=43
 ·subst h2;go_enter Tryz.func67,Tryz.ntmps67;go_wp2
  go_ret
  exact⟨rfl,rfl⟩
 by_cases h3:c=63
 ·subst h3;go_enter Tryz.func67,Tryz.ntmps67;go_wp2
  go_ret
  exact⟨rfl,rfl⟩
 ·rw[if_neg h1,if_neg h2,if_neg h3];go_enter Tryz.func67,Tryz.ntmps67;go_wp2
  go_ret
  exact⟨rfl,rfl⟩
def zCM (c:Int):Int:=if 48≤c∧c≤57 then c-48 else if 97≤c∧c≤102 then c-97+10 else if 65≤c∧c≤70 then c-65+10 else -1
theorem Zq (c:Int) (w:World) (h0:0≤c) (hc:c<256):
  Calls Tryz.prog 89 #[.int .u8 c] w fun e w'=>e= .returned (.int .i64 (zCM c))∧w'=w:=by
 by_cases h1:48≤c∧c≤57
 ·have HD:Hid (zCM c=c-48):=if_pos h1;have g1:=h1.1;have g2:=h1.2;clear h1;go_enter Tryz.func89,Tryz.ntmps89;go_wp2_with fail
  go_ret
  exact⟨by rw[HD.out];rfl,rfl⟩
 by_cases h2:97≤c∧c≤102
 ·have HD:=Lib.hid (show zCM c=c-97+10 by unfold zCM;rw[if_neg h1,if_pos h2]);have g1:=h2.1;have g2:=h2.2;have g3:¬c≤57:=by omega
  clear h1 h2;go_enter Tryz.func89,Tryz.ntmps89;go_wp2_with fail
  go_ret
  exact⟨by rw[HD.out];rfl,rfl⟩
 by_cases h3:65≤c∧c≤70
 ·have HD:=Lib.hid (show zCM c=c-65+10 by unfold zCM;rw[if_neg h1,if_neg h2,if_pos h3]);have g1:=h3.1;have g2:=h3.2;have g3:¬c≤57:=by omega
  have g4:¬97≤c:=by omega
  clear h1 h2 h3;go_enter Tryz.func89,Tryz.ntmps89;go_wp2_with fail
  go_ret
  exact⟨by rw[HD.out];rfl,rfl⟩
 ·have HD:=Lib.hid (show zCM c= -1 by unfold zCM;rw[if_neg h1,if_neg h2,if_neg h3])
  by_cases k1:48≤c<;>by_cases k2:c≤57<;>by_cases k3:97≤c<;>by_cases k4:c≤102<;>by_cases k5:65≤c<;>by_cases k6:c≤70 <;>
   first
   | (exfalso;omega)
   | (clear h1 h2 h3
      go_enter Tryz.func89,Tryz.ntmps89;go_wp2_with fail
      go_ret
      exact⟨by rw[HD.out];rfl,rfl⟩)
def spB:ByteArray:=⟨#[40,41,91,93,124,42,43,63,46,92,45,94]⟩
theorem zG6:∀b,b<256→jD b=(List.range 12).any fun j=>decide (bR spB j=b):=by decide +kernel
theorem kC (b:Nat) (w:World) (hb:b<256):
  Calls Tryz.prog 88 #[.int .u8 (b:Int)] w fun e w'=>e= .returned (.bool (jD b))∧w'=w:=by
 have HS:=Lib.hid (zG6 b hb);have HBT:=Lib.hid (fun k (hk:k<spB.size)=>zCN spB k hk);have HSZ:spB.size=12:=rfl;obtain⟨SP,hSP⟩:∃SP,spB=SP:=⟨_,rfl⟩;have HL:(⟨#[40,41,91,93,124,42,43,63,46,92,45,94]⟩:ByteArray)=SP:=hSP;rw[hSP] at HS HBT HSZ;clear hSP;go_enter Tryz.func88,Tryz.ntmps88;rw[HL];clear HL;go_wp2
 go_loopw [4] (fun s4 wr=>∃i:Nat,s4= .int .i64 (i:Int)∧i≤12∧wr=w∧Hid (∀j,j<i→bR SP j≠b)) (fun s4 _=>12-(intOf s4).toNat)
 case atStart=>exact⟨0,rfl,Nat.zero_le _,rfl,fun j h=>absurd h (Nat.not_lt_zero _)⟩
 case round=>
  obtain⟨i,rfl,hi,rfl,HI⟩:=hrel;by_cases hlt:i<12
  ·have hbt:=HBT.out i (by omega);have q1:(i:Int)<(SP.size:Int):=(by omega);have q0:(0:Int)≤(i:Int):=(by omega);have hc256:=j6 SP i;by_cases e:bR SP i=b
   ·have HR:Hid (jD b=true):=by
     rw[HS.out,List.any_eq_true];exact⟨i,List.mem_range.2 hlt,decide_eq_true e⟩
    obtain⟨c,hc⟩:∃c,bR SP i=c:=⟨_,rfl⟩;rw[hc] at hbt e hc256;subst e;clear hc HI;go_wp2_with fail
    go_ret
    exact⟨by rw[HR.out];rfl,rfl⟩
   ·have HJ:Hid (∀j,j<i+1→bR SP j≠b):=fun j hj=>by
     by_cases h:j=i
     ·rw[h];exact e
     ·exact HI.out j (by omega)
    obtain⟨c,hc⟩:∃c,bR SP i=c:=⟨_,rfl⟩;rw[hc] at hbt e hc256;clear hc HI;go_wp2_with fail
    go_roundw
    case rel=>exact⟨i+1,by go_num,hlt,trivial,HJ⟩
    case measure=>simp[intOf];omega
  ·have HR:Hid (jD b=false):=by
    rw[HS.out];refine Bool.eq_false_iff.2 fun h=> ?_;obtain⟨j,hj,hd⟩:=List.any_eq_true.1 h;exact HI.out j (by have:=List.mem_range.1 hj;omega) (of_decide_eq_true hd)
   have hie:i=12:=(by omega);have q1:(SP.size:Int)≤(i:Int):=(by omega);clear HI hie;go_wp2_with fail
   go_ret
   exact⟨by rw[HR.out];rfl,rfl⟩
end Go.Proofs.YtjeomlickkpebaaGreatDoor
