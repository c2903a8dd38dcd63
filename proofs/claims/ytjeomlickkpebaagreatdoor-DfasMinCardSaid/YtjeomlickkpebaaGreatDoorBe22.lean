/-
  internal/strconv.lower; ParseUint at a text of two bytes, base 16, eight bits: what each returns.
-/
import Derived.Lib.SmallJoins
import Derived.Test.YtjeomlickkpebaaGreatDoorBe21
namespace Go.Proofs.YtjeomlickkpebaaGreatDoor
open Go.RowKit
theorem zBC (c:Nat) (w:World) (hc:c<256):
  Calls Tryz.prog 130 #[.int .u8 (c:Int)] w fun e w'=>e= .returned (.int .u8 ((c|||32:Nat):Int))∧w'=w:=by
 have h:bits BinOp.or IntKind.u8 (c:Int) 32=((c|||32:Nat):Int):=u8_or_nat c 32 hc (by decide);obtain⟨l,hl⟩:∃l,c|||32=l:=⟨_,rfl⟩
 rw[hl] at h ⊢;clear hl;go_enter Tryz.func130,Tryz.ntmps130;go_wp2
 go_ret
 exact⟨rfl,rfl⟩
theorem zEC:∀c,c<256→(48≤c∧c≤57∧digR c=some (c-48))∨((c<48∨57<c)∧c≠95∧97≤c|||32∧c|||32≤102∧digR c=some ((c|||32)-87))∨((c<48∨57<c)∧c≠95∧103≤c|||32∧c|||32≤122∧digR c=none)∨((c<48∨57<c)∧c≠95∧(c|||32<97∨122<c|||32)∧digR c=none)∨c=95:=by decide +kernel
def XH (a:Nat):List Nat→Option Nat
 | []=>some a
 | c::l=>match digR c with
  | some d=>XH (a*16+d) l
  | none=>none
def zGY:Option Nat→Value
 | some n=> .tuple #[.int .u64 (n:Int),.nilIface]
 | none=> .tuple #[.int .u64 0,.iface 200 (.int .i64 2)]
theorem YN (w:World) (s:ByteArray) (k:Nat) (h:k<s.size):(Lib.bytesWorld w 5 s).cell? ⟨w.heap.size,k,none⟩=some (.int .u8 (bR s k:Int)):=by
 rw[Lib.bytesWorld_cell w 5 s k h];unfold bR;rw[show s.get! k=s[k] from getElem!_pos s.data k h];have h2:s.data.toList.getD k 0=s[k]:=by
  rw[List.getD,List.getElem?_eq_getElem (by exact h)];rfl
 rw[h2]
set_option maxHeartbeats 16000000 in
set_option maxRecDepth 100000 in
theorem zBD (s:ByteArray) (w:World) (hs:s.size=2):
  Calls Tryz.prog 128 #[.string s,.int .i64 16,.int .i64 8] w fun e w'=>e= .returned (zGY (XH 0 (xM s)))∧Below w.heap.size w w':=by
 have hemp:s.toList.isEmpty=false:=by
  rw[←decide_eq_emptyBytes];exact decide_eq_false (fun h=>by rw[h] at hs;exact absurd hs (by decide))
 have hcv:=Lib.run_convert_string_bytes (P:=Tryz.prog) w 9 152 5 s (u:= .string) Tryz.underlying9 Tryz.underlying152 Tryz.underlying5;have HC:=Lib.hid (fun k (hk:k<2)=>YN w s k (by omega));have HB:=Lib.hid (Joins.below_bytesWorld w.heap.size w 5 s (Nat.le_refl _));have HLW:=Lib.hid (fun c W (hc:c<256)=>zBC c W hc);rw[hs] at hcv;obtain⟨W1,hW1⟩:∃W1,Lib.bytesWorld w 5 s=W1:=⟨_,rfl⟩;rw[hW1] at hcv HC HB;have HR:=Lib.hid (show XH 0 (zB s 0)=XH 0 (xM s) from rfl);obtain⟨RES,hRES⟩:∃R,XH 0 (xM s)=R:=⟨_,rfl⟩;rw[hRES] at HR ⊢;have HS:=Lib.hid hs;clear hW1 hRES hs;go_enter Tryz.func128,Tryz.ntmps128;go_wp2
 go_loopw [12,13,101] (fun vu vn vi wr=>∃(k acc:Nat) (a:Int),vu= .bool false∧vn= .int .u64 a∧vi= .int .i64 (k:Int)∧k≤2∧wr=W1∧Hid (a=(acc:Int)∧acc<16^k∧XH acc (zB s k)=RES)) (fun _ _ vi _=>2-(intOf vi).toNat)
 case atStart=>exact⟨0,0,0,rfl,rfl,rfl,by omega,rfl,rfl,by decide,HR.out⟩
 case round=>
  obtain⟨k,acc,a,rfl,rfl,rfl,hk,rfl,hh⟩:=hrel;have k0:(0:Int)≤(k:Int):=by omega
  by_cases hlt:k<2
  ·have hki:(k:Int)<2:=(by omega);have hc:=HC.out k hlt;have hc256:=j6 s k;have hrest:=zH s k (by rw[HS.out];exact hlt);obtain⟨c,hcc⟩:∃c,bR s k=c:=⟨_,rfl⟩;rw[hcc] at hc hc256 hrest;have HL:=Lib.hid (fun W=>HLW.out c W hc256);have hkind:=zEC c hc256;obtain⟨l,hl⟩:∃l,c|||32=l:=⟨_,rfl⟩
   rw[hl] at hkind;simp only[hl] at HL;have hl95:c=95→l=127:=fun e=>(by rw[←hl,e];rfl);have hl256:l<256:=(by rw[←hl];exact Nat.or_lt_two_pow (n:=8) hc256 (by decide));obtain⟨ha,hacc,hres⟩:=hh.out;have hacc16:acc<16:=by
    have h2:k=0∨k=1:=(by omega);rcases h2 with rfl | rfl
    ·simp at hacc;omega
    ·simpa using hacc
   rw[hrest] at hres;have a0:0≤a:=(by omega);have a16:a<16:=(by omega);clear hh hcc hl hrest;rcases hkind with ⟨h1,h2,hd⟩ | ⟨h1,h95,h2,h3,hd⟩ | ⟨h1,h95,h2,h3,hd⟩ | ⟨h1,h95,h2,hd⟩ | h95
   ·have HN:Hid (a*16+((c:Int)-48)=((acc*16+(c-48):Nat):Int)∧acc*16+(c-48)<16^(k+1)∧XH (acc*16+(c-48)) (zB s (k+1))=RES):=by
     refine⟨by omega,by rw[Nat.pow_succ];omega,?_⟩;rw[←hres,XH,hd]
    have g1:(48:Int)≤(c:Int):=(by omega);have g2:(c:Int)≤57:=(by omega);have g95:((c:Int)==95)=false:=beq_eq_false_iff_ne.2 (by omega);clear h1 h2 hd hres hacc hacc16 ha;go_wp2_with fail
    go_roundw
    case rel=>exact⟨k+1,acc*16+(c-48),a*16+((c:Int)-48),rfl,rfl,by go_num,by omega,trivial,HN⟩
    case measure=>simp[intOf];omega
   ·have HN:Hid (a*16+((l:Int)-97+10)=((acc*16+(l-87):Nat):Int)∧acc*16+(l-87)<16^(k+1)∧XH (acc*16+(l-87)) (zB s (k+1))=RES):=by
     refine⟨by omega,by rw[Nat.pow_succ];omega,?_⟩;rw[←hres,XH,hd]
    have g1:(97:Int)≤(l:Int):=(by omega);have g2:(l:Int)≤102:=(by omega);have g95:((c:Int)==95)=false:=beq_eq_false_iff_ne.2 (by omega);have c0:(0:Int)≤(c:Int):=(by omega);have c255:(c:Int)≤255:=(by omega);clear h2 h3 hd hres hacc hacc16 ha h95 hc256 hl256;rcases h1 with h1 | h1
    ·have g3:(c:Int)<48:=(by omega);clear h1;go_wp2_with (go_at_call 130;go_fit (HL.out _);rintro e wl ⟨rfl,rfl⟩)
     go_roundw
     case rel=>exact⟨k+1,acc*16+(l-87),a*16+((l:Int)-97+10),rfl,rfl,by go_num,by omega,trivial,HN⟩
     case measure=>simp[intOf];omega
    ·have g3:(57:Int)<(c:Int):=(by omega);clear h1;go_wp2_with (go_at_call 130;go_fit (HL.out _);rintro e wl ⟨rfl,rfl⟩)
     go_roundw
     case rel=>exact⟨k+1,acc*16+(l-87),a*16+((l:Int)-97+10),rfl,rfl,by go_num,by omega,trivial,HN⟩
     case measure=>simp[intOf];omega
   ·have HE:Hid (RES=none):=by
     rw[←hres,XH,hd];exact rfl
    have g1:(103:Int)≤(l:Int):=(by omega);have g2:(l:Int)≤122:=(by omega);have g95:((c:Int)==95)=false:=beq_eq_false_iff_ne.2 (by omega);have c0:(0:Int)≤(c:Int):=(by omega);have c255:(c:Int)≤255:=(by omega);clear h2 h3 hd hres hacc hacc16 ha h95 hc256 hl256;rcases h1 with h1 | h1
    ·have g3:(c:Int)<48:=(by omega);clear h1;go_wp2_with (go_at_call 130;go_fit (HL.out _);rintro e wl ⟨rfl,rfl⟩)
     go_ret2
     exact⟨by rw[HE.out];rfl,HB.out⟩
    ·have g3:(57:Int)<(c:Int):=(by omega);clear h1;go_wp2_with (go_at_call 130;go_fit (HL.out _);rintro e wl ⟨rfl,rfl⟩)
     go_ret2
     exact⟨by rw[HE.out];rfl,HB.out⟩
   ·have HE:Hid (RES=none):=by
     rw[←hres,XH,hd];exact rfl
    have g95:((c:Int)==95)=false:=beq_eq_false_iff_ne.2 (by omega);have c0:(0:Int)≤(c:Int):=(by omega);have c255:(c:Int)≤255:=(by omega);have l0:(0:Int)≤(l:Int):=(by omega);have l255:(l:Int)≤255:=(by omega);clear hd hres hacc hacc16 ha h95 hc256 hl256;rcases h1 with h1 | h1<;>rcases h2 with h2 | h2
    ·have g3:(c:Int)<48:=(by omega);have g1:(l:Int)<97:=(by omega);clear h1 h2;go_wp2_with (go_at_call 130;go_fit (HL.out _);rintro e wl ⟨rfl,rfl⟩)
     go_ret2
     exact⟨by rw[HE.out];rfl,HB.out⟩
    ·have g3:(c:Int)<48:=(by omega);have g1:(122:Int)<(l:Int):=(by omega);clear h1 h2;go_wp2_with (go_at_call 130;go_fit (HL.out _);rintro e wl ⟨rfl,rfl⟩)
     go_ret2
     exact⟨by rw[HE.out];rfl,HB.out⟩
    ·have g3:(57:Int)<(c:Int):=(by omega);have g1:(l:Int)<97:=(by omega);clear h1 h2;go_wp2_with (go_at_call 130;go_fit (HL.out _);rintro e wl ⟨rfl,rfl⟩)
     go_ret2
     exact⟨by rw[HE.out];rfl,HB.out⟩
    ·have g3:(57:Int)<(c:Int):=(by omega);have g1:(122:Int)<(l:Int):=(by omega);clear h1 h2;go_wp2_with (go_at_call 130;go_fit (HL.out _);rintro e wl ⟨rfl,rfl⟩)
     go_ret2
     exact⟨by rw[HE.out];rfl,HB.out⟩
   ·subst h95;have HE:Hid (RES=none):=by
     rw[←hres,XH];exact rfl
    rw[show ((95:Nat):Int)=95 from rfl] at hc HL;clear hres hacc hacc16 ha hc256;have l0:(0:Int)≤(l:Int):=(by omega);obtain rfl:l=127:=hl95 rfl;clear hl95;go_wp2_with (go_at_call 130;go_fit (HL.out _);rintro e wl ⟨rfl,rfl⟩)
    go_ret2
    exact⟨by rw[HE.out];rfl,HB.out⟩
  ·have HE:Hid (∃b:Nat,a=(b:Int)∧RES=some b):=by
    obtain⟨ha,_,hres⟩:=hh.out;rw[zf s k (by rw[HS.out];omega)] at hres;exact⟨acc,ha,hres.symm⟩
   have hki:k=2:=(by omega);subst hki;obtain⟨ha,hacc,_⟩:=hh.out;have a0:0≤a:=(by omega);have a255:a≤255:=by
    rw[show (16:Nat)^2=256 from rfl] at hacc;omega
   clear hh ha hacc;go_wp2_with fail
   go_ret2
   obtain⟨b,hab,hR⟩:=HE.out;exact⟨by rw[hR,hab];rfl,HB.out⟩
end Go.Proofs.YtjeomlickkpebaaGreatDoor
