/-
  A text's bytes as numbers: what stands from a place on. No call is walked here.
-/
import Derived.WalkKit
import Derived.Test.YtjeomlickkpebaaGreatDoorBe1
namespace Go.Proofs.YtjeomlickkpebaaGreatDoor
def bR (s:ByteArray) (i:Nat):Nat:=(s.get! i).toNat
theorem j6 (s:ByteArray) (i:Nat):bR s i<256:=UInt8.toNat_lt _
theorem zCN (s:ByteArray) (k:Nat) (h:k<s.size):(s[k].toNat:Int)=(bR s k:Int):=by
 unfold bR;rw[show s.get! k=s[k] from getElem!_pos s.data k h]
def xM (s:ByteArray):List Nat:=s.data.toList.map UInt8.toNat
theorem xU (s:ByteArray):(xM s).length=s.size:=by unfold xM;rw[List.length_map];rfl
theorem zA1 (s:ByteArray) (k:Nat) (h:k<s.size):(xM s)[k]? =some (bR s k):=by
 unfold xM bR;rw[List.getElem?_map,show s.data.toList[k]? =some s[k] from List.getElem?_eq_getElem h,show s.get! k=s[k] from getElem!_pos s.data k h];rfl
def zB (s:ByteArray) (i:Nat):List Nat:=(xM s).drop i
theorem rest_len (s:ByteArray) (i:Nat):(zB s i).length=s.size-i:=by unfold zB;rw[List.length_drop,xU]
theorem zf (s:ByteArray) (i:Nat) (h:s.size≤i):zB s i= []:=List.eq_nil_of_length_eq_zero (by rw[rest_len];omega)
theorem zH (s:ByteArray) (i:Nat) (h:i<s.size):zB s i=bR s i::zB s (i+1):=by
 unfold zB;rw[List.drop_eq_getElem_cons (by rw[xU];exact h)];congr 1;have:=zA1 s i h;rw[List.getElem?_eq_getElem (by rw[xU];exact h)] at this;exact Option.some.inj this
theorem Jw (s:ByteArray) (i:Nat):∀x,x∈zB s i→x<256:=fun x hx=>by
 have h1:=List.mem_of_mem_drop hx;unfold xM at h1;obtain⟨y,_,rfl⟩:=List.mem_map.1 h1;exact UInt8.toNat_lt _
theorem je (s:ByteArray) (i:Nat) {r:List Nat} (h:∃k,r=(zB s i).drop k):r=zB s (s.size-r.length):=by
 obtain⟨k,rfl⟩:=h;unfold zB;rw[List.drop_drop,List.length_drop,xU];by_cases hk:i+k≤s.size
 ·congr 1;omega
 ·rw[List.drop_eq_nil_of_le (by rw[xU];omega),List.drop_eq_nil_of_le (by rw[xU];omega)]
theorem ZN (s:ByteArray):zB s 0=xM s:=rfl
def zII (l:List Nat):ByteArray:=⟨(l.map UInt8.ofNat).toArray⟩
theorem Vl (l:List Nat) (h:∀x,x∈l→x<256):xM (zII l)=l:=by
 unfold xM zII;show ((l.map UInt8.ofNat).toArray.toList).map UInt8.toNat=l;rw[List.toList_toArray,List.map_map]
 conv=>rhs;rw[←List.map_id l]
 exact List.map_congr_left fun x hx=>by
  have:=h x hx;show (UInt8.ofNat x).toNat=x;simp[UInt8.toNat_ofNat'];omega
end Go.Proofs.YtjeomlickkpebaaGreatDoor
