/-
  A text's bytes as numbers: what stands from a place on. No call is walked here.
-/
import Derived.WalkKit
import Derived.Test.YtjeomlickkpebaaGreatDoorBe1
namespace Go.Proofs.YtjeomlickkpebaaGreatDoor
def bR (s:ByteArray) (i:Nat):Nat:=(s.get! i).toNat
theorem bR_lt (s:ByteArray) (i:Nat):bR s i<256:=UInt8.toNat_lt _
theorem getR (s:ByteArray) (k:Nat) (h:k<s.size):(s[k].toNat:Int)=(bR s k:Int):=by
 unfold bR;rw[show s.get! k=s[k] from getElem!_pos s.data k h]
def bytesR (s:ByteArray):List Nat:=s.data.toList.map UInt8.toNat
theorem bytesR_len (s:ByteArray):(bytesR s).length=s.size:=by unfold bytesR;rw[List.length_map];rfl
theorem bytesR_at (s:ByteArray) (k:Nat) (h:k<s.size):(bytesR s)[k]? =some (bR s k):=by
 unfold bytesR bR;rw[List.getElem?_map,show s.data.toList[k]? =some s[k] from List.getElem?_eq_getElem h,show s.get! k=s[k] from getElem!_pos s.data k h];rfl
def restR (s:ByteArray) (i:Nat):List Nat:=(bytesR s).drop i
theorem rest_len (s:ByteArray) (i:Nat):(restR s i).length=s.size-i:=by unfold restR;rw[List.length_drop,bytesR_len]
theorem rest_nil (s:ByteArray) (i:Nat) (h:s.size≤i):restR s i= []:=List.eq_nil_of_length_eq_zero (by rw[rest_len];omega)
theorem rest_cons (s:ByteArray) (i:Nat) (h:i<s.size):restR s i=bR s i::restR s (i+1):=by
 unfold restR;rw[List.drop_eq_getElem_cons (by rw[bytesR_len];exact h)];congr 1;have:=bytesR_at s i h;rw[List.getElem?_eq_getElem (by rw[bytesR_len];exact h)] at this;exact Option.some.inj this
theorem rest_lt (s:ByteArray) (i:Nat):∀x,x∈restR s i→x<256:=fun x hx=>by
 have h1:=List.mem_of_mem_drop hx;unfold bytesR at h1;obtain⟨y,_,rfl⟩:=List.mem_map.1 h1;exact UInt8.toNat_lt _
theorem rest_of (s:ByteArray) (i:Nat) {r:List Nat} (h:∃k,r=(restR s i).drop k):r=restR s (s.size-r.length):=by
 obtain⟨k,rfl⟩:=h;unfold restR;rw[List.drop_drop,List.length_drop,bytesR_len];by_cases hk:i+k≤s.size
 ·congr 1;omega
 ·rw[List.drop_eq_nil_of_le (by rw[bytesR_len];omega),List.drop_eq_nil_of_le (by rw[bytesR_len];omega)]
theorem rest_zero (s:ByteArray):restR s 0=bytesR s:=rfl
def strR (l:List Nat):ByteArray:=⟨(l.map UInt8.ofNat).toArray⟩
theorem strR_bytes (l:List Nat) (h:∀x,x∈l→x<256):bytesR (strR l)=l:=by
 unfold bytesR strR;show ((l.map UInt8.ofNat).toArray.toList).map UInt8.toNat=l;rw[List.toList_toArray,List.map_map]
 conv=>rhs;rw[←List.map_id l]
 exact List.map_congr_left fun x hx=>by
  have:=h x hx;show (UInt8.ofNat x).toNat=x;simp[UInt8.toNat_ofNat'];omega
end Go.Proofs.YtjeomlickkpebaaGreatDoor
