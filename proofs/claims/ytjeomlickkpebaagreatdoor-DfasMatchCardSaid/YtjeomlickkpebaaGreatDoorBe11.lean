/-
  A box that holds a node: its cells, stores into it; where a letter's rest stands.
-/
import Derived.Test.YtjeomlickkpebaaGreatDoorBe5
import Derived.Test.YtjeomlickkpebaaGreatDoorBe10
namespace Go.Proofs.YtjeomlickkpebaaGreatDoor
open Go.RowKit
def boxN (T:TypeId) (w:World) (B:Nat) (k:Int) (s:St4) (u:Value):Prop:=w.heap[B]? =some (.cells #[.int .i64 k,.int .u64 (s.1:Int),.int .u64 (s.2.1:Int),.int .u64 (s.2.2.1:Int),.int .u64 (s.2.2.2:Int),u] T (0,0))
def set4N (w:World) (B:Nat) (t:St4):World:=(((w.setCell ⟨B,1,none⟩ (.int .u64 (t.1:Int))).setCell ⟨B,2,none⟩ (.int .u64 (t.2.1:Int))).setCell ⟨B,3,none⟩ (.int .u64 (t.2.2.1:Int))).setCell ⟨B,4,none⟩ (.int .u64 (t.2.2.2:Int))
def set6N (w:World) (B:Nat) (k:Int) (t:St4) (u:Value):World:=(set4N (w.setCell ⟨B,0,none⟩ (.int .i64 k)) B t).setCell ⟨B,5,none⟩ u
section
variable {T:TypeId} {w w':World} {B:Nat} {k:Int} {s:St4} {u:Value}
theorem boxN.lt (h:boxN T w B k s u):B<w.heap.size:=(Array.getElem?_eq_some_iff.1 h).1
theorem boxN.cells (h:boxN T w B k s u):(w.cell? ⟨B,0,none⟩=some (.int .i64 k)∧w.cell? ⟨B,1,none⟩=some (.int .u64 (s.1:Int))∧w.cell? ⟨B,2,none⟩=some (.int .u64 (s.2.1:Int))∧w.cell? ⟨B,3,none⟩=some (.int .u64 (s.2.2.1:Int))∧w.cell? ⟨B,4,none⟩=some (.int .u64 (s.2.2.2:Int))∧w.cell? ⟨B,5,none⟩=some u)∧w.frozen? ⟨B,0,none⟩=false∧w.frozen? ⟨B,1,none⟩=false∧w.frozen? ⟨B,2,none⟩=false∧w.frozen? ⟨B,3,none⟩=false∧w.frozen? ⟨B,4,none⟩=false∧w.frozen? ⟨B,5,none⟩=false:=by
 unfold boxN at h;refine⟨⟨?_,?_,?_,?_,?_,?_⟩,?_,?_,?_,?_,?_,?_⟩<;>first | (unfold World.cell?;rw[h];rfl) | (unfold World.frozen?;rw[h];simp)
theorem boxN.below (h:boxN T w B k s u) (hb:Below w.heap.size w w'):boxN T w' B k s u:=(hb.block B h.lt).trans h
theorem boxN.keep {ok:Nat→Prop} (h:boxN T w B k s u) (hk:KeepW ok w w') (ho:ok B):boxN T w' B k s u:=(hk.same B h.lt ho).trans h
theorem boxN.set4 (h:boxN T w B k s u) (t:St4):boxN T (set4N w B t) B k t u:=by
 unfold boxN at h ⊢;unfold set4N;simp only[World.setCell,Array.getElem?_modify,if_true,h,Option.map_some];rfl
theorem boxN.set6 (h:boxN T w B k s u) (j:Int) (t:St4) (v:Value):boxN T (set6N w B j t v) B j t v:=by
 unfold boxN at h ⊢;unfold set6N set4N;simp only[World.setCell,Array.getElem?_modify,if_true,h,Option.map_some];rfl
end
theorem boxN.new (T:TypeId) (w:World) (k:Int) (s:St4) (u:Value):boxN T (w.alloc (.cells #[.int .i64 k,.int .u64 (s.1:Int),.int .u64 (s.2.1:Int),.int .u64 (s.2.2.1:Int),.int .u64 (s.2.2.2:Int),u] T)) w.heap.size k s u:=heap_alloc_new _ _
theorem keep_set4N (w:World) (B:Nat) (t:St4):KeepW (fun k=>k≠B) w (set4N w B t):=
 (((keep_set B 1 none _ w (fun h=>h rfl)).trans (keep_set B 2 none _ _ (fun h=>h rfl))).trans (keep_set B 3 none _ _ (fun h=>h rfl))).trans (keep_set B 4 none _ _ (fun h=>h rfl))
theorem keep_set6N (w:World) (B:Nat) (k:Int) (t:St4) (u:Value):KeepW (fun k=>k≠B) w (set6N w B k t u):=
 ((keep_set B 0 none _ w (fun h=>h rfl)).trans (keep_set4N _ B t)).trans (keep_set B 5 none _ _ (fun h=>h rfl))
theorem esc_drop {l r:List Nat} {b:Nat} (h:escR l=some (b,r)):∃k,r=l.drop k:=by
 match l,h with
 | d::t,h=>
  simp only[escR] at h;split at h
  ·cases h;exact⟨1,rfl⟩
  split at h
  ·cases h;exact⟨1,rfl⟩
  split at h
  ·cases h;exact⟨1,rfl⟩
  split at h
  ·match t,h with
   | a::e::q,h=>
    simp only[hexR] at h;split at h
    ·cases h;exact⟨3,rfl⟩
    ·cases h
  split at h
  ·cases h;exact⟨1,rfl⟩
  ·cases h
theorem let_drop {br:Bool} {l r:List Nat} {b:Nat} (h:letR br l=some (b,r)):∃k,r=l.drop k:=by
 match l,h with
 | c::t,h=>
  simp only[letR] at h;split at h
  ·obtain⟨k,hk⟩:=esc_drop h;exact⟨k+1,hk⟩
  split at h
  ·cases h
  ·cases h;exact⟨1,rfl⟩
theorem let_at {s:ByteArray} {i b:Nat} {br:Bool} {r:List Nat} (h:letR br (restR s i)=some (b,r)):∃k,i<k∧k≤s.size∧r=restR s k∧letV s i br= .tuple #[.int .u8 (b:Int),.int .i64 (k:Int)]∧b<256:=by
 have h1:=let_len h;rw[rest_len] at h1;refine⟨s.size-r.length,by omega,by omega,rest_of s i (let_drop h),?_,let_lt (rest_lt s i) h⟩;unfold letV;rw[h]
theorem let_not {s:ByteArray} {i:Nat} {br:Bool} (h:letR br (restR s i)=none):letV s i br= .tuple #[.int .u8 0,.int .i64 (-1)]:=by
 unfold letV;rw[h]
theorem rest_head (s:ByteArray) (i:Nat) (c:Nat):(restR s i).head? =some c↔atI s i=(c:Int):=by
 unfold atI;by_cases h:i<s.size
 ·rw[rest_cons s i h,if_pos h];simp only[List.head?_cons,Option.some.injEq];omega
 ·rw[rest_nil s i (by omega),if_neg h];simp
theorem rest_tail (s:ByteArray) (i:Nat):(restR s i).tail=restR s (i+1):=by
 unfold restR;rw[List.tail_drop]
end Go.Proofs.YtjeomlickkpebaaGreatDoor
