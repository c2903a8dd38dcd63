/-
  limnerref10.letter: what it returns.
-/
import Derived.Deep.Cut
import Derived.Test.YtjeomlickkpebaaGreatDoorBe4
import Derived.Test.YtjeomlickkpebaaGreatDoorBe7
namespace Go.Proofs.YtjeomlickkpebaaGreatDoor
open Go.RowKit

def letV (s : ByteArray) (i : Nat) (br : Bool) : Value :=
  match letR br (restR s i) with
  | some (b, r) => .tuple #[.int .u8 (b : Int), .int .i64 ((s.size - r.length : Nat) : Int)]
  | none => .tuple #[.int .u8 0, .int .i64 (-1)]
section
variable {s : ByteArray} {i : Nat} {br : Bool}
end
end Go.Proofs.YtjeomlickkpebaaGreatDoor
