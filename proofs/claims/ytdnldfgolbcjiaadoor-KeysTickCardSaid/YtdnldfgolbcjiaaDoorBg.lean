/-
  Plain facts: what the first byte of a rune tells. Nothing of the program.
-/
import Derived.Test.YtdnldfgolbcjiaaDoorDec
namespace Go.Proofs.YtdnldfgolbcjiaaDoor
open Go.RowKit

/-- How many bytes a rune has that begins with b; what that tells of it. -/
def bgN (b : Nat) : Nat := if b < 128 then 1 else if b < 192 then 0 else if b < 224 then 2 else if b < 240 then 3 else if b < 248 then 4 else 0

def bgR (b : Nat) : Nat := if b < 128 then b else if b < 192 then 0 else if b < 224 then b - 192 else if b < 240 then b - 224 else if b < 248 then b - 240 else 0

theorem bgN_le (b : Nat) : bgN b ≤ 4 := by
  unfold bgN
  repeat' split
  all_goals omega

theorem bgR_le (b : Nat) : bgR b ≤ 127 := by
  unfold bgR
  repeat' split
  all_goals omega

theorem bgR_le2 (b : Nat) (h : 2 ≤ bgN b) : bgR b ≤ 31 := by
  revert h
  unfold bgN bgR
  repeat' split
  all_goals omega

theorem bg_ret {N R : Nat} {n r : Int} (h1 : n = (N : Int)) (h2 : r = (R : Int)) : Ending.returned (.tuple #[.int .i64 n, .int .i32 r]) = .returned (.tuple #[.int .i64 (N : Int), .int .i32 (R : Int)]) := by rw [h1, h2]

end Go.Proofs.YtdnldfgolbcjiaaDoor
