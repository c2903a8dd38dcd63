/-
  limnerref01.begin and Next: what each call returns, for every text and every place.
-/
import Derived.Test.YtfnpngffdjjpbaaPut
import Derived.Test.YtfnpngffdjjpbaaMath
namespace Go.Proofs.Ytfnpngffdjjpbaa
open Go.RowKit

/-- How many bytes a rune has that begins with b; what that tells of it. -/
def bgN (b : Nat) : Nat := if b < 128 then 1 else if b < 192 then 0 else if b < 224 then 2 else if b < 240 then 3 else if b < 248 then 4 else 0
def bgR (b : Nat) : Nat := if b < 128 then b else if b < 192 then 0 else if b < 224 then b - 192 else if b < 240 then b - 224 else if b < 248 then b - 240 else 0
theorem bgN_le (b : Nat) : bgN b ≤ 4 := by
  unfold bgN
  repeat' split
  all_goals omega
theorem bgR_le (b : Nat) : bgR b ≤ 127 := by
  unfold bgR
  repeat' split
  all_goals omega
theorem bgR_le2 (b : Nat) (h : 2 ≤ bgN b) : bgR b ≤ 31 := by
  revert h
  unfold bgN bgR
  repeat' split
  all_goals omega
theorem bg_ret {N R : Nat} {n r : Int} (h1 : n = (N : Int)) (h2 : r = (R : Int)) : Ending.returned (.tuple #[.int .i64 n, .int .i32 r]) = .returned (.tuple #[.int .i64 (N : Int), .int .i32 (R : Int)]) := by rw [h1, h2]

set_option maxHeartbeats 2000000 in
theorem begin_any (b : Int) (w : World) (h0 : 0 ≤ b) (hb : b < 256) :
    Calls Try.prog 23 #[.int .u8 b] w fun e w' => e = .returned (.tuple #[.int .i64 (bgN b.toNat : Int), .int .i32 (bgR b.toNat : Int)]) ∧ w' = w := by
  generalize hN : bgN b.toNat = N
  generalize hR : bgR b.toNat = R
  have HN := Lib.hid hN
  have HR := Lib.hid hR
  clear hN hR
  have hc : b < 128 ∨ (128 ≤ b ∧ b < 192) ∨ (192 ≤ b ∧ b < 224) ∨ (224 ≤ b ∧ b < 240) ∨ (240 ≤ b ∧ b < 248) ∨ 248 ≤ b := by omega
  rcases hc with h1 | ⟨h1, h2⟩ | ⟨h1, h2⟩ | ⟨h1, h2⟩ | ⟨h1, h2⟩ | h1
  all_goals
    go_enter Try.func23, Try.ntmps23
    go_wp2
    go_ret2
    exact ⟨bg_ret (by rw [← HN.out]; unfold bgN; repeat' split
                      all_goals omega) (by rw [← HR.out]; unfold bgR; repeat' split
                                           all_goals omega), rfl⟩

end Go.Proofs.Ytfnpngffdjjpbaa
