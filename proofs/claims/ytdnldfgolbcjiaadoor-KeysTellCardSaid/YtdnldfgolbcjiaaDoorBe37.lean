/-
  limnerref01.begin: what it returns: for every byte.
-/
import Derived.Test.YtdnldfgolbcjiaaDoorBe1
namespace Go.Proofs.YtdnldfgolbcjiaaDoor
open Go.RowKit

set_option maxHeartbeats 2000000 in
theorem begin_any (b : Int) (w : World) (h0 : 0 ≤ b) (hb : b < 256) :
    Calls Tryd.prog 49 #[.int .u8 b] w fun e w' => e = .returned (.tuple #[.int .i64 (bgN b.toNat : Int), .int .i32 (bgR b.toNat : Int)]) ∧ w' = w := by
  generalize hN : bgN b.toNat = N
  generalize hR : bgR b.toNat = R
  have HN := Lib.hid hN
  have HR := Lib.hid hR
  clear hN hR
  have hc : b < 128 ∨ (128 ≤ b ∧ b < 192) ∨ (192 ≤ b ∧ b < 224) ∨ (224 ≤ b ∧ b < 240) ∨ (240 ≤ b ∧ b < 248) ∨ 248 ≤ b := by omega
  rcases hc with h1 | ⟨h1, h2⟩ | ⟨h1, h2⟩ | ⟨h1, h2⟩ | ⟨h1, h2⟩ | h1
  all_goals
    go_enter Tryd.func49, Tryd.ntmps49
    go_wp2
    go_ret2
    exact ⟨bg_ret (by rw [← HN.out]; unfold bgN; repeat' split
                      all_goals omega) (by rw [← HR.out]; unfold bgR; repeat' split
                                           all_goals omega), rfl⟩

end Go.Proofs.YtdnldfgolbcjiaaDoor
