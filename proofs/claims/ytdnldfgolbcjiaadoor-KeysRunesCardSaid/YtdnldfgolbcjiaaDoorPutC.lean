/-
  codes.Put and utf8.ValidRune: what each call returns: for every number. No condition.
-/
import Derived.Test.YtdnldfgolbcjiaaDoorPutB
namespace Go.Proofs.YtdnldfgolbcjiaaDoor
open Go.RowKit

set_option maxHeartbeats 1000000 in
theorem validRune_any (r : Int) (w : World) :
    Calls Tryd.prog 40 #[.int .i32 r] w fun e w' => e = .returned (.bool (Lib.validRune r)) ∧ w' = w := by
  go_enter Tryd.func40, Tryd.ntmps40
  go_wp2
  all_goals (go_ret; refine ⟨?_, rfl⟩; first | (rw [show Lib.validRune r = true from decide_eq_true (by omega)]; rfl) | (rw [show Lib.validRune r = false from decide_eq_false (by omega)]; rfl))

set_option maxHeartbeats 1000000 in
theorem put_any (r : Int) (w : World) :
    Calls Tryd.prog 19 #[.int .i32 r] w fun e w' => e = .returned (.string (if Lib.validRune r then Utf8.encode r else ⟨#[]⟩)) ∧ w' = w := by
  cases hv : Lib.validRune r
  all_goals
    go_enter Tryd.func19, Tryd.ntmps19
    go_wp2_with (go_at_call 40; refine (validRune_any _ _).mono ?_; rintro e w' ⟨rfl, rfl⟩)
    go_ret
    exact ⟨rfl, rfl⟩

set_option maxHeartbeats 1000000 in
theorem putB_any (r : Int) (w : World) :
    Calls Tryd.prog 19 #[.int .i32 r] w fun e w' => e = .returned (.string (putB r)) ∧ w' = w := put_any r w

end Go.Proofs.YtdnldfgolbcjiaaDoor
