/-
  strings.Clone: what the call returns: the string itself.
-/
import Derived.Test.YtpkfmhggaiifgaaPcsW
import Derived.Test.YtpkfmhggaiifgaaShelf
namespace Go.Proofs.Ytpkfmhggaiifgaa
open Go.RowKit

theorem clone_any (s : ByteArray) (w : World) (hs : s.size ≤ 281474976710656) :
    Calls Try.prog 36 #[.string s] w fun e w' => e = .returned (.string s) ∧ Below w.heap.size w w' := by
  have H := Try.stringslite_Clone s w hs
  go_enter Try.func36, Try.ntmps36
  go_wp2_with fail
  refine H.mono ?_
  rintro e w' ⟨rfl, hb⟩
  go_wp2
  go_ret
  exact ⟨rfl, hb⟩
end Go.Proofs.Ytpkfmhggaiifgaa
