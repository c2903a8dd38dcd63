/-
  Plain facts: how many cells the runes of a text take. Nothing of the program is run here.
-/
import Derived.Test.YtafeieggohlaiaaDoorWid
namespace Go.Proofs.YtafeieggohlaiaaDoor
open Go.RowKit

/-- How many cells the runes at these places take. -/
def txL (s : ByteArray) : List Nat → Nat
  | [] => 0
  | p :: l => ofN (shI ((Utf8.decode s p).1 : Int)) + txL s l
def txN (s : ByteArray) : Nat := txL s (stA s)
theorem txL_le (s : ByteArray) : ∀ l, l.length ≤ txL s l ∧ txL s l ≤ 2 * l.length
  | [] => by simp [txL]
  | p :: l => by
    have h1 := of_sh ((Utf8.decode s p).1 : Int)
    have h2 := txL_le s l
    simp only [txL, List.length_cons]
    omega
theorem txL_drop (s : ByteArray) (l : List Nat) (j : Nat) (h : j < l.length) : txL s (l.drop j) = ofN (shI ((Utf8.decode s (l.getD j 0)).1 : Int)) + txL s (l.drop (j + 1)) := by
  rw [List.drop_eq_getElem_cons h, txL]
  simp [List.getD, List.getElem?_eq_getElem h]
end Go.Proofs.YtafeieggohlaiaaDoor
