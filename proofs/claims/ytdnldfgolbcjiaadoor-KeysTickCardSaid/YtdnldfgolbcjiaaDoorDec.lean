/-
  Plain facts on decoding a text, and the places where runes stand in it. Nothing of the program.
-/
import Derived.Test.YtdnldfgolbcjiaaDoorRows
import Derived.WalkKit
import Derived.WalkSpells
import Derived.WalkLawsBesides
import Derived.Lib.OthersKept
import Derived.Lib.TrimU
import Derived.Lib.RuneCountTail
import Derived.Lib.QuoteLoop
import Derived.Deep.QuietTactic
import Derived.BigQuiet
import Derived.Lib.Hide
import Derived.WalkSmall
namespace Go.Proofs.YtdnldfgolbcjiaaDoor
open Go.RowKit

theorem decW (s : ByteArray) (k : Nat) (h : k < s.size) : 1 ≤ (Utf8.decode s k).2 ∧ k + (Utf8.decode s k).2 ≤ s.size := by
  have h1 := Lib.width_pos s k
  have h2 := Lib.width_le (s.extract k s.size) (by rw [Lib.tail_size]; omega)
  rw [Lib.tail_decode, Lib.tail_size] at h2
  simp only [Nat.add_zero] at h2
  omega

theorem lt_of_block {w : World} {k : Nat} {o : Obj} (h : w.heap[k]? = some o) : k < w.heap.size := by
  rcases Nat.lt_or_ge k w.heap.size with h1 | h1
  · exact h1
  · rw [Array.getElem?_eq_none h1] at h; cases h

/-- What Next tells of a place within the text. -/
def okAt (s : ByteArray) (k : Nat) : Bool := !decide ((Utf8.decode s k).1 = 65533 ∧ (Utf8.decode s k).2 = 1)

/-- The places from p on, at most so many. -/
def stL (s : ByteArray) : Nat → Nat → List Nat
  | 0, _ => []
  | f + 1, p => if p < s.size then p :: stL s f (p + (Utf8.decode s p).2) else []

theorem stL_end (s : ByteArray) (f p : Nat) (h : ¬ p < s.size) : stL s f p = [] := by
  cases f with
  | zero => rfl
  | succ f => simp [stL, h]

theorem stL_step (s : ByteArray) (f p : Nat) (h : p < s.size) : stL s (f + 1) p = p :: stL s f (p + (Utf8.decode s p).2) := by simp [stL, h]

theorem stL_length (s : ByteArray) : ∀ f p, (stL s f p).length ≤ s.size - p
  | 0, p => by simp [stL]
  | f + 1, p => by
    by_cases h : p < s.size
    · have := decW s p h
      have ih := stL_length s f (p + (Utf8.decode s p).2)
      rw [stL_step s f p h, List.length_cons]
      omega
    · rw [stL_end s _ p h]; simp

def stA (s : ByteArray) : List Nat := stL s s.size 0

theorem stA_length (s : ByteArray) : (stA s).length ≤ s.size := by have := stL_length s s.size 0; unfold stA; omega

def allOk (s : ByteArray) (l : List Nat) : Bool := l.all (okAt s)

theorem allOk_cons (s : ByteArray) (p : Nat) (l : List Nat) : allOk s (p :: l) = (okAt s p && allOk s l) := by simp [allOk]

end Go.Proofs.YtdnldfgolbcjiaaDoor
