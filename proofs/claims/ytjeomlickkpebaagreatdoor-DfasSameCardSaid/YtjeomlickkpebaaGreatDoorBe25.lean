/-
  Texts of this proof, one behind the other; each begins with its own remark.
-/
import Derived.ProofKit
import Derived.Lib.Hide
import Derived.Lib.TrimU
import Derived.Test.YtjeomlickkpebaaGreatDoorRows
import Derived.WalkKit
import Derived.WalkSpells
import Derived.WalkLawsBesides
import Derived.Lib.OthersKept
import Derived.Deep.QuietTactic
import Derived.Deep.RegionHeld3
import Derived.BigQuiet
import Derived.WalkSmall
import Derived.Deep.DeepFit
/-
  Plain facts on a row of byte strings: where a place lies in it, what stands ahead of it and behind it, how many strings are left. Nothing of the program.
-/
namespace Go.Proofs.YtjeomlickkpebaaGreatDoor
open Go.Lib

/-- The bytes of a row of strings, one behind the other. -/
def cat (xs : List ByteArray) : List UInt8 := (xs.map fun x => x.data.toList).flatten
/-- No string is empty. -/
def full (xs : List ByteArray) : Prop := ∀ x ∈ xs, 0 < x.size
end Go.Proofs.YtjeomlickkpebaaGreatDoor

/-
  What lies in memory where a text of pieces lies: its three fields, and a row of strings; that it stays while only new memory is made. No call is walked here.
-/
namespace Go.Proofs.YtjeomlickkpebaaGreatDoor
open Go.RowKit

theorem cell_lt {w : World} {p : Addr} {v : Value} (h : w.cell? p = some v) : p.block < w.heap.size := World.block_lt_of_cell? w p h

theorem below_drewN (w : World) (n : Nat) : Below w.heap.size w (w.drewN n) := ⟨rfl, rfl, rfl, Nat.le_refl _, fun _ _ => rfl⟩

/-- A slice of strings: what it holds. -/
def StrsW (w : World) (v : Value) (xs : List ByteArray) : Prop :=
  ∃ ao cap, v = .slice ao xs.length cap ∧ xs.length ≤ cap ∧ ∀ (i : Nat) x, xs[i]? = some x → ∃ g o, ao = some ⟨g, o, none⟩ ∧ w.cell? ⟨g, o + i, none⟩ = some (.string x)
theorem StrsW.below {w w' : World} {v : Value} {xs : List ByteArray} (h : StrsW w v xs) (hb : Below w.heap.size w w') : StrsW w' v xs := by
  obtain ⟨ao, cap, hv, hc, hs⟩ := h
  refine ⟨ao, cap, hv, hc, fun i x hx => ?_⟩
  obtain ⟨g, o, ha, hg⟩ := hs i x hx
  exact ⟨g, o, ha, by rw [hb.cell (p := ⟨g, o + i, none⟩) (cell_lt hg)]; exact hg⟩
theorem StrsW.nil (w : World) : StrsW w (.slice none 0 0) [] := ⟨none, 0, rfl, Nat.le_refl _, fun i x h => by simp at h⟩

/-- A text of pieces: its bytes, how many pieces. -/
def TextW (w : World) (v : Value) (s : ByteArray) (n : Nat) : Prop :=
  ∃ b sl xs, v = .pointer (some ⟨b, 0, none⟩) ∧ w.cell? ⟨b, 0, none⟩ = some (.bool true) ∧ w.cell? ⟨b, 1, none⟩ = some (.int .i64 (s.size : Int)) ∧ w.cell? ⟨b, 2, none⟩ = some sl ∧
    StrsW w sl xs ∧ full xs ∧ cat xs = s.data.toList ∧ xs.length = n
theorem TextW.below {w w' : World} {v : Value} {s : ByteArray} {n : Nat} (h : TextW w v s n) (hb : Below w.heap.size w w') : TextW w' v s n := by
  obtain ⟨b, sl, xs, hv, c0, c1, c2, hs, hr⟩ := h
  have hlt : b < w.heap.size := cell_lt (p := ⟨b, 0, none⟩) c0
  exact ⟨b, sl, xs, hv, by rw [hb.cell (p := ⟨b, 0, none⟩) hlt]; exact c0, by rw [hb.cell (p := ⟨b, 1, none⟩) hlt]; exact c1, by rw [hb.cell (p := ⟨b, 2, none⟩) hlt]; exact c2, hs.below hb, hr⟩
/-- The block of a slice that is not empty. -/
def OkV (ok : Nat → Prop) (v : Value) : Prop := ∀ a n c, v = .slice (some a) n c → 0 < n → ok a.block
theorem OkV.mono {ok ok' : Nat → Prop} {v : Value} (h : OkV ok v) (hm : ∀ k, ok k → ok' k) : OkV ok' v := fun a n c e hn => hm _ (h a n c e hn)

/-- A text of pieces with its pieces; of the blocks in which it lies. -/
def TextO (ok : Nat → Prop) (w : World) (v : Value) (s : ByteArray) (xs : List ByteArray) : Prop :=
  ∃ b sl, v = .pointer (some ⟨b, 0, none⟩) ∧ w.cell? ⟨b, 0, none⟩ = some (.bool true) ∧ w.cell? ⟨b, 1, none⟩ = some (.int .i64 (s.size : Int)) ∧ w.cell? ⟨b, 2, none⟩ = some sl ∧
    StrsW w sl xs ∧ full xs ∧ cat xs = s.data.toList ∧ ok b ∧ OkV ok sl
theorem TextO.below {ok : Nat → Prop} {w w' : World} {v : Value} {s : ByteArray} {xs : List ByteArray} (h : TextO ok w v s xs) (hb : Below w.heap.size w w') : TextO ok w' v s xs := by
  obtain ⟨b, sl, hv, c0, c1, c2, hs, hr⟩ := h
  have hlt : b < w.heap.size := cell_lt (p := ⟨b, 0, none⟩) c0
  exact ⟨b, sl, hv, by rw [hb.cell (p := ⟨b, 0, none⟩) hlt]; exact c0, by rw [hb.cell (p := ⟨b, 1, none⟩) hlt]; exact c1, by rw [hb.cell (p := ⟨b, 2, none⟩) hlt]; exact c2, hs.below hb, hr⟩
theorem TextO.mono {ok ok' : Nat → Prop} {w : World} {v : Value} {s : ByteArray} {xs : List ByteArray} (h : TextO ok w v s xs) (hm : ∀ k, k < w.heap.size → ok k → ok' k) : TextO ok' w v s xs := by
  obtain ⟨b, sl, hv, c0, c1, c2, hs, hf, hc, hb, ho⟩ := h
  refine ⟨b, sl, hv, c0, c1, c2, hs, hf, hc, hm _ (cell_lt (p := ⟨b, 0, none⟩) c0) hb, fun a n c e hn => ?_⟩
  obtain ⟨ao, cap, he, _, hcell⟩ := hs
  rw [e] at he
  cases he
  obtain ⟨x, hx⟩ : ∃ x, xs[0]? = some x := ⟨_, List.getElem?_eq_getElem hn⟩
  obtain ⟨g, o, ha, hg⟩ := hcell 0 x hx
  cases ha
  exact hm _ (cell_lt (p := ⟨g, o + 0, none⟩) hg) (ho _ _ _ e hn)
/-- No text: nil, or one that the package did not make. -/
def NoneW (w : World) (v : Value) : Prop := v = .pointer none ∨ ∃ b, v = .pointer (some ⟨b, 0, none⟩) ∧ w.cell? ⟨b, 0, none⟩ = some (.bool false)
theorem NoneW.below {w w' : World} {v : Value} (h : NoneW w v) (hb : Below w.heap.size w w') : NoneW w' v := by
  rcases h with h | ⟨b, hv, c0⟩
  · exact .inl h
  · exact .inr ⟨b, hv, by rw [hb.cell (p := ⟨b, 0, none⟩) (cell_lt (p := ⟨b, 0, none⟩) c0)]; exact c0⟩
end Go.Proofs.YtjeomlickkpebaaGreatDoor
