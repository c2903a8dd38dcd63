/-
  (*limnerref12.DFA).apart: what it returns.
-/
import Derived.Test.YtjeomlickkpebaaGreatDoorBe34
namespace Go.Proofs.YtjeomlickkpebaaGreatDoor
open Go.RowKit

/-- What stands in the square is right, as far as it goes. -/
structure SoI (d : Dfa) (N : Nat) (A : Nat → Nat → Bool) : Prop where
  sound : ∀ i k, i < N → k < N → A i k = true → ApartN d i k
  rule : ∀ i k, i < N → k < N → ruN d i ≠ ruN d k → A i k = true
/-- One turn through the square, as far as it has come. -/
structure SwI (d : Dfa) (N : Nat) (A0 A : Nat → Nat → Bool) (ag : Bool) (i k : Nat) : Prop where
  so : SoI d N A
  mono : ∀ i k, i < N → k < N → A0 i k = true → A i k = true
  grew : ag = true → ∃ i k, i < N ∧ k < N ∧ A0 i k = false ∧ A i k = true
  shut : ag = false → ∀ i' k', i' < N → k' < N → (i' < i ∨ i' = i ∧ k' < k) → A i' k' = false → ∀ b, b < 256 → A (toN d i' b) (toN d k' b) = false
theorem SwI.set {d : Dfa} {N : Nat} {A0 A : Nat → Nat → Bool} {ag : Bool} {i k : Nat} (h : SwI d N A0 A ag i k) (hd : OkD d) (hi : i < N) (hk : k < N) {b : Nat} (hb : b < 256) (hti : toN d i b < N) (htk : toN d k b < N) (h0 : A i k = false) (h1 : A (toN d i b) (toN d k b) = true) (i' k' : Nat) :
    SwI d N A0 (fun x y => if x = i ∧ y = k then true else A x y) true i' k' := by
  have hnew : ∀ x y, A x y = true → (if x = i ∧ y = k then true else A x y) = true := fun x y e => by split <;> simp [e]
  have hap : ApartN d i k := apart_step hd hb (h.so.sound _ _ hti htk h1)
  refine ⟨⟨fun x y hx hy e => ?_, fun x y hx hy e => hnew x y (h.so.rule x y hx hy e)⟩, fun x y hx hy e => hnew x y (h.mono x y hx hy e), fun _ => ⟨i, k, hi, hk, ?_, if_pos ⟨rfl, rfl⟩⟩, fun e => by cases e⟩
  · split at e
    · rename_i c
      rw [c.1, c.2]; exact hap
    · exact h.so.sound x y hx hy e
  · rcases e : A0 i k with _ | _
    · rfl
    · rw [h.mono i k hi hk e] at h0; cases h0
end Go.Proofs.YtjeomlickkpebaaGreatDoor
