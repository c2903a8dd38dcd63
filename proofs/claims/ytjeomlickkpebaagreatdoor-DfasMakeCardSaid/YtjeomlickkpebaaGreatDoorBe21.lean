/-
  Texts of this proof, one behind the other; each begins with its own remark.
-/
import Derived.Deep.CutBlock
import Derived.Deep.CutRange
import Derived.Test.YtjeomlickkpebaaGreatDoorBe11
import Derived.Test.YtjeomlickkpebaaGreatDoorBe2
/-
  limnerref10.bracket: what it returns.
-/
namespace Go.Proofs.YtjeomlickkpebaaGreatDoor
open Go.RowKit

/-- What lies in memory while it works: both boxes. -/
structure BrkW (w0 w : World) (A C : Nat) (S : St4) : Prop where
  res : boxN 77 w A 0 noR (.slice none 0 0)
  box : boxN 77 w C 1 S (.slice none 0 0)
  ne : A ≠ C
  lo : w0.heap.size ≤ A ∧ w0.heap.size ≤ C
  bel : Below w0.heap.size w0 w
  ok : OkR S
theorem BrkW.below {w0 w w' : World} {A C : Nat} {S : St4} (h : BrkW w0 w A C S) (hb : Below w.heap.size w w') : BrkW w0 w' A C S :=
  ⟨h.res.below hb, h.box.below hb, h.ne, h.lo, h.bel.trans (hb.mono (by have := h.lo; have := h.res.lt; omega)), h.ok⟩
theorem BrkW.set {w0 w : World} {A C : Nat} {S : St4} (h : BrkW w0 w A C S) (t : St4) (ht : OkR t) : BrkW w0 (set4N w C t) A C t :=
  ⟨h.res.keep (keep_set4N w C t) h.ne, h.box.set4 t, h.ne, h.lo, KeepW.below h.bel (keep_set4N w C t) (by have := h.lo; have := h.box.lt; omega) (fun k hk => by have := h.lo; omega), ht⟩
/-- The result stored. -/
theorem BrkW.done {w0 w : World} {A C : Nat} {S : St4} (h : BrkW w0 w A C S) : boxN 77 (set6N w A 1 S (.slice none 0 0)) A 1 S (.slice none 0 0) ∧ Below w0.heap.size w0 (set6N w A 1 S (.slice none 0 0)) :=
  ⟨h.res.set6 1 S _, KeepW.below h.bel (keep_set6N w A 1 S _) (by have := h.lo; have := h.box.lt; omega) (fun k hk => by have := h.lo; omega)⟩

section
variable {f : Nat} {first : Bool} {S : St4} {l r u : List Nat} {a b : Nat}
end

end Go.Proofs.YtjeomlickkpebaaGreatDoor

/-
  limnerref10.atom: what it returns, where rows returns what it should from the next place on.
-/
namespace Go.Proofs.YtjeomlickkpebaaGreatDoor
open Go.RowKit
set_option linter.unusedSimpArgs false

theorem spans_drop : ∀ (f : Nat) (first : Bool) (S : St4) (l : List Nat) (x : St4 × List Nat), spansR f first S l = some x → ∃ k, x.2 = l.drop k
  | 0, _, _, _, _, h => by cases h
  | f + 1, first, S, l, x, h => by
    simp only [spansR] at h
    split at h
    · cases h; exact ⟨1, by simp⟩
    split at h
    · cases h
    · rename_i a r ha
      obtain ⟨k1, rfl⟩ := let_drop ha
      split at h
      · split at h
        · cases h
        · rename_i b u hb
          obtain ⟨k2, rfl⟩ := let_drop hb
          split at h
          · cases h
          · obtain ⟨k3, hk⟩ := spans_drop f _ _ _ x h
            exact ⟨k1 + 1 + k2 + k3, by rw [hk]; simp [List.drop_drop, List.tail_drop, ← List.drop_one, Nat.add_comm, Nat.add_left_comm, Nat.add_assoc]⟩
      · obtain ⟨k3, hk⟩ := spans_drop f _ _ _ x h
        exact ⟨k1 + k3, by rw [hk, List.drop_drop]⟩
theorem bracket_drop {l r : List Nat} {n : Nd} (h : bracketR l = some (n, r)) : ∃ k, r = l.drop k := by
  unfold bracketR at h
  split at h
  · rcases hs : spansR (l.length + 1) true noR l.tail with _ | x
    · rw [hs] at h; cases h
    · rw [hs] at h
      cases h
      obtain ⟨k, hk⟩ := spans_drop _ _ _ _ _ hs
      exact ⟨1 + k, by rw [hk, ← List.drop_one, List.drop_drop]⟩
  · rcases hs : spansR (l.length + 1) true noR l with _ | x
    · rw [hs] at h; cases h
    · rw [hs] at h
      cases h
      exact spans_drop _ _ _ _ _ hs
theorem signs_drop : ∀ (l : List Nat) (n : Nd), ∃ k, (signsR n l).2 = l.drop k
  | [], _ => ⟨0, rfl⟩
  | c :: t, n => by
    simp only [signsR]
    split
    · obtain ⟨k, hk⟩ := signs_drop t (.mk (signR c : Nat) noR [n])
      exact ⟨k + 1, by rw [hk]; rfl⟩
    · exact ⟨0, rfl⟩
theorem rows_drop : ∀ (N : Nat) (l : List Nat), l.length ≤ N → (∀ n r, atR l = some (n, r) → ∃ k, r = l.drop k) ∧ (∀ all row n r, rwR l all row = some (n, r) → ∃ k, r = l.drop k)
  | N, l, hN => by
    have hA : ∀ n r, atR l = some (n, r) → ∃ k, r = l.drop k := by
      intro n r h
      have hlt := at_len h
      have htl : l.tail.length + 1 = l.length := by rw [List.length_tail]; omega
      rw [at_eq] at h
      split at h
      · split at h
        · cases h
        · rename_i m q hq
          split at h
          · cases h
            obtain ⟨N, rfl⟩ : ∃ k, N = k + 1 := ⟨N - 1, by omega⟩
            obtain ⟨k, hk⟩ := (rows_drop N l.tail (by omega)).2 _ _ _ _ hq
            exact ⟨1 + k + 1, by rw [hk]; simp [List.drop_drop, List.tail_drop, ← List.drop_one, Nat.add_comm, Nat.add_left_comm, Nat.add_assoc]⟩
          · cases h
      split at h
      · obtain ⟨k, hk⟩ := bracket_drop h
        exact ⟨1 + k, by rw [hk, ← List.drop_one, List.drop_drop]⟩
      split at h
      · cases h; exact ⟨1, by simp⟩
      · rcases hs : letR false l with _ | x
        · rw [hs] at h; cases h
        · rw [hs] at h
          cases h
          exact let_drop hs
    refine ⟨hA, fun all row n r h => ?_⟩
    rw [rw_eq] at h
    split at h
    · cases h; exact ⟨0, rfl⟩
    split at h
    · rename_i hc
      have h4 := congrArg List.length (head_tail hc)
      simp only [List.length_cons] at h4
      obtain ⟨N, rfl⟩ : ∃ k, N = k + 1 := ⟨N - 1, by omega⟩
      obtain ⟨k, hk⟩ := (rows_drop N l.tail (by omega)).2 _ _ _ _ h
      exact ⟨1 + k, by rw [hk, ← List.drop_one, List.drop_drop]⟩
    split at h
    · cases h
    · rename_i m q hq
      have hlt := at_len hq
      have hsl := signs_len q m
      obtain ⟨k1, hk1⟩ := hA m q hq
      obtain ⟨k2, hk2⟩ := signs_drop q m
      obtain ⟨N, rfl⟩ : ∃ k, N = k + 1 := ⟨N - 1, by omega⟩
      obtain ⟨k, hk⟩ := (rows_drop N (signsR m q).2 (by omega)).2 _ _ _ _ h
      exact ⟨k1 + k2 + k, by rw [hk, hk2, hk1]; simp [List.drop_drop, List.tail_drop, ← List.drop_one, Nat.add_comm, Nat.add_left_comm, Nat.add_assoc]⟩
theorem rw_drop {l r : List Nat} {all row : List Nd} {n : Nd} (h : rwR l all row = some (n, r)) : ∃ k, r = l.drop k := (rows_drop _ l (Nat.le_refl _)).2 _ _ _ _ h
theorem at_drop {l r : List Nat} {n : Nd} (h : atR l = some (n, r)) : ∃ k, r = l.drop k := (rows_drop _ l (Nat.le_refl _)).1 _ _ h

theorem bracket_form {l r : List Nat} {n : Nd} (hl : ∀ y, y ∈ l → y < 256) (h : bracketR l = some (n, r)) : ∃ S, OkR S ∧ n = .mk 1 S [] := by
  have hg := (bracket_good hl h).1.wf
  unfold bracketR at h
  split at h
  · rcases hs : spansR (l.length + 1) true noR l.tail with _ | x
    · rw [hs] at h; cases h
    · rw [hs] at h
      cases h
      rw [wfR] at hg
      exact ⟨_, hg.1, rfl⟩
  · rcases hs : spansR (l.length + 1) true noR l with _ | x
    · rw [hs] at h; cases h
    · rw [hs] at h
      cases h
      rw [wfR] at hg
      exact ⟨_, hg.1, rfl⟩
end Go.Proofs.YtjeomlickkpebaaGreatDoor
