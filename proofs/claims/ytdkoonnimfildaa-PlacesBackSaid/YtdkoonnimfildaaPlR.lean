/-
  Plain facts on the places of a text's runes in their order: how many are below a place, which place has a number; how these lead back to each other. Nothing of the program.
-/
import Derived.Test.YtdkoonnimfildaaDec
namespace Go.Proofs.Ytdkoonnimfildaa
open Go.RowKit

theorem stL_ge (s : ByteArray) : ∀ f p, ∀ x ∈ stL s f p, p ≤ x
  | 0, p, x, h => by simp [stL] at h
  | f + 1, p, x, h => by
    by_cases hp : p < s.size
    · rw [stL_step s f p hp] at h
      rcases List.mem_cons.1 h with rfl | h
      · exact Nat.le_refl _
      · have := stL_ge s f _ x h
        omega
    · rw [stL_end s _ p hp] at h; simp at h
theorem stL_below (s : ByteArray) : ∀ f p, ∀ x ∈ stL s f p, x < s.size
  | 0, p, x, h => by simp [stL] at h
  | f + 1, p, x, h => by
    by_cases hp : p < s.size
    · rw [stL_step s f p hp] at h
      rcases List.mem_cons.1 h with rfl | h
      · exact hp
      · exact stL_below s f _ x h
    · rw [stL_end s _ p hp] at h; simp at h
theorem stL_order (s : ByteArray) : ∀ f p, (stL s f p).Pairwise (· < ·)
  | 0, p => by simp [stL]
  | f + 1, p => by
    by_cases hp : p < s.size
    · obtain ⟨h1, _⟩ := decW s p hp
      rw [stL_step s f p hp]
      refine List.Pairwise.cons (fun x hx => ?_) (stL_order s f _)
      have := stL_ge s f _ x hx
      omega
    · rw [stL_end s _ p hp]; exact List.Pairwise.nil

/-- How many of a row are below a place. -/
def belowN (l : List Nat) (a : Nat) : Nat := l.countP fun x => decide (x < a)
theorem belowN_all (l : List Nat) (a : Nat) (h : ∀ x ∈ l, x < a) : belowN l a = l.length := by
  unfold belowN
  rw [List.countP_eq_length]
  exact fun x hx => decide_eq_true (h x hx)
theorem belowN_none (l : List Nat) (a : Nat) (h : ∀ x ∈ l, a ≤ x) : belowN l a = 0 := by
  unfold belowN
  rw [List.countP_eq_zero]
  intro x hx
  have := h x hx
  simp; omega
/-- In a row in order as many are below one of it as its number says. -/
theorem belowN_at : ∀ (l : List Nat) (i x : Nat), l.Pairwise (· < ·) → l[i]? = some x → belowN l x = i
  | [], i, x, _, h => by simp at h
  | y :: l, 0, x, hp, h => by
    simp at h
    subst h
    rw [List.pairwise_cons] at hp
    refine belowN_none _ _ fun z hz => ?_
    rcases List.mem_cons.1 hz with rfl | hz
    · exact Nat.le_refl _
    · exact Nat.le_of_lt (hp.1 z hz)
  | y :: l, i + 1, x, hp, h => by
    rw [List.getElem?_cons_succ] at h
    rw [List.pairwise_cons] at hp
    have ih := belowN_at l i x hp.2 h
    have hy := hp.1 x (List.mem_of_getElem? h)
    unfold belowN at ih ⊢
    rw [List.countP_cons_of_pos (by simpa using hy), ih]
theorem belowN_take (l : List Nat) (a i x : Nat) (h : l[i]? = some x) : belowN (l.take (i + 1)) a = belowN (l.take i) a + if x < a then 1 else 0 := by
  obtain ⟨hi, hx⟩ := List.getElem?_eq_some_iff.1 h
  unfold belowN
  rw [List.take_add_one, List.countP_append, List.getElem?_eq_getElem hi, hx]
  show _ + List.countP _ [x] = _
  by_cases hl : x < a
  · rw [if_pos hl, List.countP_cons_of_pos (by simpa using hl)]; rfl
  · rw [if_neg hl, List.countP_cons_of_neg (by simpa using hl)]; rfl

/-- How many of a text's runes stand below a place; the place of a number. -/
def runesN (s : ByteArray) (a : Nat) : Nat := belowN (stA s) a
def placeN (s : ByteArray) (n : Nat) : Nat := ((stA s) ++ [s.size]).getD (min n (stA s).length) 0
theorem runes_at (s : ByteArray) (i x : Nat) (h : (stA s)[i]? = some x) : runesN s x = i := belowN_at _ i x (stL_order s _ _) h
theorem runes_end (s : ByteArray) : runesN s s.size = (stA s).length := belowN_all _ _ (stL_below s _ _)
theorem place_at (s : ByteArray) (i x : Nat) (h : (stA s)[i]? = some x) : placeN s i = x := by
  have hi := (List.getElem?_eq_some_iff.1 h).1
  unfold placeN
  rw [Nat.min_eq_left (by omega), List.getD_eq_getElem?_getD, List.getElem?_append_left hi, h]
  rfl
theorem place_end (s : ByteArray) (n : Nat) (h : (stA s).length ≤ n) : placeN s n = s.size := by
  unfold placeN
  rw [Nat.min_eq_right h, List.getD_eq_getElem?_getD, List.getElem?_append_right (Nat.le_refl _), Nat.sub_self]
  rfl
/-- The first one stands at the front. -/
theorem place_zero (s : ByteArray) : placeN s 0 = 0 := by
  by_cases h : 0 < s.size
  · refine place_at s 0 0 ?_
    unfold stA
    obtain ⟨f, hf⟩ : ∃ f, s.size = f + 1 := ⟨s.size - 1, by omega⟩
    rw [hf, stL_step s f 0 h]
    rfl
  · have h0 : s.size = 0 := by omega
    have : stA s = [] := by unfold stA; exact stL_end s _ 0 h
    rw [place_end s 0 (by rw [this]; exact Nat.le_refl _), h0]
end Go.Proofs.Ytdkoonnimfildaa
