/-
  Plain facts on the places of a text: the last one is told by the last four bytes; a cut text's, a joined text's. Nothing of the program is run here.
-/
import Derived.Test.YtdnldfgolbcjiaaDoorList
import Derived.Test.YtdnldfgolbcjiaaDoorPutN
namespace Go.Proofs.YtdnldfgolbcjiaaDoor
open Go.RowKit

theorem lastL_spec (s : ByteArray) : ∀ f p a, p < s.size → s.size ≤ p + f → p ≤ lastL s f p a ∧ lastL s f p a < s.size ∧ lastL s f p a + (Utf8.decode s (lastL s f p a)).2 = s.size
  | 0, p, a, h, hf => by omega
  | f + 1, p, a, h, hf => by
    obtain ⟨h1, h2⟩ := decW s p h
    rw [lastL_step s f p a h]
    by_cases hp : p + (Utf8.decode s p).2 < s.size
    · obtain ⟨g1, g2, g3⟩ := lastL_spec s f (p + (Utf8.decode s p).2) p hp (by omega)
      exact ⟨by omega, g2, g3⟩
    · rw [lastL_end s f _ p hp]
      exact ⟨Nat.le_refl _, h, by omega⟩

theorem lastL_uniq (s : ByteArray) (q : Nat) (hq : q < s.size) (he : q + (Utf8.decode s q).2 = s.size) (hc : bt s q / 64 ≠ 2) : ∀ f p a, p ≤ q → s.size ≤ p + f → lastL s f p a = q
  | 0, p, a, h, hf => by omega
  | f + 1, p, a, h, hf => by
    have hp : p < s.size := by omega
    obtain ⟨h1, h2⟩ := decW s p hp
    rw [lastL_step s f p a hp]
    by_cases e : p = q
    · subst e
      exact lastL_end s f _ p (by omega)
    · refine lastL_uniq s q hq he hc f _ p ?_ (by omega)
      rcases Nat.lt_or_ge q (p + (Utf8.decode s p).2) with g | g
      · exact absurd (dec_cont s p q (by omega) g) hc
      · exact g

/-- The chain of places from 0 and the one from n end alike, if n is among the last four bytes' beginnings. -/
theorem last_four (s : ByteArray) (n f a : Nat) (hn : n < s.size) (h4 : s.size ≤ n + 4) (h4' : n + 4 ≤ s.size ∨ n = 0) (hf : s.size ≤ n + f) : lastL s f n a = lastA s := by
  have h0 : 0 < s.size := by omega
  obtain ⟨a1, a2, a3⟩ := lastL_spec s s.size 0 0 h0 (by omega)
  obtain ⟨b1, b2, b3⟩ := lastL_spec s f n a hn hf
  have hA : lastL s s.size 0 0 = lastA s := rfl
  rw [hA] at a1 a2 a3
  have hw1 := Lib.width_pos s (lastA s)
  have hw2 := Lib.width_pos s (lastL s f n a)
  have hle : (Utf8.decode s (lastA s)).2 ≤ 4 := by rw [dec_bt]; exact decN_le4 _ _ _ _ _
  by_cases c1 : 2 ≤ (Utf8.decode s (lastA s)).2
  · exact lastL_uniq s _ a2 a3 (by have := dec_lead s _ c1; omega) f n a (by omega) hf
  by_cases c2 : 2 ≤ (Utf8.decode s (lastL s f n a)).2
  · exact (lastL_uniq s _ b2 b3 (by have := dec_lead s _ c2; omega) s.size 0 0 (by omega) (by omega)).symm
  · omega

theorem lastL_tail (s : ByteArray) (n : Nat) : ∀ f p a, n + lastL (s.extract n s.size) f p a = lastL s f (n + p) (n + a)
  | 0, p, a => rfl
  | f + 1, p, a => by
    have hs := Lib.tail_size s n
    by_cases h : n + p < s.size
    · rw [lastL_step _ f p a (by omega), lastL_step s f (n + p) (n + a) h, lastL_tail s n f _ p, Lib.tail_decode]
      congr 1
      omega
    · rw [lastL_end _ _ p a (by omega), lastL_end s _ (n + p) (n + a) h]

theorem ex_ex (s : ByteArray) (k : Nat) : (s.extract 0 k).extract (k - 4) k = s.extract (k - 4) k := by
  apply ByteArray.ext
  apply Array.toList_inj.1
  rw [Lib.extract_data, Lib.extract_data, Lib.extract_data, List.drop_zero, Nat.sub_zero, List.drop_take]
  rw [List.take_take, Nat.min_self]

theorem okAt_tail (s : ByteArray) (n p : Nat) : okAt (s.extract n s.size) p = okAt s (n + p) := by
  unfold okAt; rw [Lib.tail_decode]

/-- THE LAST RUNE IS TOLD BY THE LAST FOUR BYTES. -/
theorem back_four (s : ByteArray) (k : Nat) (h0 : 0 < k) (h1 : k ≤ s.size) :
    Utf8.decode (s.extract (k - 4) k) (lastA (s.extract (k - 4) k)) = Utf8.decode (s.extract 0 k) (lastA (s.extract 0 k)) ∧
    okAt (s.extract (k - 4) k) (lastA (s.extract (k - 4) k)) = okAt (s.extract 0 k) (lastA (s.extract 0 k)) := by
  have hU := head_size s k h1
  have e1 := ex_ex s k
  generalize s.extract 0 k = U at hU e1
  rw [← e1]
  obtain rfl := hU
  have ht := lastL_tail U (U.size - 4) (U.extract (U.size - 4) U.size).size 0 0
  have hts := Lib.tail_size U (U.size - 4)
  rw [Nat.add_zero, hts] at ht
  rw [last_four U (U.size - 4) _ _ (by omega) (by omega) (by omega) (by omega)] at ht
  have hl : lastA (U.extract (U.size - 4) U.size) = lastL (U.extract (U.size - 4) U.size) (U.size - (U.size - 4)) 0 0 := by unfold lastA; rw [hts]
  rw [← hl] at ht
  rw [Lib.tail_decode, okAt_tail, ht]
  exact ⟨rfl, rfl⟩

/-- Where part j begins; behind the last one: the end. -/
def posN (s : ByteArray) : Nat → Nat
  | 0 => 0
  | j + 1 => if posN s j < s.size then posN s j + (Utf8.decode s (posN s j)).2 else posN s j
theorem posN_succ (s : ByteArray) (j : Nat) (h : posN s j < s.size) : posN s (j + 1) = posN s j + (Utf8.decode s (posN s j)).2 := by
  show (if posN s j < s.size then _ else _) = _
  rw [if_pos h]
theorem posN_le (s : ByteArray) : ∀ j, posN s j ≤ s.size
  | 0 => Nat.zero_le _
  | j + 1 => by
    have ih := posN_le s j
    by_cases h : posN s j < s.size
    · have := decW s _ h; rw [posN_succ s j h]; omega
    · show (if posN s j < s.size then _ else _) ≤ _; rw [if_neg h]; exact ih
theorem posN_ge (s : ByteArray) : ∀ j, posN s j < s.size → j ≤ posN s j
  | 0, _ => Nat.zero_le _
  | j + 1, h => by
    by_cases h1 : posN s j < s.size
    · have := posN_ge s j h1
      have := decW s _ h1
      rw [posN_succ s j h1]; omega
    · have e : posN s (j + 1) = posN s j := by show (if posN s j < s.size then _ else _) = _; rw [if_neg h1]
      rw [e] at h; exact absurd h h1
theorem drop_stA (s : ByteArray) : ∀ j, (stA s).drop j = stL s (s.size - j) (posN s j)
  | 0 => rfl
  | j + 1 => by
    have ih := drop_stA s j
    by_cases h : posN s j < s.size
    · have hg := posN_ge s j h
      obtain ⟨m, hm⟩ : ∃ m, s.size - j = m + 1 := ⟨s.size - j - 1, by omega⟩
      rw [hm, stL_step s m _ h] at ih
      rw [posN_succ s j h, show s.size - (j + 1) = m by omega, show (stA s).drop (j + 1) = ((stA s).drop j).drop 1 by rw [List.drop_drop], ih]
      rfl
    · have e : posN s (j + 1) = posN s j := by show (if posN s j < s.size then _ else _) = _; rw [if_neg h]
      rw [stL_end s _ _ h] at ih
      rw [e, stL_end s _ _ h]
      have : (stA s).length ≤ j := by have := congrArg List.length ih; rw [List.length_drop] at this; simp at this; omega
      exact List.drop_of_length_le (by omega)
theorem posN_lt (s : ByteArray) (j : Nat) : j < (stA s).length ↔ posN s j < s.size := by
  have h := drop_stA s j
  constructor
  · intro hj
    rcases Nat.lt_or_ge (posN s j) s.size with g | g
    · exact g
    · rw [stL_end s _ _ (by omega)] at h
      have := congrArg List.length h; rw [List.length_drop] at this; simp at this; omega
  · intro hj
    have hg := posN_ge s j hj
    obtain ⟨m, hm⟩ : ∃ m, s.size - j = m + 1 := ⟨s.size - j - 1, by omega⟩
    rw [hm, stL_step s m _ hj] at h
    have := congrArg List.length h; rw [List.length_drop] at this; simp at this; omega
theorem stA_getD (s : ByteArray) (j : Nat) (hj : j < (stA s).length) : (stA s).getD j 0 = posN s j := by
  have h := drop_stA s j
  have hp := (posN_lt s j).1 hj
  have hg := posN_ge s j hp
  obtain ⟨m, hm⟩ : ∃ m, s.size - j = m + 1 := ⟨s.size - j - 1, by omega⟩
  rw [hm, stL_step s m _ hp, List.drop_eq_getElem_cons hj] at h
  simp only [List.getD, List.getElem?_eq_getElem hj, Option.getD_some]
  exact (List.cons.inj h).1
theorem posN_len (s : ByteArray) : posN s (stA s).length = s.size := by
  have h1 := posN_le s (stA s).length
  rcases Nat.lt_or_ge (posN s (stA s).length) s.size with g | g
  · have := (posN_lt s _).2 g; omega
  · omega
theorem posN_step_le (s : ByteArray) (j : Nat) : posN s j ≤ posN s (j + 1) := by
  by_cases h : posN s j < s.size
  · rw [posN_succ s j h]; omega
  · have e : posN s (j + 1) = posN s j := by show (if posN s j < s.size then _ else _) = _; rw [if_neg h]
    omega
theorem posN_mono (s : ByteArray) (i : Nat) : ∀ d, posN s i ≤ posN s (i + d)
  | 0 => Nat.le_refl _
  | d + 1 => Nat.le_trans (posN_mono s i d) (posN_step_le s (i + d))

theorem head_last_from (s : ByteArray) (j : Nat) (hj : posN s j < s.size) : ∀ d i f a, i + d = j → posN s (j + 1) ≤ posN s i + f → lastL (s.extract 0 (posN s (j + 1))) f (posN s i) a = posN s j
  | d, i, 0, a, hd, hf => by
    have h1 := posN_mono s i d
    rw [hd] at h1
    have := posN_succ s j hj
    have := decW s _ hj
    omega
  | 0, i, f + 1, a, hd, hf => by
    have hi : i = j := hd
    subst hi
    have hle := posN_le s (i + 1)
    have e := posN_succ s i hj
    have hw := decW s _ hj
    have hs := head_size s _ hle
    have hdec := dec_head s (posN s i) (posN s (i + 1)) hle (by omega)
    rw [lastL_step _ f _ a (by rw [hs]; omega), hdec, ← e]
    exact lastL_end _ f _ _ (by rw [hs]; omega)
  | d + 1, i, f + 1, a, hd, hf => by
    have hle := posN_le s (j + 1)
    have hs := head_size s _ hle
    have m1 := posN_mono s i (d + 1)
    rw [hd] at m1
    have m2 := posN_mono s (i + 1) d
    rw [show i + 1 + d = j by omega] at m2
    have hi : posN s i < s.size := by omega
    have e := posN_succ s i hi
    have hw := decW s _ hi
    have e2 := posN_succ s j hj
    have hw2 := decW s _ hj
    have hdec := dec_head s (posN s i) (posN s (j + 1)) hle (by omega)
    rw [lastL_step _ f _ a (by rw [hs]; omega), hdec, ← e]
    exact head_last_from s j hj d (i + 1) f _ (by omega) (by omega)

/-- BACK FROM A PART's END: that part. -/
theorem head_last (s : ByteArray) (j : Nat) (hj : posN s j < s.size) : lastA (s.extract 0 (posN s (j + 1))) = posN s j ∧ Utf8.decode (s.extract 0 (posN s (j + 1))) (posN s j) = Utf8.decode s (posN s j) := by
  have hle := posN_le s (j + 1)
  have hs := head_size s _ hle
  have e := posN_succ s j hj
  constructor
  · unfold lastA
    rw [hs]
    exact head_last_from s j hj j 0 _ 0 (Nat.zero_add _) (by show _ ≤ 0 + _; omega)
  · exact dec_head s _ _ hle (by omega)
end Go.Proofs.YtdnldfgolbcjiaaDoor
