/-
  Plain facts: what may wait; that it stays so, whatever comes. Nothing of the program.
-/
import Derived.Test.YtdnldfgolbcjiaaDoorBe18
namespace Go.Proofs.YtdnldfgolbcjiaaDoor
open Go.RowKit

/-- What may wait. -/
def OkH (w : ByteArray) : Prop := w.size = 0 ∨ Beg w ∨ (1 ≤ w.size ∧ bt w 0 = 27 ∧ (w.size = 1 ∨ (bt w 1 = 79 ∧ w.size = 2) ∨ (bt w 1 = 91 ∧ 2 ≤ w.size) ∨ (2 ≤ w.size ∧ Beg (tailB w 1))))
def OkK : Ky → Prop
  | .held w => OkH w
  | .paste _ => True

theorem tail_list (s : ByteArray) (k : Nat) : (tailB s k).data.toList = s.data.toList.drop k := by
  unfold tailB
  rw [Lib.extract_data, Lib.size_eq, List.take_of_length_le]
  rw [List.length_drop]
  exact Nat.le_refl _
theorem tail_snoc (w : ByteArray) (b k : Nat) (h : k ≤ w.size) : tailB (w ++ oneS b) k = tailB w k ++ oneS b := by
  refine ba_eq.2 ?_
  rw [tail_list, app_data, app_data, tail_list, List.drop_append_of_le_length (by rw [← Lib.size_eq]; exact h)]
theorem tail_one (w : ByteArray) (b : Nat) (h : w.size = 1) : tailB (w ++ oneS b) 1 = oneS b := by
  rw [tail_snoc w b 1 (by omega)]
  refine ba_eq.2 ?_
  rw [app_data, tail_list, List.drop_of_length_le (by rw [← Lib.size_eq]; omega)]
  rfl
theorem tail_bt (s : ByteArray) (k i : Nat) : bt (tailB s k) i = bt s (k + i) := by
  rw [bt_data, bt_data, tail_list, List.getD, List.getD, List.getElem?_drop]
theorem tail_len (s : ByteArray) (k : Nat) : (tailB s k).size = s.size - k := by rw [Lib.size_eq, tail_list, List.length_drop, ← Lib.size_eq]
theorem ok_noB : OkH noB := .inl rfl
theorem ok_firstK (b : Nat) (hb : b < 256) : OkK (firstK b).1 := by
  unfold firstK
  split
  · rename_i h
    rcases h with h | h
    · subst h; exact .inr (.inr ⟨by decide, rfl, .inl rfl⟩)
    · exact .inr (.inl (of_decide_eq_true h))
  · exact ok_noB
theorem beg_ne (w : ByteArray) (h : Beg w) : 0 < w.size ∧ 194 ≤ bt w 0 := ⟨by rcases h with h | h | h <;> omega, by rcases h with h | h | h <;> omega⟩
theorem ok_heldK (w : ByteArray) (b : Nat) (hb : b < 256) : OkK (heldK w b).1 := by
  have hf := ok_firstK b hb
  have ha : ∀ k, OkK (anewK k b).1 := fun k => hf
  have hs := snoc_size w b
  unfold heldK
  by_cases h0 : w.size = 0
  · rw [if_pos h0]; exact hf
  rw [if_neg h0]
  by_cases e27 : bt w 0 = 27
  · rw [if_neg (fun h => h e27)]
    have e0 : bt (w ++ oneS b) 0 = 27 := by rw [bt_l w b 0 (by omega)]; exact e27
    by_cases h1 : w.size = 1
    · rw [if_pos h1]
      have e1 : bt (w ++ oneS b) 1 = b := bt_r w b 1 h1.symm hb
      unfold escK
      split
      · rename_i hc
        refine .inr (.inr ⟨by omega, e0, ?_⟩)
        rcases hc with hc | hc | hc
        · exact .inr (.inr (.inl ⟨by omega, by omega⟩))
        · exact .inr (.inl ⟨by omega, by omega⟩)
        · exact .inr (.inr (.inr ⟨by omega, by rw [tail_one w b h1]; exact of_decide_eq_true hc⟩))
      · split
        · exact ok_noB
        · exact ha _
    rw [if_neg h1]
    have e1 : bt (w ++ oneS b) 1 = bt w 1 := bt_l w b 1 (by omega)
    by_cases e79 : bt w 1 = 79
    · rw [if_pos e79]
      unfold ss3K
      split
      · exact ha _
      · exact ok_noB
    rw [if_neg e79]
    by_cases e91 : bt w 1 = 91
    · rw [if_pos e91]
      unfold csiK
      repeat' split
      · exact ha _
      · exact .inr (.inr ⟨by omega, e0, .inr (.inr (.inl ⟨by omega, by omega⟩))⟩)
      · trivial
      · exact ok_noB
    rw [if_neg e91]
    unfold runeK
    repeat' split
    · exact ok_noB
    · rename_i hc
      exact .inr (.inr ⟨by omega, e0, .inr (.inr (.inr ⟨by omega, of_decide_eq_true hc⟩))⟩)
    · exact ha _
  · rw [if_pos e27]
    unfold runeK
    repeat' split
    · exact ok_noB
    · rename_i hc
      exact .inr (.inl (of_decide_eq_true hc))
    · exact ha _
theorem ok_feedK (p : Ky) (b : Nat) (hb : b < 256) : OkK (feedK p b).1 := by
  cases p with
  | held w => exact ok_heldK w b hb
  | paste s =>
    show OkK (pasteK (s ++ oneS b)).1
    unfold pasteK
    split
    · exact ok_noB
    · trivial
theorem ok_tickK (p : Ky) (h : OkK p) : OkK (tickK p).1 := by
  cases p with
  | paste s => trivial
  | held w =>
    show OkK (if w.size = 0 then (Ky.held w, []) else (Ky.held noB, [if w = oneS 27 then ((5, 0, noB) : Ke) else badK w])).1
    split
    · exact h
    · exact ok_noB
/-- Which of the four it is. -/
theorem ok_beg (w : ByteArray) (h : OkH w) (h0 : w.size ≠ 0) (e : bt w 0 ≠ 27) : Beg w := by
  rcases h with h | h | h
  · exact absurd h h0
  · exact h
  · exact absurd h.2.1 e
theorem ok_tail (w : ByteArray) (h : OkH w) (e : bt w 0 = 27) (h1 : 1 < w.size) (e79 : bt w 1 ≠ 79) (e91 : bt w 1 ≠ 91) : Beg (tailB w 1) := by
  rcases h with h | h | ⟨_, _, h | h | h | h⟩
  · omega
  · have := (beg_ne w h).2; omega
  · omega
  · exact absurd h.1 e79
  · exact absurd h.1 e91
  · exact h.2
theorem ok_two (w : ByteArray) (h : OkH w) (e : bt w 0 = 27) (h1 : 1 < w.size) (e79 : bt w 1 = 79) : w.size = 2 := by
  rcases h with h | h | ⟨_, _, h | h | h | h⟩
  · omega
  · have := (beg_ne w h).2; omega
  · omega
  · exact h.2
  · omega
  · have := (beg_ne _ h.2).2
    rw [tail_bt, Nat.add_zero] at this
    omega
/-- A rune that is read has so many bytes. -/
theorem dec_len (s : ByteArray) (h : okAt s 0 = true) : (putN (Utf8.decode s 0).1).length = (Utf8.decode s 0).2 := by
  have hne := okAt_ne s 0 h
  have hl := bt_lt s 0
  have h1 := bt_lt s 1
  have h2 := bt_lt s 2
  have h3 := bt_lt s 3
  rw [dec_bt, Nat.sub_zero] at hne ⊢
  generalize bt s 0 = b0 at *
  generalize bt s (0 + 1) = b1 at *
  generalize bt s (0 + 2) = b2 at *
  generalize bt s (0 + 3) = b3 at *
  by_cases a1 : b0 < 128
  · rw [nat1 _ _ _ _ _ a1]
    show (putN b0).length = 1
    unfold putN
    rw [if_pos a1]; rfl
  by_cases a2 : b0 < 192 ∨ 248 ≤ b0
  · exact absurd (nat0 _ _ _ _ _ (by omega)) hne
  by_cases a3 : b0 < 224
  · by_cases c : 2 ≤ s.size ∧ b1 / 64 = 2 ∧ 128 ≤ (b0 - 192) * 64 + b1 % 64
    · rw [nat2y _ _ _ _ _ ⟨by omega, a3⟩ c.1 c.2.1 c.2.2]
      show (putN ((b0 - 192) * 64 + b1 % 64)).length = 2
      rw [(put2iff b0 b1 ⟨by omega, a3⟩ h1).2 c.2]; rfl
    · exact absurd (nat2n _ _ _ _ _ ⟨by omega, a3⟩ c) hne
  by_cases a4 : b0 < 240
  · by_cases c : 3 ≤ s.size ∧ b1 / 64 = 2 ∧ b2 / 64 = 2 ∧ 2048 ≤ ((b0 - 224) * 64 + b1 % 64) * 64 + b2 % 64 ∧ (((b0 - 224) * 64 + b1 % 64) * 64 + b2 % 64 < 55296 ∨ 57344 ≤ ((b0 - 224) * 64 + b1 % 64) * 64 + b2 % 64)
    · rw [nat3y _ _ _ _ _ ⟨by omega, a4⟩ c.1 c.2.1 c.2.2.1 c.2.2.2.1 c.2.2.2.2]
      show (putN (((b0 - 224) * 64 + b1 % 64) * 64 + b2 % 64)).length = 3
      rw [(put3iff b0 b1 b2 ⟨by omega, a4⟩ h1 h2).2 c.2]; rfl
    · exact absurd (nat3n _ _ _ _ _ ⟨by omega, a4⟩ c) hne
  · by_cases c : 4 ≤ s.size ∧ b1 / 64 = 2 ∧ b2 / 64 = 2 ∧ b3 / 64 = 2 ∧ 65536 ≤ (((b0 - 240) * 64 + b1 % 64) * 64 + b2 % 64) * 64 + b3 % 64 ∧ (((b0 - 240) * 64 + b1 % 64) * 64 + b2 % 64) * 64 + b3 % 64 ≤ 1114111
    · rw [nat4y _ _ _ _ _ ⟨by omega, by omega⟩ c.1 c.2.1 c.2.2.1 c.2.2.2.1 c.2.2.2.2.1 c.2.2.2.2.2]
      show (putN ((((b0 - 240) * 64 + b1 % 64) * 64 + b2 % 64) * 64 + b3 % 64)).length = 4
      rw [(put4iff b0 b1 b2 b3 ⟨by omega, by omega⟩ h1 h2 h3).2 c.2]; rfl
    · exact absurd (nat4n _ _ _ _ _ ⟨by omega, by omega⟩ c) hne
end Go.Proofs.YtdnldfgolbcjiaaDoor
