/-
  Plain facts on the other reckoning of a beginning: one rune's bytes, what is made as long as a rune by the least and the greatest bytes that go on. Nothing of the program.
-/
import Derived.Test.YtdnldfgolbcjiaaDoorBe3
import Derived.Test.YtdnldfgolbcjiaaDoorBe5
namespace Go.Proofs.YtdnldfgolbcjiaaDoor
open Go.RowKit

/-- One rune's bytes, all of them. -/
def wholeB (s : ByteArray) : Bool := okAt s 0 && decide ((Utf8.decode s 0).2 = s.size)
/-- Made so long. -/
def padB (s : ByteArray) (c n : Nat) : ByteArray := s ++ ⟨(List.replicate (n - s.size) (UInt8.ofNat c)).toArray⟩
theorem pad_size (s : ByteArray) (c n : Nat) (h : s.size ≤ n) : (padB s c n).size = n := by
  unfold padB
  rw [app_size]
  show s.size + (List.replicate (n - s.size) (UInt8.ofNat c)).toArray.size = n
  simp
  omega
theorem pad_bt (s : ByteArray) (c n i : Nat) (hc : c < 256) : bt (padB s c n) i = if i < s.size then bt s i else if i < n then c else 0 := by
  unfold padB
  by_cases h : i < s.size
  · rw [if_pos h, bt_appL _ _ _ h]
  · rw [if_neg h]
    obtain ⟨k, rfl⟩ : ∃ k, i = s.size + k := ⟨i - s.size, by omega⟩
    rw [bt_appR, bt_data]
    show ((List.replicate (n - s.size) (UInt8.ofNat c)).toArray.toList.getD k 0).toNat = _
    by_cases hk : k < n - s.size
    · rw [if_pos (by omega)]
      simp [List.getD, hk]
      omega
    · rw [if_neg (by omega)]
      simp [List.getD, hk]
theorem pad_zero (s : ByteArray) (c n : Nat) (h : n ≤ s.size) : padB s c n = s := by
  unfold padB
  rw [show n - s.size = 0 by omega]
  apply ByteArray.ext
  apply Array.toList_inj.1
  rw [app_data]
  simp
theorem pad_step (s t : ByteArray) (c n : Nat) (_h : t.size < n) (ht : t = padB s c t.size) (hs : s.size ≤ t.size) : t ++ ⟨#[UInt8.ofNat c]⟩ = padB s c (t.size + 1) := by
  have e : padB s c (t.size + 1) = padB s c t.size ++ ⟨#[UInt8.ofNat c]⟩ := by
    unfold padB
    apply ByteArray.ext
    apply Array.toList_inj.1
    rw [app_data, app_data, app_data, show t.size + 1 - s.size = (t.size - s.size) + 1 by omega, List.append_assoc]
    congr 1
    show (List.replicate ((t.size - s.size) + 1) (UInt8.ofNat c)).toArray.toList = (List.replicate (t.size - s.size) (UInt8.ofNat c)).toArray.toList ++ [UInt8.ofNat c]
    rw [List.replicate_succ']
  rw [e, ← ht]

def wholeN (n b0 b1 b2 b3 : Nat) : Prop := Lib.decodeN n b0 b1 b2 b3 ≠ (65533, 1) ∧ (Lib.decodeN n b0 b1 b2 b3).2 = n
theorem whole_iff (s : ByteArray) : wholeB s = true ↔ wholeN s.size (bt s 0) (bt s 1) (bt s 2) (bt s 3) := by
  unfold wholeB wholeN okAt
  rw [dec_bt, Nat.sub_zero]
  generalize Lib.decodeN s.size (bt s 0) (bt s (0 + 1)) (bt s (0 + 2)) (bt s (0 + 3)) = d at *
  obtain ⟨d1, d2⟩ := d
  by_cases e1 : d1 = 65533 <;> by_cases e2 : d2 = 1 <;> simp [e1, e2]
theorem whole2 (b0 b1 b2 b3 : Nat) (h : 194 ≤ b0 ∧ b0 < 224) : wholeN 2 b0 b1 b2 b3 ↔ b1 / 64 = 2 := by
  unfold wholeN
  by_cases hc : b1 / 64 = 2 ∧ 128 ≤ (b0 - 192) * 64 + b1 % 64
  · rw [nat2y 2 b0 b1 b2 b3 ⟨by omega, h.2⟩ (by omega) hc.1 hc.2]
    simp [hc.1]
  · rw [nat2n 2 b0 b1 b2 b3 ⟨by omega, h.2⟩ (by omega)]
    simp
    omega
theorem whole3 (b0 b1 b2 b3 : Nat) (h : 224 ≤ b0 ∧ b0 < 240) : wholeN 3 b0 b1 b2 b3 ↔ (b1 / 64 = 2 ∧ b2 / 64 = 2 ∧ 2048 ≤ ((b0 - 224) * 64 + b1 % 64) * 64 + b2 % 64 ∧ (((b0 - 224) * 64 + b1 % 64) * 64 + b2 % 64 < 55296 ∨ 57344 ≤ ((b0 - 224) * 64 + b1 % 64) * 64 + b2 % 64)) := by
  unfold wholeN
  by_cases hc : b1 / 64 = 2 ∧ b2 / 64 = 2 ∧ 2048 ≤ ((b0 - 224) * 64 + b1 % 64) * 64 + b2 % 64 ∧ (((b0 - 224) * 64 + b1 % 64) * 64 + b2 % 64 < 55296 ∨ 57344 ≤ ((b0 - 224) * 64 + b1 % 64) * 64 + b2 % 64)
  · rw [nat3y 3 b0 b1 b2 b3 h (by omega) hc.1 hc.2.1 hc.2.2.1 hc.2.2.2]
    exact ⟨fun _ => hc, fun _ => ⟨by simp, rfl⟩⟩
  · rw [nat3n 3 b0 b1 b2 b3 h (fun k => hc k.2)]
    exact ⟨fun k => absurd rfl k.1, fun k => absurd k hc⟩
theorem whole4 (b0 b1 b2 b3 : Nat) (h : 240 ≤ b0 ∧ b0 < 248) : wholeN 4 b0 b1 b2 b3 ↔ (b1 / 64 = 2 ∧ b2 / 64 = 2 ∧ b3 / 64 = 2 ∧ 65536 ≤ (((b0 - 240) * 64 + b1 % 64) * 64 + b2 % 64) * 64 + b3 % 64 ∧ (((b0 - 240) * 64 + b1 % 64) * 64 + b2 % 64) * 64 + b3 % 64 ≤ 1114111) := by
  unfold wholeN
  by_cases hc : b1 / 64 = 2 ∧ b2 / 64 = 2 ∧ b3 / 64 = 2 ∧ 65536 ≤ (((b0 - 240) * 64 + b1 % 64) * 64 + b2 % 64) * 64 + b3 % 64 ∧ (((b0 - 240) * 64 + b1 % 64) * 64 + b2 % 64) * 64 + b3 % 64 ≤ 1114111
  · rw [nat4y 4 b0 b1 b2 b3 h (by omega) hc.1 hc.2.1 hc.2.2.1 hc.2.2.2.1 hc.2.2.2.2]
    exact ⟨fun _ => hc, fun _ => ⟨by simp, rfl⟩⟩
  · rw [nat4n 4 b0 b1 b2 b3 h (fun k => hc k.2)]
    exact ⟨fun k => absurd rfl k.1, fun k => absurd k hc⟩
def lenN (b : Nat) : Nat := if b < 224 then 2 else if b < 240 then 3 else 4
/-- The two reckonings of a beginning are one. -/
theorem beg_pad (s : ByteArray) (h0 : 194 ≤ bt s 0) (h1 : bt s 0 ≤ 244) (hs : 0 < s.size) (hn : s.size < lenN (bt s 0)) :
    (wholeB (padB s 128 (lenN (bt s 0))) = true ∨ wholeB (padB s 191 (lenN (bt s 0))) = true ∨ (2 < lenN (bt s 0) ∧ s.size = 1)) ↔ Beg s := by
  have hl1 := bt_lt s 1
  have hl2 := bt_lt s 2
  have z : ∀ c, c < 256 → bt (padB s c (lenN (bt s 0))) 0 = bt s 0 := fun c hc => by rw [pad_bt _ _ _ _ hc, if_pos hs]
  have hn2 : 2 ≤ lenN (bt s 0) := by omega
  rw [whole_iff, whole_iff, pad_size _ _ _ (by omega), pad_size _ _ _ (by omega), z 128 (by omega), z 191 (by omega)]
  rw [pad_bt _ _ _ 1 (by omega), pad_bt _ _ _ 2 (by omega), pad_bt _ _ _ 3 (by omega), pad_bt _ _ _ 1 (by omega), pad_bt _ _ _ 2 (by omega), pad_bt _ _ _ 3 (by omega)]
  unfold Beg
  generalize bt s 0 = b0 at *
  generalize bt s 1 = b1 at *
  generalize bt s 2 = b2 at *
  generalize bt s 3 = b3 at *
  generalize s.size = m at *
  by_cases a1 : b0 < 224
  · have e : lenN b0 = 2 := by unfold lenN; rw [if_pos a1]
    rw [e] at hn ⊢
    obtain rfl : m = 1 := by omega
    rw [whole2 _ _ _ _ ⟨h0, a1⟩, whole2 _ _ _ _ ⟨h0, a1⟩]
    simp
    omega
  · by_cases a2 : b0 < 240
    · have e : lenN b0 = 3 := by unfold lenN; rw [if_neg a1, if_pos a2]
      rw [e] at hn ⊢
      rw [whole3 _ _ _ _ ⟨by omega, a2⟩, whole3 _ _ _ _ ⟨by omega, a2⟩]
      by_cases m1 : m = 1
      · subst m1
        simp
        omega
      · obtain rfl : m = 2 := by omega
        simp only [Nat.lt_irrefl, if_true, if_false, show (1 : Nat) < 2 from by decide, show (2 : Nat) < 3 from by decide, show ¬ (2 : Nat) = 1 from by decide, and_false, or_false, false_and, false_or]
        unfold loB hiB
        by_cases q1 : b0 = 224
        · subst q1; simp; omega
        · by_cases q2 : b0 = 237
          · subst q2; simp; omega
          · rw [if_neg q1, if_neg q2]
            simp only [show ¬ b0 = 240 from by omega, show ¬ b0 = 244 from by omega, if_false]
            constructor
            · intro h
              rcases h with h | h <;> exact .inl ⟨trivial, by omega, by omega, by omega, by omega⟩
            · intro h
              have hq : b1 / 64 = 2 := by omega
              have h3 : b0 < 237 ∨ 238 ≤ b0 := by omega
              refine .inl ⟨hq, trivial, by omega, ?_⟩
              rcases h3 with h3 | h3
              · left; omega
              · right; omega
    · have e : lenN b0 = 4 := by unfold lenN; rw [if_neg a1, if_neg a2]
      rw [e] at hn ⊢
      rw [whole4 _ _ _ _ ⟨by omega, by omega⟩, whole4 _ _ _ _ ⟨by omega, by omega⟩]
      by_cases m1 : m = 1
      · subst m1
        simp
        omega
      · by_cases m2 : m = 2
        · subst m2
          simp
          unfold loB hiB
          by_cases q1 : b0 = 240
          · subst q1; simp; omega
          · by_cases q2 : b0 = 244
            · subst q2; simp; omega
            · simp only [show ¬ b0 = 224 from by omega, show ¬ b0 = 237 from by omega, q1, q2, if_false]
              omega
        · obtain rfl : m = 3 := by omega
          simp
          unfold loB hiB
          by_cases q1 : b0 = 240
          · subst q1; simp; omega
          · by_cases q2 : b0 = 244
            · subst q2; simp; omega
            · simp only [show ¬ b0 = 224 from by omega, show ¬ b0 = 237 from by omega, q1, q2, if_false]
              omega
theorem beg_first (s : ByteArray) (h : Beg s) : 0 < s.size ∧ 194 ≤ bt s 0 ∧ bt s 0 ≤ 244 ∧ s.size < lenN (bt s 0) := by
  unfold lenN
  rcases h with h | h | h
  all_goals
    refine ⟨by omega, by omega, by omega, ?_⟩
    repeat' split
    all_goals omega
end Go.Proofs.YtdnldfgolbcjiaaDoor
