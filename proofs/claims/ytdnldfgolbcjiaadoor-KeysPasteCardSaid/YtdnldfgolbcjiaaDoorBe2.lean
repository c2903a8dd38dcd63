/-
  Plain facts on texts as runes: which bytes stand at a place, what is cut off, what is joined. Nothing of the program.
-/
import Derived.Lib.DecodeN
import Derived.Lib.RuneCountTail
import Derived.Lib.TrimU
import Derived.Lib.QuoteLoop
namespace Go.Proofs.YtdnldfgolbcjiaaDoor
open Go.Lib

/-- Byte i, a number; 0 beyond the end. -/
def bt (s : ByteArray) (i : Nat) : Nat := (s.get! i).toNat
theorem bt_lt (s : ByteArray) (i : Nat) : bt s i < 256 := UInt8.toNat_lt _
theorem dec_bt (s : ByteArray) (i : Nat) : Utf8.decode s i = decodeN (s.size - i) (bt s i) (bt s (i + 1)) (bt s (i + 2)) (bt s (i + 3)) := decode_at s i

/-- Two bytes or more: the first one leads, the others go on. -/
theorem decN_wide (n b0 b1 b2 b3 : Nat) (h0 : b0 < 256) (h : 2 ≤ (decodeN n b0 b1 b2 b3).2) :
    192 ≤ b0 ∧ b1 / 64 = 2 ∧ (3 ≤ (decodeN n b0 b1 b2 b3).2 → b2 / 64 = 2) ∧ (4 ≤ (decodeN n b0 b1 b2 b3).2 → b3 / 64 = 2) := by
  revert h
  unfold decodeN
  repeat' split
  all_goals simp
  all_goals omega

theorem decN_le4 (n b0 b1 b2 b3 : Nat) : (decodeN n b0 b1 b2 b3).2 ≤ 4 := by
  unfold decodeN
  repeat' split
  all_goals simp

/-- Bytes beyond the end make no difference. -/
theorem decN_congr (n b0 b1 b2 b3 c1 c2 c3 : Nat) (h1 : 1 < n → c1 = b1) (h2 : 2 < n → c2 = b2) (h3 : 3 < n → c3 = b3) : decodeN n b0 c1 c2 c3 = decodeN n b0 b1 b2 b3 := by
  by_cases e1 : 1 < n
  · obtain rfl := h1 e1
    by_cases e2 : 2 < n
    · obtain rfl := h2 e2
      by_cases e3 : 3 < n
      · obtain rfl := h3 e3; rfl
      · simp only [decodeN, e3, false_and, and_false, if_false]
    · simp only [decodeN, e2, show ¬ 3 < n by omega, false_and, and_false, if_false]
  · simp only [decodeN, e1, false_and, and_false, if_false]

/-- What is read with m bytes at hand is what is read with n, if it takes no more. -/
theorem decN_cut (n m b0 b1 b2 b3 : Nat) (hm : m ≤ n) (h : (decodeN n b0 b1 b2 b3).2 ≤ m) : decodeN m b0 b1 b2 b3 = decodeN n b0 b1 b2 b3 := by
  revert h
  unfold decodeN
  repeat' split
  all_goals simp
  all_goals first | omega | (intros; omega)

/-- With fewer bytes at hand than it has, no rune is read. -/
theorem decN_short (n m b0 b1 b2 b3 : Nat) (hn : 1 ≤ n) (h : n < (decodeN m b0 b1 b2 b3).2) : decodeN n b0 b1 b2 b3 = (65533, 1) := by
  revert h
  unfold decodeN
  repeat' split
  all_goals first | (intro h; dsimp only at h; exfalso; omega) | (intro _; rfl)

/-- A rune that is read with n bytes at hand is read with more. -/
theorem decN_more (n m b0 b1 b2 b3 : Nat) (hn : 1 ≤ n) (hm : n ≤ m) (h : decodeN n b0 b1 b2 b3 ≠ (65533, 1)) : decodeN m b0 b1 b2 b3 = decodeN n b0 b1 b2 b3 := by
  by_cases e : (decodeN m b0 b1 b2 b3).2 ≤ n
  · exact (decN_cut m n b0 b1 b2 b3 hm e).symm
  · exact absurd (decN_short n m b0 b1 b2 b3 hn (by omega)) h

/-- What is read with n bytes at hand is read with more, if the one behind them can't go on. -/
theorem decN_stop (n m b0 b1 b2 b3 : Nat) (hn : 1 ≤ n) (hm : n ≤ m) (h1 : n = 1 → b1 / 64 ≠ 2) (h2 : n = 2 → b2 / 64 ≠ 2) (h3 : n = 3 → b3 / 64 ≠ 2) : decodeN m b0 b1 b2 b3 = decodeN n b0 b1 b2 b3 := by
  unfold decodeN
  repeat' split
  all_goals first | (exfalso; omega) | rfl

theorem bt_data (s : ByteArray) (i : Nat) : bt s i = (s.data.toList.getD i 0).toNat := by unfold bt; rw [getD_get!']
theorem bt_head (s : ByteArray) (k i : Nat) (h : i < k) : bt (s.extract 0 k) i = bt s i := by
  rw [bt_data, bt_data, extract_data]
  simp [List.getD, List.getElem?_take_of_lt h]
theorem app_data (a b : ByteArray) : (a ++ b).data.toList = a.data.toList ++ b.data.toList := by simp
theorem app_size (a b : ByteArray) : (a ++ b).size = a.size + b.size := by rw [size_eq, app_data, List.length_append, ← size_eq, ← size_eq]
theorem bt_appL (a b : ByteArray) (i : Nat) (h : i < a.size) : bt (a ++ b) i = bt a i := by
  rw [bt_data, bt_data, app_data]
  rw [size_eq] at h
  simp only [List.getD, List.getElem?_append_left h]
theorem bt_appR (a b : ByteArray) (i : Nat) : bt (a ++ b) (a.size + i) = bt b i := by
  rw [bt_data, bt_data, app_data, size_eq]
  simp only [List.getD]
  rw [List.getElem?_append_right (by omega), Nat.add_sub_cancel_left]
theorem head_size (s : ByteArray) (k : Nat) (h : k ≤ s.size) : (s.extract 0 k).size = k := by
  rw [size_eq, extract_data, List.length_take, List.length_drop, ← size_eq]
  omega

/-- What stands at k within the first e bytes: the same, if it ends there. -/
theorem dec_head (s : ByteArray) (k e : Nat) (he : e ≤ s.size) (hk : k + (Utf8.decode s k).2 ≤ e) : Utf8.decode (s.extract 0 e) k = Utf8.decode s k := by
  have hw := Lib.width_pos s k
  rw [dec_bt s k] at hk hw
  rw [dec_bt, dec_bt, head_size s e he, bt_head s e k (by omega), ← decN_cut (s.size - k) (e - k) _ _ _ _ (by omega) (by omega)]
  apply decN_congr
  · intro h; exact bt_head s e _ (by omega)
  · intro h; exact bt_head s e _ (by omega)
  · intro h; exact bt_head s e _ (by omega)

theorem dec_appR (a b : ByteArray) (i : Nat) : Utf8.decode (a ++ b) (a.size + i) = Utf8.decode b i := by
  rw [dec_bt, dec_bt, app_size, Nat.add_assoc, Nat.add_assoc, Nat.add_assoc, bt_appR, bt_appR, bt_appR, bt_appR]
  congr 1
  omega

theorem dec_appL (a b : ByteArray) (i : Nat) (h : i < a.size) (ho : Utf8.decode a i ≠ (65533, 1)) : Utf8.decode (a ++ b) i = Utf8.decode a i := by
  have e : Utf8.decode a i = decodeN (a.size - i) (bt (a ++ b) i) (bt (a ++ b) (i + 1)) (bt (a ++ b) (i + 2)) (bt (a ++ b) (i + 3)) := by
    rw [dec_bt, bt_appL a b i h]
    exact decN_congr _ _ _ _ _ _ _ _ (fun _ => (bt_appL a b _ (by omega)).symm) (fun _ => (bt_appL a b _ (by omega)).symm) (fun _ => (bt_appL a b _ (by omega)).symm)
  rw [e] at ho ⊢
  rw [dec_bt, app_size, decN_more (a.size - i) (a.size + b.size - i) _ _ _ _ (by omega) (by omega) ho]

/-- What stands in front of a text that does not begin with a byte that goes on. -/
theorem dec_appStop (a b : ByteArray) (i : Nat) (h : i < a.size) (hb : bt b 0 / 64 ≠ 2) : Utf8.decode (a ++ b) i = Utf8.decode a i := by
  have e : Utf8.decode a i = decodeN (a.size - i) (bt (a ++ b) i) (bt (a ++ b) (i + 1)) (bt (a ++ b) (i + 2)) (bt (a ++ b) (i + 3)) := by
    rw [dec_bt, bt_appL a b i h]
    exact decN_congr _ _ _ _ _ _ _ _ (fun _ => (bt_appL a b _ (by omega)).symm) (fun _ => (bt_appL a b _ (by omega)).symm) (fun _ => (bt_appL a b _ (by omega)).symm)
  have hr := bt_appR a b 0
  rw [Nat.add_zero] at hr
  rw [e, dec_bt, app_size]
  refine decN_stop (a.size - i) (a.size + b.size - i) _ _ _ _ (by omega) (by omega) (fun h1 => ?_) (fun h1 => ?_) (fun h1 => ?_)
  · rw [show i + 1 = a.size by omega, hr]; exact hb
  · rw [show i + 2 = a.size by omega, hr]; exact hb
  · rw [show i + 3 = a.size by omega, hr]; exact hb

/-- Two bytes or more at k: the first leads, the others go on. -/
theorem dec_lead (s : ByteArray) (k : Nat) (h : 2 ≤ (Utf8.decode s k).2) : 192 ≤ bt s k := by
  rw [dec_bt] at h
  exact (decN_wide _ _ _ _ _ (bt_lt s k) h).1
theorem dec_cont (s : ByteArray) (k j : Nat) (h1 : k < j) (h2 : j < k + (Utf8.decode s k).2) : bt s j / 64 = 2 := by
  have h4 := decN_le4 (s.size - k) (bt s k) (bt s (k + 1)) (bt s (k + 2)) (bt s (k + 3))
  rw [dec_bt] at h2
  have hw := decN_wide (s.size - k) (bt s k) (bt s (k + 1)) (bt s (k + 2)) (bt s (k + 3)) (bt_lt s k) (by omega)
  by_cases e1 : j = k + 1
  · subst e1; exact hw.2.1
  by_cases e2 : j = k + 2
  · subst e2; exact hw.2.2.1 (by omega)
  · rw [show j = k + 3 by omega]; exact hw.2.2.2 (by omega)
end Go.Proofs.YtdnldfgolbcjiaaDoor
