/-
  Texts of this proof, one behind the other; each begins with its own remark.
-/
import Derived.Laws.BytesArg
import Derived.Stop.FmtQuoteTie
import Derived.Lib.DecodeN
import Derived.Lib.RuneCountTail
import Derived.Lib.TrimU
import Derived.Lib.QuoteLoop
import Derived.Test.YtdibpoecdjnpaaaDoorBa1
/-
  Plain facts: a rune's bytes by division. Nothing of the program.
-/
namespace Go.Proofs.YtdibpoecdjnpaaaDoor
open Go.RowKit

/-- A rune's bytes, none of what is no rune. -/
def putB (r : Int) : ByteArray := if Lib.validRune r then Utf8.encode r else ⟨#[]⟩

theorem strOf_ext {a : ByteArray} {xs : List Int} (h : a.data.toList = xs.map fun n => UInt8.ofNat n.toNat) : strOfNums xs = a := by
  apply ByteArray.ext; apply Array.toList_inj.1; rw [strOfNums_data, h]

theorem put_1 (n : Nat) (h : n < 128) : strOfNums [(n : Int)] = putB n := by
  have hv : Lib.validRune (n : Int) = true := decide_eq_true (by omega)
  apply strOf_ext
  rw [putB, if_pos hv, Go.Extern.FmtText.enc1 n h]
  rfl

theorem put_2 (n : Nat) (h0 : 128 ≤ n) (h : n < 2048) : strOfNums [192 + (n : Int) / 64, 128 + (n : Int) % 64] = putB n := by
  have hv : Lib.validRune (n : Int) = true := decide_eq_true (by omega)
  apply strOf_ext
  rw [putB, if_pos hv, Go.Extern.FmtText.enc2 n (by omega) h, List.map_cons, List.map_cons, List.map_nil, show (192 + (n : Int) / 64).toNat = 192 + n / 64 by omega, show (128 + (n : Int) % 64).toNat = 128 + n % 64 by omega]

theorem put_3 (n : Nat) (h0 : 2048 ≤ n) (h : n < 65536) (hs : n < 55296 ∨ 57344 ≤ n) : strOfNums [224 + (n : Int) / 4096, 128 + (n : Int) / 64 % 64, 128 + (n : Int) % 64] = putB n := by
  have hv : Lib.validRune (n : Int) = true := decide_eq_true (by omega)
  apply strOf_ext
  rw [putB, if_pos hv, Go.Extern.FmtText.enc3 n (by omega) h hs, List.map_cons, List.map_cons, List.map_cons, List.map_nil, show (224 + (n : Int) / 4096).toNat = 224 + n / 4096 by omega, show (128 + (n : Int) / 64 % 64).toNat = 128 + n / 64 % 64 by omega, show (128 + (n : Int) % 64).toNat = 128 + n % 64 by omega]

theorem put_4 (n : Nat) (h0 : 65536 ≤ n) (h : n ≤ 1114111) : strOfNums [240 + (n : Int) / 262144, 128 + (n : Int) / 4096 % 64, 128 + (n : Int) / 64 % 64, 128 + (n : Int) % 64] = putB n := by
  have hv : Lib.validRune (n : Int) = true := decide_eq_true (by omega)
  apply strOf_ext
  rw [putB, if_pos hv, Go.Extern.FmtText.enc4 n (by omega) h, List.map_cons, List.map_cons, List.map_cons, List.map_cons, List.map_nil, show (240 + (n : Int) / 262144).toNat = 240 + n / 262144 by omega, show (128 + (n : Int) / 4096 % 64).toNat = 128 + n / 4096 % 64 by omega, show (128 + (n : Int) / 64 % 64).toNat = 128 + n / 64 % 64 by omega, show (128 + (n : Int) % 64).toNat = 128 + n % 64 by omega]

theorem put_no (r : Int) (h : ¬ (0 ≤ r ∧ r < 55296 ∨ 57343 < r ∧ r ≤ 1114111)) : putB r = ⟨#[]⟩ := by
  have hv : Lib.validRune r = false := decide_eq_false h
  simp [putB, hv]

theorem put1 (r : Int) (h0 : 0 ≤ r) (h : r < 128) : strOfNums [r] = putB r := by
  obtain ⟨n, rfl⟩ := Int.eq_ofNat_of_zero_le h0
  exact put_1 n (by omega)

theorem put2 (r : Int) (h0 : 128 ≤ r) (h : r < 2048) : strOfNums [192 + r / 64, 128 + r % 64] = putB r := by
  obtain ⟨n, rfl⟩ := Int.eq_ofNat_of_zero_le (a := r) (by omega)
  exact put_2 n (by omega) (by omega)

theorem put3 (r : Int) (h0 : 2048 ≤ r) (h : r < 65536) (hs : r < 55296 ∨ 57344 ≤ r) : strOfNums [224 + r / 4096, 128 + r / 64 % 64, 128 + r % 64] = putB r := by
  obtain ⟨n, rfl⟩ := Int.eq_ofNat_of_zero_le (a := r) (by omega)
  exact put_3 n (by omega) (by omega) (by omega)

theorem put4 (r : Int) (h0 : 65536 ≤ r) (h : r ≤ 1114111) : strOfNums [240 + r / 262144, 128 + r / 4096 % 64, 128 + r / 64 % 64, 128 + r % 64] = putB r := by
  obtain ⟨n, rfl⟩ := Int.eq_ofNat_of_zero_le (a := r) (by omega)
  exact put_4 n (by omega) (by omega)

end Go.Proofs.YtdibpoecdjnpaaaDoor

/-
  Plain facts on texts as runes: which bytes stand at a place, what is cut off, what is joined. Nothing of the program.
-/
namespace Go.Proofs.YtdibpoecdjnpaaaDoor
open Go.Lib

/-- Byte i, a number; 0 beyond the end. -/
def bt (s : ByteArray) (i : Nat) : Nat := (s.get! i).toNat
theorem bt_lt (s : ByteArray) (i : Nat) : bt s i < 256 := UInt8.toNat_lt _
theorem dec_bt (s : ByteArray) (i : Nat) : Utf8.decode s i = decodeN (s.size - i) (bt s i) (bt s (i + 1)) (bt s (i + 2)) (bt s (i + 3)) := decode_at s i

/-- Two bytes or more: the first one leads, the others go on. -/
theorem decN_wide (n b0 b1 b2 b3 : Nat) (h0 : b0 < 256) (h : 2 ≤ (decodeN n b0 b1 b2 b3).2) :
    192 ≤ b0 ∧ b1 / 64 = 2 ∧ (3 ≤ (decodeN n b0 b1 b2 b3).2 → b2 / 64 = 2) ∧ (4 ≤ (decodeN n b0 b1 b2 b3).2 → b3 / 64 = 2) := by
  revert h
  unfold decodeN
  repeat' split
  all_goals simp
  all_goals omega

theorem decN_le4 (n b0 b1 b2 b3 : Nat) : (decodeN n b0 b1 b2 b3).2 ≤ 4 := by
  unfold decodeN
  repeat' split
  all_goals simp

/-- Bytes beyond the end make no difference. -/
theorem decN_congr (n b0 b1 b2 b3 c1 c2 c3 : Nat) (h1 : 1 < n → c1 = b1) (h2 : 2 < n → c2 = b2) (h3 : 3 < n → c3 = b3) : decodeN n b0 c1 c2 c3 = decodeN n b0 b1 b2 b3 := by
  by_cases e1 : 1 < n
  · obtain rfl := h1 e1
    by_cases e2 : 2 < n
    · obtain rfl := h2 e2
      by_cases e3 : 3 < n
      · obtain rfl := h3 e3; rfl
      · simp only [decodeN, e3, false_and, and_false, if_false]
    · simp only [decodeN, e2, show ¬ 3 < n by omega, false_and, and_false, if_false]
  · simp only [decodeN, e1, false_and, and_false, if_false]

/-- What is read with m bytes at hand is what is read with n, if it takes no more. -/
theorem decN_cut (n m b0 b1 b2 b3 : Nat) (hm : m ≤ n) (h : (decodeN n b0 b1 b2 b3).2 ≤ m) : decodeN m b0 b1 b2 b3 = decodeN n b0 b1 b2 b3 := by
  revert h
  unfold decodeN
  repeat' split
  all_goals simp
  all_goals first | omega | (intros; omega)

/-- With fewer bytes at hand than it has, no rune is read. -/
theorem decN_short (n m b0 b1 b2 b3 : Nat) (hn : 1 ≤ n) (h : n < (decodeN m b0 b1 b2 b3).2) : decodeN n b0 b1 b2 b3 = (65533, 1) := by
  revert h
  unfold decodeN
  repeat' split
  all_goals first | (intro h; dsimp only at h; exfalso; omega) | (intro _; rfl)

/-- A rune that is read with n bytes at hand is read with more. -/
theorem decN_more (n m b0 b1 b2 b3 : Nat) (hn : 1 ≤ n) (hm : n ≤ m) (h : decodeN n b0 b1 b2 b3 ≠ (65533, 1)) : decodeN m b0 b1 b2 b3 = decodeN n b0 b1 b2 b3 := by
  by_cases e : (decodeN m b0 b1 b2 b3).2 ≤ n
  · exact (decN_cut m n b0 b1 b2 b3 hm e).symm
  · exact absurd (decN_short n m b0 b1 b2 b3 hn (by omega)) h

/-- What is read with n bytes at hand is read with more, if the one behind them can't go on. -/
theorem decN_stop (n m b0 b1 b2 b3 : Nat) (hn : 1 ≤ n) (hm : n ≤ m) (h1 : n = 1 → b1 / 64 ≠ 2) (h2 : n = 2 → b2 / 64 ≠ 2) (h3 : n = 3 → b3 / 64 ≠ 2) : decodeN m b0 b1 b2 b3 = decodeN n b0 b1 b2 b3 := by
  unfold decodeN
  repeat' split
  all_goals first | (exfalso; omega) | rfl

theorem bt_data (s : ByteArray) (i : Nat) : bt s i = (s.data.toList.getD i 0).toNat := by unfold bt; rw [getD_get!']
theorem bt_head (s : ByteArray) (k i : Nat) (h : i < k) : bt (s.extract 0 k) i = bt s i := by
  rw [bt_data, bt_data, extract_data]
  simp [List.getD, List.getElem?_take_of_lt h]
theorem app_data (a b : ByteArray) : (a ++ b).data.toList = a.data.toList ++ b.data.toList := by simp
theorem app_size (a b : ByteArray) : (a ++ b).size = a.size + b.size := by rw [size_eq, app_data, List.length_append, ← size_eq, ← size_eq]
theorem bt_appL (a b : ByteArray) (i : Nat) (h : i < a.size) : bt (a ++ b) i = bt a i := by
  rw [bt_data, bt_data, app_data]
  rw [size_eq] at h
  simp only [List.getD, List.getElem?_append_left h]
theorem bt_appR (a b : ByteArray) (i : Nat) : bt (a ++ b) (a.size + i) = bt b i := by
  rw [bt_data, bt_data, app_data, size_eq]
  simp only [List.getD]
  rw [List.getElem?_append_right (by omega), Nat.add_sub_cancel_left]
theorem head_size (s : ByteArray) (k : Nat) (h : k ≤ s.size) : (s.extract 0 k).size = k := by
  rw [size_eq, extract_data, List.length_take, List.length_drop, ← size_eq]
  omega

/-- What stands at k within the first e bytes: the same, if it ends there. -/
theorem dec_head (s : ByteArray) (k e : Nat) (he : e ≤ s.size) (hk : k + (Utf8.decode s k).2 ≤ e) : Utf8.decode (s.extract 0 e) k = Utf8.decode s k := by
  have hw := Lib.width_pos s k
  rw [dec_bt s k] at hk hw
  rw [dec_bt, dec_bt, head_size s e he, bt_head s e k (by omega), ← decN_cut (s.size - k) (e - k) _ _ _ _ (by omega) (by omega)]
  apply decN_congr
  · intro h; exact bt_head s e _ (by omega)
  · intro h; exact bt_head s e _ (by omega)
  · intro h; exact bt_head s e _ (by omega)

theorem dec_appR (a b : ByteArray) (i : Nat) : Utf8.decode (a ++ b) (a.size + i) = Utf8.decode b i := by
  rw [dec_bt, dec_bt, app_size, Nat.add_assoc, Nat.add_assoc, Nat.add_assoc, bt_appR, bt_appR, bt_appR, bt_appR]
  congr 1
  omega

theorem dec_appL (a b : ByteArray) (i : Nat) (h : i < a.size) (ho : Utf8.decode a i ≠ (65533, 1)) : Utf8.decode (a ++ b) i = Utf8.decode a i := by
  have e : Utf8.decode a i = decodeN (a.size - i) (bt (a ++ b) i) (bt (a ++ b) (i + 1)) (bt (a ++ b) (i + 2)) (bt (a ++ b) (i + 3)) := by
    rw [dec_bt, bt_appL a b i h]
    exact decN_congr _ _ _ _ _ _ _ _ (fun _ => (bt_appL a b _ (by omega)).symm) (fun _ => (bt_appL a b _ (by omega)).symm) (fun _ => (bt_appL a b _ (by omega)).symm)
  rw [e] at ho ⊢
  rw [dec_bt, app_size, decN_more (a.size - i) (a.size + b.size - i) _ _ _ _ (by omega) (by omega) ho]

/-- What stands in front of a text that does not begin with a byte that goes on. -/
theorem dec_appStop (a b : ByteArray) (i : Nat) (h : i < a.size) (hb : bt b 0 / 64 ≠ 2) : Utf8.decode (a ++ b) i = Utf8.decode a i := by
  have e : Utf8.decode a i = decodeN (a.size - i) (bt (a ++ b) i) (bt (a ++ b) (i + 1)) (bt (a ++ b) (i + 2)) (bt (a ++ b) (i + 3)) := by
    rw [dec_bt, bt_appL a b i h]
    exact decN_congr _ _ _ _ _ _ _ _ (fun _ => (bt_appL a b _ (by omega)).symm) (fun _ => (bt_appL a b _ (by omega)).symm) (fun _ => (bt_appL a b _ (by omega)).symm)
  have hr := bt_appR a b 0
  rw [Nat.add_zero] at hr
  rw [e, dec_bt, app_size]
  refine decN_stop (a.size - i) (a.size + b.size - i) _ _ _ _ (by omega) (by omega) (fun h1 => ?_) (fun h1 => ?_) (fun h1 => ?_)
  · rw [show i + 1 = a.size by omega, hr]; exact hb
  · rw [show i + 2 = a.size by omega, hr]; exact hb
  · rw [show i + 3 = a.size by omega, hr]; exact hb

/-- Two bytes or more at k: the first leads, the others go on. -/
theorem dec_lead (s : ByteArray) (k : Nat) (h : 2 ≤ (Utf8.decode s k).2) : 192 ≤ bt s k := by
  rw [dec_bt] at h
  exact (decN_wide _ _ _ _ _ (bt_lt s k) h).1
theorem dec_cont (s : ByteArray) (k j : Nat) (h1 : k < j) (h2 : j < k + (Utf8.decode s k).2) : bt s j / 64 = 2 := by
  have h4 := decN_le4 (s.size - k) (bt s k) (bt s (k + 1)) (bt s (k + 2)) (bt s (k + 3))
  rw [dec_bt] at h2
  have hw := decN_wide (s.size - k) (bt s k) (bt s (k + 1)) (bt s (k + 2)) (bt s (k + 3)) (bt_lt s k) (by omega)
  by_cases e1 : j = k + 1
  · subst e1; exact hw.2.1
  by_cases e2 : j = k + 2
  · subst e2; exact hw.2.2.1 (by omega)
  · rw [show j = k + 3 by omega]; exact hw.2.2.2 (by omega)
end Go.Proofs.YtdibpoecdjnpaaaDoor

/-
  Plain facts: what the first byte of a rune tells. Nothing of the program.
-/
namespace Go.Proofs.YtdibpoecdjnpaaaDoor
open Go.RowKit

/-- How many bytes a rune has that begins with b; what that tells of it. -/
def bgN (b : Nat) : Nat := if b < 128 then 1 else if b < 192 then 0 else if b < 224 then 2 else if b < 240 then 3 else if b < 248 then 4 else 0

def bgR (b : Nat) : Nat := if b < 128 then b else if b < 192 then 0 else if b < 224 then b - 192 else if b < 240 then b - 224 else if b < 248 then b - 240 else 0

theorem bgN_le (b : Nat) : bgN b ≤ 4 := by
  unfold bgN
  repeat' split
  all_goals omega

theorem bgR_le (b : Nat) : bgR b ≤ 127 := by
  unfold bgR
  repeat' split
  all_goals omega

theorem bgR_le2 (b : Nat) (h : 2 ≤ bgN b) : bgR b ≤ 31 := by
  revert h
  unfold bgN bgR
  repeat' split
  all_goals omega

theorem bg_ret {N R : Nat} {n r : Int} (h1 : n = (N : Int)) (h2 : r = (R : Int)) : Ending.returned (.tuple #[.int .i64 n, .int .i32 r]) = .returned (.tuple #[.int .i64 (N : Int), .int .i32 (R : Int)]) := by rw [h1, h2]

end Go.Proofs.YtdibpoecdjnpaaaDoor
