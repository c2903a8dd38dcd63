/-
  Plain facts: a rune's bytes by division. Nothing of the program.
-/
import Derived.Test.YtdnldfgolbcjiaaDoorDec
import Derived.Laws.BytesArg
import Derived.Stop.FmtQuoteTie
namespace Go.Proofs.YtdnldfgolbcjiaaDoor
open Go.RowKit

/-- A rune's bytes, none of what is no rune. -/
def putB (r : Int) : ByteArray := if Lib.validRune r then Utf8.encode r else ⟨#[]⟩

theorem strOf_ext {a : ByteArray} {xs : List Int} (h : a.data.toList = xs.map fun n => UInt8.ofNat n.toNat) : strOfNums xs = a := by
  apply ByteArray.ext; apply Array.toList_inj.1; rw [strOfNums_data, h]

theorem put_1 (n : Nat) (h : n < 128) : strOfNums [(n : Int)] = putB n := by
  have hv : Lib.validRune (n : Int) = true := decide_eq_true (by omega)
  apply strOf_ext
  rw [putB, if_pos hv, Go.Extern.FmtText.enc1 n h]
  rfl

theorem put_2 (n : Nat) (h0 : 128 ≤ n) (h : n < 2048) : strOfNums [192 + (n : Int) / 64, 128 + (n : Int) % 64] = putB n := by
  have hv : Lib.validRune (n : Int) = true := decide_eq_true (by omega)
  apply strOf_ext
  rw [putB, if_pos hv, Go.Extern.FmtText.enc2 n (by omega) h, List.map_cons, List.map_cons, List.map_nil, show (192 + (n : Int) / 64).toNat = 192 + n / 64 by omega, show (128 + (n : Int) % 64).toNat = 128 + n % 64 by omega]

theorem put_3 (n : Nat) (h0 : 2048 ≤ n) (h : n < 65536) (hs : n < 55296 ∨ 57344 ≤ n) : strOfNums [224 + (n : Int) / 4096, 128 + (n : Int) / 64 % 64, 128 + (n : Int) % 64] = putB n := by
  have hv : Lib.validRune (n : Int) = true := decide_eq_true (by omega)
  apply strOf_ext
  rw [putB, if_pos hv, Go.Extern.FmtText.enc3 n (by omega) h hs, List.map_cons, List.map_cons, List.map_cons, List.map_nil, show (224 + (n : Int) / 4096).toNat = 224 + n / 4096 by omega, show (128 + (n : Int) / 64 % 64).toNat = 128 + n / 64 % 64 by omega, show (128 + (n : Int) % 64).toNat = 128 + n % 64 by omega]

theorem put_4 (n : Nat) (h0 : 65536 ≤ n) (h : n ≤ 1114111) : strOfNums [240 + (n : Int) / 262144, 128 + (n : Int) / 4096 % 64, 128 + (n : Int) / 64 % 64, 128 + (n : Int) % 64] = putB n := by
  have hv : Lib.validRune (n : Int) = true := decide_eq_true (by omega)
  apply strOf_ext
  rw [putB, if_pos hv, Go.Extern.FmtText.enc4 n (by omega) h, List.map_cons, List.map_cons, List.map_cons, List.map_cons, List.map_nil, show (240 + (n : Int) / 262144).toNat = 240 + n / 262144 by omega, show (128 + (n : Int) / 4096 % 64).toNat = 128 + n / 4096 % 64 by omega, show (128 + (n : Int) / 64 % 64).toNat = 128 + n / 64 % 64 by omega, show (128 + (n : Int) % 64).toNat = 128 + n % 64 by omega]

theorem put_no (r : Int) (h : ¬ (0 ≤ r ∧ r < 55296 ∨ 57343 < r ∧ r ≤ 1114111)) : putB r = ⟨#[]⟩ := by
  have hv : Lib.validRune r = false := decide_eq_false h
  simp [putB, hv]

theorem put1 (r : Int) (h0 : 0 ≤ r) (h : r < 128) : strOfNums [r] = putB r := by
  obtain ⟨n, rfl⟩ := Int.eq_ofNat_of_zero_le h0
  exact put_1 n (by omega)

theorem put2 (r : Int) (h0 : 128 ≤ r) (h : r < 2048) : strOfNums [192 + r / 64, 128 + r % 64] = putB r := by
  obtain ⟨n, rfl⟩ := Int.eq_ofNat_of_zero_le (a := r) (by omega)
  exact put_2 n (by omega) (by omega)

theorem put3 (r : Int) (h0 : 2048 ≤ r) (h : r < 65536) (hs : r < 55296 ∨ 57344 ≤ r) : strOfNums [224 + r / 4096, 128 + r / 64 % 64, 128 + r % 64] = putB r := by
  obtain ⟨n, rfl⟩ := Int.eq_ofNat_of_zero_le (a := r) (by omega)
  exact put_3 n (by omega) (by omega) (by omega)

theorem put4 (r : Int) (h0 : 65536 ≤ r) (h : r ≤ 1114111) : strOfNums [240 + r / 262144, 128 + r / 4096 % 64, 128 + r / 64 % 64, 128 + r % 64] = putB r := by
  obtain ⟨n, rfl⟩ := Int.eq_ofNat_of_zero_le (a := r) (by omega)
  exact put_4 n (by omega) (by omega)

end Go.Proofs.YtdnldfgolbcjiaaDoor
