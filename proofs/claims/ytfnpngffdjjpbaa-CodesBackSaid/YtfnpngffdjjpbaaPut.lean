/-
  limnerref01.Put: what it returns: for every number.
-/
import Derived.Test.YtfnpngffdjjpbaaFront
import Derived.Laws.BytesArg
import Derived.Stop.FmtQuoteTie
namespace Go.Proofs.Ytfnpngffdjjpbaa
open Go.RowKit

/-- A rune's bytes, none of what is no rune. -/
def putB (r : Int) : ByteArray := if Lib.validRune r then Utf8.encode r else ⟨#[]⟩

theorem conv_new (xs : List Int) (w : World) :
    (convert 39 9 (.slice (some ⟨w.heap.size, 0, none⟩) xs.length xs.length)).run Try.prog (w.alloc (.cells (xs.map (Value.int .u8)).toArray 5)) = .ok (.string (strOfNums xs)) (w.alloc (.cells (xs.map (Value.int .u8)).toArray 5)) :=
  run_convert_bytes_arg (P := Try.prog) _ 39 5 Try.underlying39 Try.underlying5 w.heap.size 0 xs.length xs.length xs rfl
    (fun i hi => by rw [cell_of_row _ _ _ (xs.map (Value.int .u8)).toArray 5 (0, 0) (heap_alloc_new w _)]; simp [List.getD, List.getElem?_map, List.getElem?_eq_getElem hi]) 9 Try.underlying9

theorem strOf_ext {a : ByteArray} {xs : List Int} (h : a.data.toList = xs.map fun n => UInt8.ofNat n.toNat) : strOfNums xs = a := by
  apply ByteArray.ext; apply Array.toList_inj.1; rw [strOfNums_data, h]

theorem put_1 (n : Nat) (h : n < 128) : strOfNums [(n : Int)] = putB n := by
  have hv : Lib.validRune (n : Int) = true := decide_eq_true (by omega)
  apply strOf_ext
  rw [putB, if_pos hv, Go.Extern.FmtText.enc1 n h]
  rfl
theorem put_2 (n : Nat) (h0 : 128 ≤ n) (h : n < 2048) : strOfNums [192 + (n : Int) / 64, 128 + (n : Int) % 64] = putB n := by
  have hv : Lib.validRune (n : Int) = true := decide_eq_true (by omega)
  apply strOf_ext
  rw [putB, if_pos hv, Go.Extern.FmtText.enc2 n (by omega) h, List.map_cons, List.map_cons, List.map_nil, show (192 + (n : Int) / 64).toNat = 192 + n / 64 by omega, show (128 + (n : Int) % 64).toNat = 128 + n % 64 by omega]
theorem put_3 (n : Nat) (h0 : 2048 ≤ n) (h : n < 65536) (hs : n < 55296 ∨ 57344 ≤ n) : strOfNums [224 + (n : Int) / 4096, 128 + (n : Int) / 64 % 64, 128 + (n : Int) % 64] = putB n := by
  have hv : Lib.validRune (n : Int) = true := decide_eq_true (by omega)
  apply strOf_ext
  rw [putB, if_pos hv, Go.Extern.FmtText.enc3 n (by omega) h hs, List.map_cons, List.map_cons, List.map_cons, List.map_nil, show (224 + (n : Int) / 4096).toNat = 224 + n / 4096 by omega, show (128 + (n : Int) / 64 % 64).toNat = 128 + n / 64 % 64 by omega, show (128 + (n : Int) % 64).toNat = 128 + n % 64 by omega]
theorem put_4 (n : Nat) (h0 : 65536 ≤ n) (h : n ≤ 1114111) : strOfNums [240 + (n : Int) / 262144, 128 + (n : Int) / 4096 % 64, 128 + (n : Int) / 64 % 64, 128 + (n : Int) % 64] = putB n := by
  have hv : Lib.validRune (n : Int) = true := decide_eq_true (by omega)
  apply strOf_ext
  rw [putB, if_pos hv, Go.Extern.FmtText.enc4 n (by omega) h, List.map_cons, List.map_cons, List.map_cons, List.map_cons, List.map_nil, show (240 + (n : Int) / 262144).toNat = 240 + n / 262144 by omega, show (128 + (n : Int) / 4096 % 64).toNat = 128 + n / 4096 % 64 by omega, show (128 + (n : Int) / 64 % 64).toNat = 128 + n / 64 % 64 by omega, show (128 + (n : Int) % 64).toNat = 128 + n % 64 by omega]
theorem put_no (r : Int) (h : ¬ (0 ≤ r ∧ r < 55296 ∨ 57343 < r ∧ r ≤ 1114111)) : putB r = ⟨#[]⟩ := by
  have hv : Lib.validRune r = false := decide_eq_false h
  simp [putB, hv]

theorem put1 (r : Int) (h0 : 0 ≤ r) (h : r < 128) : strOfNums [r] = putB r := by
  obtain ⟨n, rfl⟩ := Int.eq_ofNat_of_zero_le h0
  exact put_1 n (by omega)
theorem put2 (r : Int) (h0 : 128 ≤ r) (h : r < 2048) : strOfNums [192 + r / 64, 128 + r % 64] = putB r := by
  obtain ⟨n, rfl⟩ := Int.eq_ofNat_of_zero_le (a := r) (by omega)
  exact put_2 n (by omega) (by omega)
theorem put3 (r : Int) (h0 : 2048 ≤ r) (h : r < 65536) (hs : r < 55296 ∨ 57344 ≤ r) : strOfNums [224 + r / 4096, 128 + r / 64 % 64, 128 + r % 64] = putB r := by
  obtain ⟨n, rfl⟩ := Int.eq_ofNat_of_zero_le (a := r) (by omega)
  exact put_3 n (by omega) (by omega) (by omega)
theorem put4 (r : Int) (h0 : 65536 ≤ r) (h : r ≤ 1114111) : strOfNums [240 + r / 262144, 128 + r / 4096 % 64, 128 + r / 64 % 64, 128 + r % 64] = putB r := by
  obtain ⟨n, rfl⟩ := Int.eq_ofNat_of_zero_le (a := r) (by omega)
  exact put_4 n (by omega) (by omega)

set_option maxHeartbeats 1000000 in
theorem refPut_1 (r : Int) (w : World) (h0 : 0 ≤ r) (h1 : r < 128) :
    Calls Try.prog 21 #[.int .i32 r] w fun e w' => e = .returned (.string (putB r)) ∧ Below w.heap.size w w' := by
  have H := Lib.hid (put1 r h0 h1)
  have c1 := fun a => conv_new [a] w
  simp only [List.map_cons, List.map_nil, List.length_cons, List.length_nil] at c1
  go_enter Try.func21, Try.ntmps21
  go_wp2
  go_ret
  exact ⟨by rw [← H.out]; rfl, (Below.refl _ _).alloc (Nat.le_refl _) _⟩

set_option maxHeartbeats 1000000 in
theorem refPut_2 (r : Int) (w : World) (h0 : 128 ≤ r) (h1 : r < 2048) :
    Calls Try.prog 21 #[.int .i32 r] w fun e w' => e = .returned (.string (putB r)) ∧ Below w.heap.size w w' := by
  have H := Lib.hid (put2 r h0 h1)
  have cv := fun a b => conv_new [a, b] w
  simp only [List.map_cons, List.map_nil, List.length_cons, List.length_nil] at cv
  go_enter Try.func21, Try.ntmps21
  go_wp2
  go_ret
  exact ⟨by rw [← H.out]; rfl, (Below.refl _ _).alloc (Nat.le_refl _) _⟩

set_option maxHeartbeats 1000000 in
theorem refPut_3a (r : Int) (w : World) (h0 : 2048 ≤ r) (h1 : r < 55296) :
    Calls Try.prog 21 #[.int .i32 r] w fun e w' => e = .returned (.string (putB r)) ∧ Below w.heap.size w w' := by
  have H := Lib.hid (put3 r h0 (by omega) (.inl h1))
  have cv := fun a b c => conv_new [a, b, c] w
  simp only [List.map_cons, List.map_nil, List.length_cons, List.length_nil] at cv
  go_enter Try.func21, Try.ntmps21
  go_wp2
  go_ret
  exact ⟨by rw [← H.out]; rfl, (Below.refl _ _).alloc (Nat.le_refl _) _⟩

set_option maxHeartbeats 1000000 in
theorem refPut_3b (r : Int) (w : World) (h0 : 57343 < r) (h1 : r < 65536) :
    Calls Try.prog 21 #[.int .i32 r] w fun e w' => e = .returned (.string (putB r)) ∧ Below w.heap.size w w' := by
  have H := Lib.hid (put3 r (by omega) h1 (.inr (by omega)))
  have cv := fun a b c => conv_new [a, b, c] w
  simp only [List.map_cons, List.map_nil, List.length_cons, List.length_nil] at cv
  go_enter Try.func21, Try.ntmps21
  go_wp2
  go_ret
  exact ⟨by rw [← H.out]; rfl, (Below.refl _ _).alloc (Nat.le_refl _) _⟩

set_option maxHeartbeats 1000000 in
theorem refPut_4 (r : Int) (w : World) (h0 : 65536 ≤ r) (h1 : r ≤ 1114111) :
    Calls Try.prog 21 #[.int .i32 r] w fun e w' => e = .returned (.string (putB r)) ∧ Below w.heap.size w w' := by
  have H := Lib.hid (put4 r h0 h1)
  have cv := fun a b c d => conv_new [a, b, c, d] w
  simp only [List.map_cons, List.map_nil, List.length_cons, List.length_nil] at cv
  go_enter Try.func21, Try.ntmps21
  go_wp2
  go_ret
  exact ⟨by rw [← H.out]; rfl, (Below.refl _ _).alloc (Nat.le_refl _) _⟩

set_option maxHeartbeats 1000000 in
theorem refPut_no (r : Int) (w : World) (h : r < 0 ∨ 1114111 < r ∨ (55296 ≤ r ∧ r ≤ 57343)) :
    Calls Try.prog 21 #[.int .i32 r] w fun e w' => e = .returned (.string ⟨#[]⟩) ∧ Below w.heap.size w w' := by
  rcases h with h | h | ⟨h, h2⟩
  · go_enter Try.func21, Try.ntmps21
    go_wp2
    go_ret
    exact ⟨rfl, Below.refl _ _⟩
  · have h0 : 0 ≤ r := by omega
    go_enter Try.func21, Try.ntmps21
    go_wp2
    go_ret
    exact ⟨rfl, Below.refl _ _⟩
  · have h0 : 0 ≤ r := by omega
    have h3 : r ≤ 1114111 := by omega
    go_enter Try.func21, Try.ntmps21
    go_wp2
    go_ret
    exact ⟨rfl, Below.refl _ _⟩

theorem refPut_any (r : Int) (w : World) :
    Calls Try.prog 21 #[.int .i32 r] w fun e w' => e = .returned (.string (putB r)) ∧ Below w.heap.size w w' := by
  by_cases hv : 0 ≤ r ∧ r < 55296 ∨ 57343 < r ∧ r ≤ 1114111
  · by_cases h1 : r < 128
    · exact refPut_1 r w (by omega) h1
    by_cases h2 : r < 2048
    · exact refPut_2 r w (by omega) h2
    by_cases h3 : r < 55296
    · exact refPut_3a r w (by omega) h3
    by_cases h4 : r < 65536
    · exact refPut_3b r w (by omega) h4
    exact refPut_4 r w (by omega) (by omega)
  · rw [put_no r hv]
    exact refPut_no r w (by omega)

set_option maxHeartbeats 1000000 in
theorem putB_any (r : Int) (w : World) :
    Calls Try.prog 20 #[.int .i32 r] w fun e w' => e = .returned (.string (putB r)) ∧ w' = w := put_any r w
end Go.Proofs.Ytfnpngffdjjpbaa
