/-
  limnerlaw04.placed: the chapter's examples: it returns true.
-/
import Derived.Test.YtdkoonnimfildaaPlaces
import Derived.Test.YtdkoonnimfildaaPlRunes
namespace Go.Proofs.Ytdkoonnimfildaa
open Go.RowKit

theorem exL4 (w : World) : Calls Try.prog 8 #[.string ⟨#[97, 98, 10, 195, 169, 10]⟩, .int .i64 4] w fun e w' => e = .returned (.tuple #[.int .i64 1, .int .i64 1, .bool true]) ∧ Below w.heap.size w w' := by
  have h := line_in ⟨#[97, 98, 10, 195, 169, 10]⟩ 4 w (by decide) (by decide)
  rw [show lineN (ByteArray.mk #[97, 98, 10, 195, 169, 10]).data.toList 4 = 1 by decide +kernel, show startF (ByteArray.mk #[97, 98, 10, 195, 169, 10]).data.toList 4 = 3 by decide +kernel] at h
  exact h
theorem exL6 (w : World) : Calls Try.prog 8 #[.string ⟨#[97, 98, 10, 195, 169, 10]⟩, .int .i64 6] w fun e w' => e = .returned (.tuple #[.int .i64 2, .int .i64 0, .bool true]) ∧ Below w.heap.size w w' := by
  have h := line_in ⟨#[97, 98, 10, 195, 169, 10]⟩ 6 w (by decide) (by decide)
  rw [show lineN (ByteArray.mk #[97, 98, 10, 195, 169, 10]).data.toList 6 = 2 by decide +kernel, show startF (ByteArray.mk #[97, 98, 10, 195, 169, 10]).data.toList 6 = 6 by decide +kernel] at h
  exact h
theorem exL7 (w : World) : Calls Try.prog 8 #[.string ⟨#[97, 98, 10, 195, 169, 10]⟩, .int .i64 7] w fun e w' => e = .returned (.tuple #[.int .i64 0, .int .i64 0, .bool false]) ∧ Below w.heap.size w w' :=
  line_out ⟨#[97, 98, 10, 195, 169, 10]⟩ 7 w (.inr (by decide))
theorem exT4 (w : World) : Calls Try.prog 23 #[.string ⟨#[97, 98, 10, 195, 169, 10]⟩, .int .i64 4, .int .i64 1, .int .i64 1, .bool true] w fun e w' => e = .returned (.bool true) ∧ Below w.heap.size w w' := by
  have H := Lib.hid (exL4 w)
  go_enter Try.func23, Try.ntmps23
  go_wp2_with fail
  go_fit H.out
  rintro e w' ⟨rfl, hb⟩
  go_wp2
  go_ret
  exact ⟨rfl, hb⟩
theorem exT6 (w : World) : Calls Try.prog 23 #[.string ⟨#[97, 98, 10, 195, 169, 10]⟩, .int .i64 6, .int .i64 2, .int .i64 0, .bool true] w fun e w' => e = .returned (.bool true) ∧ Below w.heap.size w w' := by
  have H := Lib.hid (exL6 w)
  go_enter Try.func23, Try.ntmps23
  go_wp2_with fail
  go_fit H.out
  rintro e w' ⟨rfl, hb⟩
  go_wp2
  go_ret
  exact ⟨rfl, hb⟩
theorem exT7 (w : World) : Calls Try.prog 23 #[.string ⟨#[97, 98, 10, 195, 169, 10]⟩, .int .i64 7, .int .i64 0, .int .i64 0, .bool false] w fun e w' => e = .returned (.bool true) ∧ Below w.heap.size w w' := by
  have H := Lib.hid (exL7 w)
  go_enter Try.func23, Try.ntmps23
  go_wp2_with fail
  go_fit H.out
  rintro e w' ⟨rfl, hb⟩
  go_wp2
  go_ret
  exact ⟨rfl, hb⟩
theorem exF1 (w : World) : Calls Try.prog 10 #[.string ⟨#[97, 98, 10, 195, 169, 10]⟩, .int .i64 1] w fun e w' => e = .returned (.int .i64 3) ∧ Below w.heap.size w w' := by
  have h := first_any ⟨#[97, 98, 10, 195, 169, 10]⟩ 1 w (by decide)
  rw [show firstN (ByteArray.mk #[97, 98, 10, 195, 169, 10]).data.toList (1 : Int).toNat = 3 by decide +kernel] at h
  exact h
theorem exF9 (w : World) : Calls Try.prog 10 #[.string ⟨#[97, 98, 10, 195, 169, 10]⟩, .int .i64 9] w fun e w' => e = .returned (.int .i64 6) ∧ Below w.heap.size w w' := by
  have h := first_any ⟨#[97, 98, 10, 195, 169, 10]⟩ 9 w (by decide)
  rw [show firstN (ByteArray.mk #[97, 98, 10, 195, 169, 10]).data.toList (9 : Int).toNat = 6 by decide +kernel] at h
  exact h
theorem exA0 (w : World) : Calls Try.prog 12 #[.string ⟨#[97, 98, 10, 195, 169, 10]⟩, .int .i64 0, .int .i64 9] w fun e w' => e = .returned (.int .i64 2) ∧ Below w.heap.size w w' := by
  have h := at_any ⟨#[97, 98, 10, 195, 169, 10]⟩ 0 9 w (by decide)
  rw [show atI (ByteArray.mk #[97, 98, 10, 195, 169, 10]).data.toList 0 9 = 2 by decide +kernel] at h
  exact h
theorem exA1 (w : World) : Calls Try.prog 12 #[.string ⟨#[97, 98, 10, 195, 169, 10]⟩, .int .i64 1, .int .i64 1] w fun e w' => e = .returned (.int .i64 4) ∧ Below w.heap.size w w' := by
  have h := at_any ⟨#[97, 98, 10, 195, 169, 10]⟩ 1 1 w (by decide)
  rw [show atI (ByteArray.mk #[97, 98, 10, 195, 169, 10]).data.toList 1 1 = 4 by decide +kernel] at h
  exact h
theorem exS4 (w : World) : Calls Try.prog 14 #[.string ⟨#[97, 98, 10, 195, 169, 10]⟩, .int .i64 4] w fun e w' => e = .returned (.int .i64 3) ∧ Below w.heap.size w w' := by
  have h := start_any ⟨#[97, 98, 10, 195, 169, 10]⟩ 4 w (by decide)
  rw [show startF (ByteArray.mk #[97, 98, 10, 195, 169, 10]).data.toList (nearN (ByteArray.mk #[97, 98, 10, 195, 169, 10]).size 4) = 3 by decide +kernel] at h
  exact h.mono fun e w' ⟨he, hw⟩ => ⟨he, by rw [hw]; exact Below.refl _ _⟩
theorem exE4 (w : World) : Calls Try.prog 16 #[.string ⟨#[97, 98, 10, 195, 169, 10]⟩, .int .i64 4] w fun e w' => e = .returned (.int .i64 5) ∧ Below w.heap.size w w' := by
  have h := end_any ⟨#[97, 98, 10, 195, 169, 10]⟩ 4 w (by decide)
  rw [show endN (ByteArray.mk #[97, 98, 10, 195, 169, 10]).data.toList (nearN (ByteArray.mk #[97, 98, 10, 195, 169, 10]).size 4) = 5 by decide +kernel] at h
  exact h
theorem exR5 (w : World) : Calls Try.prog 18 #[.string ⟨#[97, 98, 10, 195, 169, 10]⟩, .int .i64 5] w fun e w' => e = .returned (.int .i64 4) ∧ Below w.heap.size w w' := by
  have h := runes_any ⟨#[97, 98, 10, 195, 169, 10]⟩ 5 w (by decide)
  rw [show runesN (ByteArray.mk #[97, 98, 10, 195, 169, 10]) (5 : Int).toNat = 4 by decide +kernel] at h
  exact h
theorem exP4 (w : World) : Calls Try.prog 20 #[.string ⟨#[97, 98, 10, 195, 169, 10]⟩, .int .i64 4] w fun e w' => e = .returned (.int .i64 5) ∧ Below w.heap.size w w' := by
  have h := place_any ⟨#[97, 98, 10, 195, 169, 10]⟩ 4 w (by decide)
  rw [show placeN (ByteArray.mk #[97, 98, 10, 195, 169, 10]) (4 : Int).toNat = 5 by decide +kernel] at h
  exact h
theorem exP9 (w : World) : Calls Try.prog 20 #[.string ⟨#[97, 98, 10, 195, 169, 10]⟩, .int .i64 9] w fun e w' => e = .returned (.int .i64 6) ∧ Below w.heap.size w w' := by
  have h := place_any ⟨#[97, 98, 10, 195, 169, 10]⟩ 9 w (by decide)
  rw [show placeN (ByteArray.mk #[97, 98, 10, 195, 169, 10]) (9 : Int).toNat = 6 by decide +kernel] at h
  exact h

set_option maxRecDepth 100000 in
set_option maxHeartbeats 4000000 in
theorem placed_any (w : World) : Calls Try.prog 7 #[] w fun e w' => e = .returned (.bool true) ∧ Below w.heap.size w w' := by
  have H0 := Lib.hid exT4
  have H1 := Lib.hid exT6
  have H2 := Lib.hid exT7
  have H3 := Lib.hid exF1
  have H4 := Lib.hid exF9
  have H5 := Lib.hid exA0
  have H6 := Lib.hid exA1
  have H7 := Lib.hid exS4
  have H8 := Lib.hid exE4
  have H9 := Lib.hid exR5
  have H10 := Lib.hid exP4
  have H11 := Lib.hid exP9
  go_enter Try.func7, Try.ntmps7
  go_wp2_with fail
  go_fit (H0.out _)
  rintro e w0 ⟨rfl, b0⟩
  have k := b0
  clear b0 H0
  go_wp2_with fail
  go_fit (H1.out _)
  rintro e w1 ⟨rfl, b1⟩
  have k := k.trans (b1.mono k.size)
  clear b1 H1
  go_wp2_with fail
  go_fit (H2.out _)
  rintro e w2 ⟨rfl, b2⟩
  have k := k.trans (b2.mono k.size)
  clear b2 H2
  go_wp2_with fail
  go_fit (H3.out _)
  rintro e w3 ⟨rfl, b3⟩
  have k := k.trans (b3.mono k.size)
  clear b3 H3
  go_wp2_with fail
  go_fit (H4.out _)
  rintro e w4 ⟨rfl, b4⟩
  have k := k.trans (b4.mono k.size)
  clear b4 H4
  go_wp2_with fail
  go_fit (H5.out _)
  rintro e w5 ⟨rfl, b5⟩
  have k := k.trans (b5.mono k.size)
  clear b5 H5
  go_wp2_with fail
  go_fit (H6.out _)
  rintro e w6 ⟨rfl, b6⟩
  have k := k.trans (b6.mono k.size)
  clear b6 H6
  go_wp2_with fail
  go_fit (H7.out _)
  rintro e w7 ⟨rfl, b7⟩
  have k := k.trans (b7.mono k.size)
  clear b7 H7
  go_wp2_with fail
  go_fit (H8.out _)
  rintro e w8 ⟨rfl, b8⟩
  have k := k.trans (b8.mono k.size)
  clear b8 H8
  go_wp2_with fail
  go_fit (H9.out _)
  rintro e w9 ⟨rfl, b9⟩
  have k := k.trans (b9.mono k.size)
  clear b9 H9
  go_wp2_with fail
  go_fit (H10.out _)
  rintro e w10 ⟨rfl, b10⟩
  have k := k.trans (b10.mono k.size)
  clear b10 H10
  go_wp2_with fail
  go_fit (H11.out _)
  rintro e w11 ⟨rfl, b11⟩
  have k := k.trans (b11.mono k.size)
  clear b11 H11
  go_wp2
  go_ret
  exact ⟨rfl, k⟩
end Go.Proofs.Ytdkoonnimfildaa
