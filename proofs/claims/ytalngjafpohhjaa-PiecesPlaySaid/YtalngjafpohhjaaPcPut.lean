/-
  limnerlaw03.put: the chapter's examples: it returns true.
-/
import Derived.Test.YtalngjafpohhjaaPcEdit
import Derived.Test.YtalngjafpohhjaaPcSlice
namespace Go.Proofs.Ytalngjafpohhjaa
open Go.RowKit

theorem ins_okI {v : Value} {s : ByteArray} {xs : List ByteArray} (a : Int) (x : ByteArray) (w : World) (h : TextX w v s xs) (h0 : 0 ≤ a) (hi : a ≤ (s.size : Int)) (hx : s.size + x.size ≤ 16384) :
    Calls Try.prog 16 #[v, .int .i64 a, .string x] w fun e w' => (∃ u, e = .returned (.tuple #[u, .int .i64 0]) ∧ TextX w' u (putS s a.toNat a.toNat x) (insL xs a.toNat x)) ∧ Below w.heap.size w w' := by
  obtain ⟨a', rfl⟩ : ∃ a' : Nat, a = (a' : Int) := ⟨a.toNat, by omega⟩
  exact ins_ok a' x w h (by omega) hx
theorem del_okI {v : Value} {s : ByteArray} {xs : List ByteArray} (a c : Int) (w : World) (h : TextX w v s xs) (h0 : 0 ≤ a) (hac : a ≤ c) (hi : c ≤ (s.size : Int)) (hs : s.size ≤ 16384) :
    Calls Try.prog 11 #[v, .int .i64 a, .int .i64 c] w fun e w' => (∃ u, e = .returned (.tuple #[u, .int .i64 0]) ∧ TextX w' u (putS s a.toNat c.toNat ⟨#[]⟩) (delL xs a.toNat c.toNat)) ∧ Below w.heap.size w w' := by
  obtain ⟨a', rfl⟩ : ∃ a' : Nat, a = (a' : Int) := ⟨a.toNat, by omega⟩
  obtain ⟨c', rfl⟩ : ∃ c' : Nat, c = (c' : Int) := ⟨c.toNat, by omega⟩
  exact del_ok a' c' w h (by omega) (by omega) hs

theorem ex1 : insL [] 0 ⟨#[97, 98, 99, 100]⟩ = [⟨#[97, 98, 99, 100]⟩] := by decide +kernel
theorem ex2 : putS ⟨#[97, 98, 99, 100]⟩ (2 : Int).toNat (2 : Int).toNat ⟨#[120, 121]⟩ = ⟨#[97, 98, 120, 121, 99, 100]⟩ := by decide +kernel
theorem ex3 : insL [⟨#[97, 98, 99, 100]⟩] (2 : Int).toNat ⟨#[120, 121]⟩ = [⟨#[97, 98]⟩, ⟨#[120, 121]⟩, ⟨#[99, 100]⟩] := by decide +kernel
theorem ex4 : putS ⟨#[97, 98, 120, 121, 99, 100]⟩ (1 : Int).toNat (5 : Int).toNat ⟨#[]⟩ = ⟨#[97, 100]⟩ := by decide +kernel
theorem ex5 : delL [⟨#[97, 98]⟩, ⟨#[120, 121]⟩, ⟨#[99, 100]⟩] (1 : Int).toNat (5 : Int).toNat = [⟨#[97]⟩, ⟨#[100]⟩] := by decide +kernel
theorem ex6 : sliceS ⟨#[97, 98, 99, 100]⟩ 1 3 = ⟨#[98, 99]⟩ := by decide +kernel
theorem ex7 : sliceS ⟨#[97, 98, 99, 100]⟩ 3 1 = ⟨#[]⟩ := by decide +kernel

set_option maxRecDepth 100000 in
set_option maxHeartbeats 4000000 in
theorem put_any (w : World) :
    Calls Try.prog 8 #[] w fun e w' => e = .returned (.bool true) ∧ Below w.heap.size w w' := by
  have H1 := Lib.hid (new_ok ⟨#[97, 98, 99, 100]⟩ w (by decide))
  have E1 := Lib.hid ex1
  have E2 := Lib.hid ex2
  have E3 := Lib.hid ex3
  have E4 := Lib.hid ex4
  have E5 := Lib.hid ex5
  have E6 := Lib.hid ex6
  have E7 := Lib.hid ex7
  go_enter Try.func8, Try.ntmps8
  go_wp2_with fail
  refine H1.out.mono ?_
  rintro e w1 ⟨⟨u1, rfl, hT1⟩, b1⟩
  rw [E1.out] at hT1
  have H2 := Lib.hid (ins_okI 2 ⟨#[120, 121]⟩ w1 hT1 (by decide) (by decide) (by decide))
  go_wp2_with fail
  refine H2.out.mono ?_
  rintro e w2 ⟨⟨u2, rfl, hT2⟩, b2⟩
  rw [E2.out, E3.out] at hT2
  have hT1 := hT1.below b2
  have k2 := b1.trans (b2.mono b1.size)
  have H3 := Lib.hid (del_okI 1 5 w2 hT2 (by decide) (by decide) (by decide) (by decide))
  clear H1 H2 b1 b2
  go_wp2_with fail
  refine H3.out.mono ?_
  rintro e w3 ⟨⟨u3, rfl, hT3⟩, b3⟩
  rw [E4.out, E5.out] at hT3
  have hT1 := hT1.below b3
  have hT2 := hT2.below b3
  have k3 := k2.trans (b3.mono k2.size)
  have H4 := Lib.hid (ins_arg 5 ⟨#[120]⟩ w3 hT1 (by decide))
  clear H3 b3 k2
  go_wp2_with fail
  refine H4.out.mono ?_
  rintro e w4 ⟨rfl, b4⟩
  have hT1 := hT1.below b4
  have hT2 := hT2.below b4
  have hT3 := hT3.below b4
  have k4 := k3.trans (b4.mono k3.size)
  have H5 := Lib.hid (string_text w4 hT2.text (by decide))
  clear H4 b4 k3
  go_wp2_with fail
  refine H5.out.mono ?_
  rintro e w5 ⟨rfl, b5⟩
  have hT1 := hT1.below b5
  have hT2 := hT2.below b5
  have hT3 := hT3.below b5
  have k5 := k4.trans (b5.mono k4.size)
  have H6 := Lib.hid (pieces_text w5 hT2.text)
  clear H5 b5 k4
  go_wp2_with fail
  refine H6.out.mono ?_
  rintro e w6 ⟨rfl, rfl⟩
  have H7 := Lib.hid (string_text w6 hT3.text (by decide))
  clear H6
  go_wp2_with fail
  refine H7.out.mono ?_
  rintro e w7 ⟨rfl, b7⟩
  have hT1 := hT1.below b7
  have hT3 := hT3.below b7
  have k7 := k5.trans (b7.mono k5.size)
  have H8 := Lib.hid (pieces_text w7 hT3.text)
  clear H7 b7 k5
  go_wp2_with fail
  refine H8.out.mono ?_
  rintro e w8 ⟨rfl, rfl⟩
  have H9 := Lib.hid (slice_text 1 3 w8 hT1.text (by decide))
  clear H8
  go_wp2_with fail
  rw [E6.out] at H9
  refine H9.out.mono ?_
  rintro e w9 ⟨rfl, b9⟩
  have hT1 := hT1.below b9
  have k9 := k7.trans (b9.mono k7.size)
  have HA := Lib.hid (slice_text 3 1 w9 hT1.text (by decide))
  clear H9 b9 k7
  go_wp2_with fail
  rw [E7.out] at HA
  refine HA.out.mono ?_
  rintro e wA ⟨rfl, bA⟩
  have hT1 := hT1.below bA
  have kA := k9.trans (bA.mono k9.size)
  have HB := Lib.hid (string_text wA hT1.text (by decide))
  clear HA bA k9
  go_wp2_with fail
  refine HB.out.mono ?_
  rintro e wB ⟨rfl, bB⟩
  have kB := kA.trans (bB.mono kA.size)
  clear HB bB kA
  go_wp2
  go_ret
  exact ⟨rfl, kB⟩
end Go.Proofs.Ytalngjafpohhjaa
