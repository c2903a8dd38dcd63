/-
  KeysNone: a decoder that is none makes no keys: the law's walk: it returns true.
-/
import Derived.Test.YtdnldfgolbcjiaaDoorKyPress
namespace Go.Proofs.YtdnldfgolbcjiaaDoor
open Go.RowKit

/-- A decoder that is nil, or that New did not make. -/
def NoneP (w : World) (P : Value) : Prop := P = .pointer none ∨ ∃ D, P = .pointer (some ⟨D, 0, none⟩) ∧ boxK w D .nilIface
set_option maxHeartbeats 1000000 in
theorem knone_no (P : Value) (w : World) (h : NoneP w P) : Calls Tryd.prog 22 #[P] w fun e w' => e = .returned (.bool true) ∧ w' = w := by
  rcases h with rfl | ⟨D, rfl, hB⟩
  · go_enter Tryd.func22, Tryd.ntmps22
    go_wp2
    go_ret
    exact ⟨rfl, rfl⟩
  · have c := hB.cells.1
    go_enter Tryd.func22, Tryd.ntmps22
    go_wp2
    go_ret
    exact ⟨rfl, rfl⟩
set_option maxHeartbeats 1000000 in
theorem kfeed_none (P : Value) (b : Int) (w : World) (h : NoneP w P) : Calls Tryd.prog 13 #[P, .int .u8 b] w fun e w' => e = .returned (.slice none 0 0) ∧ w' = w := by
  have H := Lib.hid (knone_no P w h)
  clear h
  go_enter Tryd.func13, Tryd.ntmps13
  go_wp2_with fail
  go_fit H.out
  rintro e w1 ⟨rfl, rfl⟩
  go_wp2_with fail
  go_ret
  exact ⟨rfl, rfl⟩
set_option maxHeartbeats 1000000 in
theorem kwait_none (P : Value) (w : World) (h : NoneP w P) : Calls Tryd.prog 15 #[P] w fun e w' => e = .returned (.bool false) ∧ w' = w := by
  have H := Lib.hid (knone_no P w h)
  clear h
  go_enter Tryd.func15, Tryd.ntmps15
  go_wp2_with fail
  go_fit H.out
  rintro e w1 ⟨rfl, rfl⟩
  go_wp2_with fail
  go_ret
  exact ⟨rfl, rfl⟩
set_option maxHeartbeats 1000000 in
theorem ktick_none (P : Value) (w : World) (h : NoneP w P) : Calls Tryd.prog 16 #[P] w fun e w' => e = .returned (.slice none 0 0) ∧ w' = w := by
  have H := Lib.hid (kwait_none P w h)
  clear h
  go_enter Tryd.func16, Tryd.ntmps16
  go_wp2_with fail
  go_fit H.out
  rintro e w1 ⟨rfl, rfl⟩
  go_wp2_with fail
  go_ret
  exact ⟨rfl, rfl⟩

set_option maxHeartbeats 4000000 in
theorem keysNone_any (b : Int) (w : World) (hL : TabK w.heap.size w) (_h0 : 0 ≤ b) (_h1 : b ≤ 255) :
    Calls Tryd.prog 5 #[.int .u8 b] w fun e w' => e = .returned (.bool true) ∧ Below w.heap.size w w' := by
  have HF := Lib.hid (fun W P (h : NoneP W P) => kfeed_none P b W h)
  have HT := Lib.hid (fun W P (h : NoneP W P) => ktick_none P W h)
  have HW := Lib.hid (fun W P (h : NoneP W P) => kwait_none P W h)
  have HNW := Lib.hid (fun W => knew_any W.heap.size W (Nat.le_refl _))
  have HKW := Lib.hid (fun N W D v p (h : DecW N W D v p) => kwaiting_any N W D v p h)
  have HP := Lib.hid (fun W (h : Below w.heap.size w W) => pressed_any W ((hL.below h).up h.size))
  have H0 : Hid (Below w.heap.size w w ∧ NoneP w (.pointer none)) := ⟨Below.refl _ _, .inl rfl⟩
  clear hL _h0 _h1
  go_enter Tryd.func5, Tryd.ntmps5
  go_wp2
  go_loopw [3, 4] (fun s3 s4 wr => ∃ k : Nat, s4 = .int .i64 (k : Int) ∧ k ≤ 2 ∧ Hid (Below w.heap.size w wr ∧ NoneP wr s3)) (fun _ s4 _ => 2 - (intOf s4).toNat)
  case atStart => exact ⟨0, rfl, by omega, H0⟩
  case round =>
    obtain ⟨k, rfl, hk, HI⟩ := hrel
    clear H0
    by_cases hlt : k < 2
    · have j1 : (k : Int) < 2 := by omega
      go_wp2_with fail
      go_fit (HF.out _ _ HI.out.2)
      rintro e w1 ⟨rfl, rfl⟩
      go_wp2_with fail
      go_fit (HT.out _ _ HI.out.2)
      rintro e w2 ⟨rfl, rfl⟩
      go_wp2_with fail
      go_fit (HW.out _ _ HI.out.2)
      rintro e w3 ⟨rfl, rfl⟩
      have H6 : Hid (Below w.heap.size w (w3.alloc (.cells #[.nilIface] 43)) ∧ NoneP (w3.alloc (.cells #[.nilIface] 43)) (.pointer (some ⟨w3.heap.size, 0, none⟩))) :=
        ⟨HI.out.1.trans ((alloc_below _ _).mono HI.out.1.size), .inr ⟨_, rfl, heap_alloc_new _ _⟩⟩
      go_wp2_with fail
      go_roundw
      case rel => exact ⟨k + 1, by go_num, by omega, H6⟩
      case measure => simp [intOf]; omega
    · have j1 : (2 : Int) ≤ (k : Int) := by omega
      go_wp2_with fail
      go_fit (HNW.out _)
      rintro e w1 ⟨D, v, rfl, _, hd, _, hb1⟩
      have hbw := HI.out.1.trans (hb1.mono HI.out.1.size)
      have HB := Lib.hid hbw
      have HK := Lib.hid (HKW.out _ _ _ _ _ hd)
      have hw0 : waitsK (.held noB) = false := rfl
      rw [hw0] at HK
      clear hd hb1 hbw hw0
      go_wp2_with fail
      go_fit HK.out
      rintro e w2 ⟨rfl, rfl⟩
      go_wp2_with fail
      go_fit (HP.out _ HB.out)
      rintro e w3 ⟨rfl, hb3⟩
      go_wp2_with fail
      go_ret
      exact ⟨rfl, HB.out.trans (hb3.mono HB.out.size)⟩
end Go.Proofs.YtdnldfgolbcjiaaDoor
