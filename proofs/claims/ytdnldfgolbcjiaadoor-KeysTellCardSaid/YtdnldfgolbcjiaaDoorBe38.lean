/-
  limnerref01.Next: what it returns, for every text and every place.
-/
import Derived.Test.YtdnldfgolbcjiaaDoorBe5
import Derived.Test.YtdnldfgolbcjiaaDoorBe36
import Derived.Test.YtdnldfgolbcjiaaDoorBe37
namespace Go.Proofs.YtdnldfgolbcjiaaDoor
open Go.RowKit

theorem accR_le (s : ByteArray) (k : Nat) (h : 2 ≤ bgN (bt s k)) : accR s k 0 ≤ 31 ∧ accR s k 1 ≤ 2047 ∧ accR s k 2 ≤ 131071 ∧ accR s k 3 ≤ 8388607 := by
  have h0 := bgR_le2 _ h
  unfold accR accR accR accR
  omega

theorem and63 : ∀ n : Fin 256, bits BinOp.and IntKind.u8 (n.val : Int) 63 = ((n.val % 64 : Nat) : Int) := by decide +kernel

theorem and63n (n : Nat) (h : n < 256) : bits BinOp.and IntKind.u8 (n : Int) 63 = ((n % 64 : Nat) : Int) := and63 ⟨n, h⟩

theorem ret_dec {s : ByteArray} {k R n : Nat} (h : Utf8.decode s k = (R, n)) (h2 : n = 1 → R < 128) : Ending.returned (.tuple #[.int .i32 (R : Int), .int .i64 (n : Int), .bool true]) = .returned (.tuple #[.int .i32 ((Utf8.decode s k).1 : Int), .int .i64 ((Utf8.decode s k).2 : Int), .bool (okAt s k)]) := by
  have : okAt s k = true := by
    unfold okAt
    rw [h, decide_eq_false (by intro e; have := h2 e.2; omega)]
    rfl
  rw [this, h]

theorem ret_bad {s : ByteArray} {k : Nat} (h : Utf8.decode s k = (65533, 1)) : Ending.returned (.tuple #[.int .i32 65533, .int .i64 1, .bool false]) = .returned (.tuple #[.int .i32 ((Utf8.decode s k).1 : Int), .int .i64 ((Utf8.decode s k).2 : Int), .bool (okAt s k)]) := by
  have : okAt s k = false := by
    unfold okAt
    rw [h]
    rfl
  rw [this, h]
  rfl

set_option maxHeartbeats 2000000 in
theorem refNext_in (s : ByteArray) (k : Nat) (w : World) (hk : k < s.size) (hs : s.size ≤ maxLen) :
    Calls Tryd.prog 38 #[.string s, .int .i64 (k : Int)] w fun e w' => e = .returned (.tuple #[.int .i32 ((Utf8.decode s k).1 : Int), .int .i64 ((Utf8.decode s k).2 : Int), .bool (okAt s k)]) ∧ Below w.heap.size w w' := by
  unfold maxLen at hs
  have hbt : (s[k].toNat : Int) = (bt s k : Int) := by unfold bt; rw [show s.get! k = s[k] from get_at s k hk]
  have hlt := bt_lt s k
  obtain ⟨ry, rn⟩ := read_both s k _ hk rfl
  obtain ⟨N, hN⟩ : ∃ N, bgN (bt s k) = N := ⟨_, rfl⟩
  have hN4 := bgN_le (bt s k)
  have hacc := accR_le s k
  rw [hN] at ry rn hN4 hacc
  have hB := fun w => begin_any (bt s k : Int) w (by omega) (by omega)
  rw [Int.toNat_natCast, hN] at hB
  have HB := Lib.hid hB
  have HBT := Lib.hid hbt
  have HACC := Lib.hid hacc
  have HY := Lib.hid ry
  have HN := Lib.hid rn
  have hR0 := bgR_le (bt s k)
  obtain ⟨R0, hR0e⟩ : ∃ R0, bgR (bt s k) = R0 := ⟨_, rfl⟩
  have HR0 := Lib.hid hR0e
  rw [hR0e] at HB hR0
  clear hB hbt hacc ry rn hN hR0e
  go_enter Tryd.func38, Tryd.ntmps38
  go_wp2_with fail
  rw [HBT.out]
  refine (HB.out _).mono ?_
  rintro e w1 ⟨rfl, rfl⟩
  go_wp2_with fail
  go_loop [8, 9] (fun r i => ∃ j : Nat, i = .int .i64 ((j : Int) + 1) ∧ r = .int .i32 (accR s k j : Int) ∧ (j = 0 ∨ (j + 1 ≤ N ∧ k + (j + 1) ≤ s.size)) ∧ j ≤ 3) (fun _ i => 4 - (intOf i).toNat)
  case atStart => exact ⟨0, rfl, by show _ = Value.int .i32 (bgR (bt s k) : Int); rw [HR0.out], .inl rfl, by omega⟩
  case round =>
    obtain ⟨j, rfl, rfl, hj, hj3⟩ := hrel
    by_cases hr : j + 1 < N ∧ k + (j + 1) < s.size
    · obtain ⟨hr1, hr2⟩ := hr
      have hle : accR s k j ≤ 131071 := by
        have := HACC.out (by omega)
        match j, hr1 with
        | 0, _ => omega
        | 1, _ => omega
        | 2, _ => omega
        | j + 3, h => omega
      obtain ⟨A, hA⟩ : ∃ A, accR s k j = A := ⟨_, rfl⟩
      rw [hA] at hle ⊢
      have HA := Lib.hid hA
      clear hA
      have hb1 : (s[k + (j + 1)].toNat : Int) = (bt s (k + (j + 1)) : Int) := by unfold bt; rw [show s.get! (k + (j + 1)) = s[k + (j + 1)] from get_at s (k + (j + 1)) hr2]
      have hl1 := bt_lt s (k + (j + 1))
      have HV : Hid (wrap32 ((A : Int) * 64 + wrap32 (bits BinOp.and IntKind.u8 (s[k + (j + 1)].toNat : Int) 63)) = (accR s k (j + 1) : Int)) := by
        show _ = _
        rw [hb1, and63n _ hl1, IntWalk.wrap32_in ((bt s (k + (j + 1)) % 64 : Nat) : Int) ⟨by omega, by omega⟩, IntWalk.wrap32_in _ ⟨by omega, by omega⟩]
        show _ = ((accR s k j * 64 + bt s (k + (j + 1)) % 64 : Nat) : Int)
        rw [HA.out]
        omega
      clear hb1 hl1
      go_wp2_with fail
      refine ⟨⟨j + 1, by rw [show ((j : Int) + 1 + 1) = (((j + 1 : Nat) : Int) + 1) by omega], by rw [HV.out], .inr ⟨by omega, by omega⟩, by omega⟩, by simp [intOf]; omega⟩
    · by_cases h0 : 0 < N ∧ k + N ≤ s.size
      · obtain ⟨h1, h2⟩ := h0
        have hjN : j = N - 1 := by omega
        have HP := Lib.hid (fun w => refPut_any (accR s k j : Int) w)
        by_cases he : putB (accR s k (N - 1) : Nat) = s.extract k (k + N)
        · have HD := Lib.hid (HY.out ⟨h1, h2, he⟩)
          rw [hjN, he] at HP
          clear HY HN HACC he
          go_wp2_with (go_at_call 50; refine (HP.out _).mono ?_; rintro e w' ⟨rfl, hb⟩)
          go_ret3
          exact ⟨(ret_dec HD.out.1 HD.out.2).symm ▸ rfl, hb⟩
        · have HD := Lib.hid (HN.out (fun h => he h.2.2))
          rw [← hjN] at he
          obtain ⟨Z, hZ⟩ : ∃ Z, putB (accR s k j : Nat) = Z := ⟨_, rfl⟩
          rw [hZ] at HP he
          have hq : (Z.toList == (s.extract k (k + N)).toList) = false := by
            rw [beq_eq_false_iff_ne]
            intro e
            rw [Lib.toList_data, Lib.toList_data] at e
            exact he (ByteArray.ext (Array.toList_inj.1 e))
          clear HY HN HACC hZ hjN he
          go_wp2_with (go_at_call 50; refine (HP.out _).mono ?_; rintro e w' ⟨rfl, hb⟩)
          go_ret3
          exact ⟨(ret_bad HD.out).symm ▸ rfl, hb⟩
      · have HD := Lib.hid (HN.out (fun h => h0 ⟨h.1, h.2.1⟩))
        have HP := Lib.hid (fun w => refPut_any (accR s k j : Int) w)
        clear HY HN HACC
        by_cases hN0 : N = 0
        · subst hN0
          go_wp2_with (go_at_call 50; refine (HP.out _).mono ?_; rintro e w' ⟨rfl, hb⟩)
          go_ret3
          exact ⟨(ret_bad HD.out).symm ▸ rfl, hb⟩
        · have hN1 : 0 < N := by omega
          have hN2 : s.size < k + N := by omega
          go_wp2_with (go_at_call 50; refine (HP.out _).mono ?_; rintro e w' ⟨rfl, hb⟩)
          go_ret3
          exact ⟨(ret_bad HD.out).symm ▸ rfl, hb⟩

set_option maxHeartbeats 1000000 in
theorem refNext_out (s : ByteArray) (at' : Int) (w : World) (h : at' < 0 ∨ (s.size : Int) ≤ at') :
    Calls Tryd.prog 38 #[.string s, .int .i64 at'] w fun e w' => e = .returned (.tuple #[.int .i32 0, .int .i64 0, .bool false]) ∧ w' = w := by
  by_cases h0 : at' < 0
  · go_enter Tryd.func38, Tryd.ntmps38
    go_wp2
    go_ret3
    exact ⟨rfl, rfl⟩
  · have h1 : (s.size : Int) ≤ at' := by omega
    go_enter Tryd.func38, Tryd.ntmps38
    go_wp2
    go_ret3
    exact ⟨rfl, rfl⟩

end Go.Proofs.YtdnldfgolbcjiaaDoor
