/-
  limnerref02.Tab: what it returns: for every column.
-/
import Derived.Test.YtafeieggohlaiaaDoorWid
namespace Go.Proofs.YtafeieggohlaiaaDoor
open Go.RowKit

set_option maxHeartbeats 2000000 in
theorem refTab_any (c : Int) (w : World) (h1 : c ≤ 9223372036854775807) :
    Calls Tryd.prog 13 #[.int .i64 c] w fun e w' => e = .returned (.int .i64 (tabN c)) ∧ w' = w := by
  unfold tabN
  by_cases h : c < 0
  · go_enter Tryd.func13, Tryd.ntmps13
    go_wp2
    go_loop [3] (fun n => n = .int .i64 1) (fun _ => 0)
    case atStart => exact rfl
    case round =>
      subst hrel
      go_wp2
      go_ret
      exact ⟨by simp, rfl⟩
  · have h0 : 0 ≤ c := by omega
    go_enter Tryd.func13, Tryd.ntmps13
    go_wp2
    go_loop [3] (fun n => ∃ k : Nat, n = .int .i64 (k : Int) ∧ 1 ≤ k ∧ (k : Int) ≤ 8 - c % 8) (fun n => 8 - (intOf n).toNat)
    case atStart => exact ⟨1, rfl, Nat.le_refl _, by omega⟩
    case round =>
      obtain ⟨k, rfl, hk1, hk⟩ := hrel
      obtain ⟨m, hm⟩ : ∃ m, c % 8 = m := ⟨_, rfl⟩
      have hm0 : 0 ≤ m := by omega
      have hm8 : m < 8 := by omega
      by_cases hlt : (k : Int) < 8 - m
      · have hb1 : ((c % 8 + (k : Int)) % 8 != 0) = true := by rw [bne_iff_ne]; omega
        have hb2 : ((c % 8 + (k : Int)) % 8 == 0) = false := by rw [beq_eq_false_iff_ne]; omega
        have HM := Lib.hid hm
        clear hm
        go_wp2
        go_round
        case rel => exact ⟨k + 1, by go_num, by omega, by have := HM.out; omega⟩
        case measure => simp [intOf]; have := HM.out; omega
      · have hb1 : ((c % 8 + (k : Int)) % 8 != 0) = false := by rw [bne_eq_false_iff_eq]; omega
        have hb2 : ((c % 8 + (k : Int)) % 8 == 0) = true := by rw [beq_iff_eq]; omega
        have HE : Hid ((k : Int) = 8 - c % 8) := by show _ = _; omega
        clear hm
        go_wp2
        go_ret
        exact ⟨by rw [← HE.out]; rfl, rfl⟩
end Go.Proofs.YtafeieggohlaiaaDoor
