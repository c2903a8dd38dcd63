/-
  limnerlaw12.alike: of two tables that are one it returns true.
-/
import Derived.Deep.DeepFit
import Derived.Test.YtjeomlickkpebaaGreatDoorBe43
namespace Go.Proofs.YtjeomlickkpebaaGreatDoor
open Go.RowKit

set_option maxHeartbeats 4000000 in
theorem dalike_any {w : World} {va vb : Value} {d : Dfa} (h : DfW w va d) (g : DfW w vb d) :
    Calls Tryz.prog 27 #[va, vb] w fun e w' => e = .returned (.bool true) ∧ w' = w := by
  have HSA := Lib.hid (pvstates_any h.1)
  have HSB := Lib.hid (pvstates_any g.1)
  have HTA := Lib.hid (fun (k : Int) (b : Nat) (hb : b < 256) => pvstep_any h.1 k b hb)
  have HTB := Lib.hid (fun (k : Int) (b : Nat) (hb : b < 256) => pvstep_any g.1 k b hb)
  have HAA := Lib.hid (fun (k : Int) => pvacc_any h.1 k)
  have HAB := Lib.hid (fun (k : Int) => pvacc_any g.1 k)
  have hfew := h.few
  obtain ⟨n, hn⟩ : ∃ n, d.n = n := ⟨_, rfl⟩
  rw [hn] at HSA HSB hfew
  have nb : (n : Int) ≤ 2000 := by omega
  have nn : ((n : Int) != (n : Int)) = false := by simp
  have nn2 : ((n : Int) == (n : Int)) = true := by simp
  clear h g hn
  go_enter Tryz.func27, Tryz.ntmps27
  go_wp2_with fail
  go_fit HSA.out
  rintro e w1 ⟨rfl, rfl⟩
  go_wp2_with fail
  go_fit HSB.out
  rintro e w1 ⟨rfl, rfl⟩
  go_wp2_with fail
  go_loop [5] (fun s5 => ∃ k : Nat, s5 = .int .i64 (k : Int) ∧ k ≤ n) (fun s5 => n - (intOf s5).toNat)
  case atStart => exact ⟨0, rfl, Nat.zero_le _⟩
  case round =>
    obtain ⟨k, rfl, hk⟩ := hrel
    have k0 : (0 : Int) ≤ (k : Int) := by omega
    have kb : (k : Int) ≤ 2000 := by omega
    by_cases hlt : k < n
    · have hli : (k : Int) < (n : Int) := by omega
      go_wp2_with fail
      go_fit HSA.out
      rintro e w1 ⟨rfl, rfl⟩
      go_wp2_with fail
      go_loop [6] (fun s6 => ∃ b : Nat, s6 = .int .i64 (b : Int) ∧ b ≤ 256) (fun s6 => 256 - (intOf s6).toNat)
      case atStart => exact ⟨0, rfl, Nat.zero_le _⟩
      case round =>
        obtain ⟨b, rfl, hb⟩ := hrel
        have b0 : (0 : Int) ≤ (b : Int) := by omega
        by_cases hlb : b < 256
        · have hbi : (b : Int) < 256 := by omega
          have hbw : IntKind.u8.wrap (b : Int) = (b : Int) := by apply IntWalk.u8_in <;> omega
          have H1 := HTA.out (k : Int) b hlb
          have H2 := HTB.out (k : Int) b hlb
          obtain ⟨z, hz⟩ : ∃ z, d.to (k : Int) b = z := ⟨_, rfl⟩
          rw [hz] at H1 H2
          have H1 := Lib.hid H1
          have H2 := Lib.hid H2
          have zz : (z != z) = false := by simp
          have zz2 : (z == z) = true := by simp
          clear hz
          go_wp2_with fail
          go_fit H1.out
          rintro e w1 ⟨rfl, rfl⟩
          go_wp2_with fail
          go_fit H2.out
          rintro e w1 ⟨rfl, rfl⟩
          go_wp2_with fail
          go_round
          case rel => exact ⟨b + 1, by go_num, by omega⟩
          case measure => simp [intOf] <;> omega
        · have hbi : ¬ (b : Int) < 256 := by omega
          have H1 := HAA.out (k : Int)
          have H2 := HAB.out (k : Int)
          obtain ⟨z, hz⟩ : ∃ z, d.acc (k : Int) = z := ⟨_, rfl⟩
          rw [hz] at H1 H2
          have H1 := Lib.hid H1
          have H2 := Lib.hid H2
          have zz : (z != z) = false := by simp
          have zz2 : (z == z) = true := by simp
          clear hz
          go_wp2_with fail
          go_fit H1.out
          rintro e w1 ⟨rfl, rfl⟩
          go_wp2_with fail
          go_fit H2.out
          rintro e w1 ⟨rfl, rfl⟩
          go_wp2_with fail
          go_round
          case rel => exact ⟨k + 1, by go_num, by omega⟩
          case measure => simp [intOf] <;> omega
    · have hli : ¬ (k : Int) < (n : Int) := by omega
      go_wp2_with fail
      go_fit HSA.out
      rintro e w1 ⟨rfl, rfl⟩
      go_wp2_with fail
      go_ret
      exact ⟨rfl, rfl⟩
end Go.Proofs.YtjeomlickkpebaaGreatDoor
