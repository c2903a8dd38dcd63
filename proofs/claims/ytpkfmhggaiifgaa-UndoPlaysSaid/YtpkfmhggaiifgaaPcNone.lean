/-
  pieces: none, holds, within, Len: what each call returns.
-/
import Derived.Test.YtpkfmhggaiifgaaPcsW
namespace Go.Proofs.Ytpkfmhggaiifgaa
open Go.RowKit

theorem none_text {v : Value} {s : ByteArray} {n : Nat} (w : World) (h : TextW w v s n) :
    Calls Try.prog 38 #[v] w fun e w' => e = .returned (.bool false) ∧ w' = w := by
  obtain ⟨b, sl, xs, rfl, c0, _⟩ := h
  go_enter Try.func38, Try.ntmps38
  go_wp2
  go_ret
  exact ⟨rfl, rfl⟩
theorem none_none {v : Value} (w : World) (h : NoneW w v) :
    Calls Try.prog 38 #[v] w fun e w' => e = .returned (.bool true) ∧ w' = w := by
  rcases h with rfl | ⟨b, rfl, c0⟩
  · go_enter Try.func38, Try.ntmps38
    go_wp2
    go_ret
    exact ⟨rfl, rfl⟩
  · go_enter Try.func38, Try.ntmps38
    go_wp2
    go_ret
    exact ⟨rfl, rfl⟩

def inB (a b n : Int) : Bool := decide (0 ≤ a ∧ a ≤ b ∧ b ≤ n)
theorem holds_any {v : Value} {s : ByteArray} {n : Nat} (a c : Int) (w : World) (h : TextW w v s n) :
    Calls Try.prog 39 #[v, .int .i64 a, .int .i64 c] w fun e w' => e = .returned (.bool (inB a c s.size)) ∧ w' = w := by
  obtain ⟨b, sl, xs, rfl, c0, c1, _⟩ := h
  unfold inB
  generalize (s.size : Int) = z at *
  by_cases h0 : 0 ≤ a
  · by_cases h1 : a ≤ c
    · by_cases h2 : c ≤ z
      · rw [decide_eq_true (show 0 ≤ a ∧ a ≤ c ∧ c ≤ z from ⟨h0, h1, h2⟩)]
        go_enter Try.func39, Try.ntmps39
        go_wp2
        go_ret
        exact ⟨rfl, rfl⟩
      · rw [decide_eq_false (fun k : 0 ≤ a ∧ a ≤ c ∧ c ≤ z => h2 k.2.2)]
        go_enter Try.func39, Try.ntmps39
        go_wp2
        go_ret
        exact ⟨rfl, rfl⟩
    · rw [decide_eq_false (fun k : 0 ≤ a ∧ a ≤ c ∧ c ≤ z => h1 k.2.1)]
      go_enter Try.func39, Try.ntmps39
      go_wp2
      go_ret
      exact ⟨rfl, rfl⟩
  · rw [decide_eq_false (fun k : 0 ≤ a ∧ a ≤ c ∧ c ≤ z => h0 k.1)]
    go_enter Try.func39, Try.ntmps39
    go_wp2
    go_ret
    exact ⟨rfl, rfl⟩

/-- The nearest place of a string. -/
def nearI (z a : Int) : Int := if a < 0 then 0 else if z < a then z else a
theorem within_any (x : ByteArray) (a : Int) (w : World) :
    Calls Try.prog 42 #[.string x, .int .i64 a] w fun e w' => e = .returned (.int .i64 (nearI x.size a)) ∧ w' = w := by
  unfold nearI
  have hz : (0 : Int) ≤ (x.size : Int) := by omega
  by_cases h0 : a < 0
  · rw [if_pos h0]
    go_enter Try.func42, Try.ntmps42
    go_wp2
    go_ret
    refine ⟨?_, rfl⟩
    first | rfl | (congr 2; omega) | congr 2
  · rw [if_neg h0]
    by_cases h1 : (x.size : Int) < a
    · rw [if_pos h1]
      go_enter Try.func42, Try.ntmps42
      go_wp2
      go_ret
      refine ⟨?_, rfl⟩
      first | rfl | (congr 2; omega) | congr 2
    · rw [if_neg h1]
      go_enter Try.func42, Try.ntmps42
      go_wp2
      go_ret
      refine ⟨?_, rfl⟩
      first | rfl | (congr 2; omega) | congr 2

theorem len_text {v : Value} {s : ByteArray} {n : Nat} (w : World) (h : TextW w v s n) :
    Calls Try.prog 33 #[v] w fun e w' => e = .returned (.int .i64 (s.size : Int)) ∧ w' = w := by
  have H := none_text w h
  obtain ⟨b, sl, xs, rfl, c0, c1, _⟩ := h
  go_enter Try.func33, Try.ntmps33
  go_wp2_with fail
  refine H.mono ?_
  rintro e w' ⟨rfl, rfl⟩
  go_wp2
  go_ret
  exact ⟨rfl, rfl⟩
theorem len_none {v : Value} (w : World) (h : NoneW w v) :
    Calls Try.prog 33 #[v] w fun e w' => e = .returned (.int .i64 0) ∧ w' = w := by
  have H := none_none w h
  go_enter Try.func33, Try.ntmps33
  go_wp2_with fail
  refine H.mono ?_
  rintro e w' ⟨rfl, rfl⟩
  go_wp2
  go_ret
  exact ⟨rfl, rfl⟩
end Go.Proofs.Ytpkfmhggaiifgaa
