/-
  parser.textOf, control, shown, invalid; limnerref07.one: what each call returns: for every byte, every rune.
-/
import Derived.Test.YtbpnnnjbddjboaaDoorPsW
namespace Go.Proofs.YtbpnnnjbddjboaaDoor
open Go.RowKit

set_option maxHeartbeats 1000000 in
theorem textOf_any (b : Nat) (w : World) :
    Calls Tryd.prog 28 #[.int .u8 (b : Int)] w fun e w' => e = .returned (.string (oneB b)) ∧ Below w.heap.size w w' := by
  have cv := convP_new [(b : Int)] w
  rw [str_one] at cv
  simp only [List.map_cons, List.map_nil, List.length_cons, List.length_nil] at cv
  go_enter Tryd.func28, Tryd.ntmps28
  go_wp2
  go_ret
  exact ⟨rfl, (Below.refl _ _).alloc (Nat.le_refl _) _⟩

set_option maxHeartbeats 1000000 in
theorem control_any (b : Nat) (w : World) (hb : b < 256) :
    Calls Tryd.prog 29 #[.int .u8 (b : Int)] w fun e w' => ∃ v, e = .returned v ∧ ActsW (FromP w.heap.size) w' v [(2, b, [], 0)] ∧ (∃ a, v = .slice (some a) 1 1) ∧ Below w.heap.size w w' := by
  go_enter Tryd.func29, Tryd.ntmps29
  go_wp2
  go_ret
  exact ⟨_, rfl, acts_one (Nat.le_refl _) (NumsW.nil _ _), ⟨_, rfl⟩, (Below.refl _ _).alloc (Nat.le_refl _) _⟩

set_option maxHeartbeats 1000000 in
theorem shown_any (r : Nat) (w : World) :
    Calls Tryd.prog 30 #[.int .i32 (r : Int)] w fun e w' => ∃ v, e = .returned v ∧ ActsW (FromP w.heap.size) w' v [(1, r, [], 0)] ∧ (∃ a, v = .slice (some a) 1 1) ∧ Below w.heap.size w w' := by
  go_enter Tryd.func30, Tryd.ntmps30
  go_wp2
  go_ret
  exact ⟨_, rfl, acts_one (Nat.le_refl _) (NumsW.nil _ _), ⟨_, rfl⟩, (Below.refl _ _).alloc (Nat.le_refl _) _⟩

set_option maxHeartbeats 1000000 in
theorem invalid_any (w : World) :
    Calls Tryd.prog 32 #[] w fun e w' => ∃ v, e = .returned v ∧ ActsW (FromP w.heap.size) w' v [badA] ∧ (∃ a, v = .slice (some a) 1 1) ∧ Below w.heap.size w w' := by
  go_enter Tryd.func32, Tryd.ntmps32
  go_wp2
  go_ret
  exact ⟨_, rfl, acts_one (Nat.le_refl _) (NumsW.nil _ _), ⟨_, rfl⟩, (Below.refl _ _).alloc (Nat.le_refl _) _⟩

set_option maxHeartbeats 1000000 in
theorem rone_any (k r : Nat) (w : World) :
    Calls Tryd.prog 22 #[.int .i64 (k : Int), .int .i32 (r : Int)] w fun e w' => ∃ v, e = .returned v ∧ ActsW (FromP w.heap.size) w' v [(k, r, [], 0)] ∧ (∃ a, v = .slice (some a) 1 1) ∧ Below w.heap.size w w' := by
  go_enter Tryd.func22, Tryd.ntmps22
  go_wp2
  go_ret
  exact ⟨_, rfl, acts_one (Nat.le_refl _) (NumsW.nil _ _), ⟨_, rfl⟩, (Below.refl _ _).alloc (Nat.le_refl _) _⟩
end Go.Proofs.YtbpnnnjbddjboaaDoor
