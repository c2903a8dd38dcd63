/-
  limnerref06.Valid: what it returns: for every frame.
-/
import Derived.Deep.DeepFit
import Derived.Test.YtpkjaallhhjleaaGreatDoorBa5
import Derived.Test.YtpkjaallhhjleaaGreatDoorBa10
import Derived.Test.YtpkjaallhhjleaaGreatDoorBa9
import Derived.Test.YtpkjaallhhjleaaGreatDoorBa11
import Derived.Test.YtpkjaallhhjleaaGreatDoorLRefOf
namespace Go.Proofs.YtpkjaallhhjleaaGreatDoor
open Go.RowKit

section
variable {ok : Nat → Prop} {ao : Option Addr} {N cap : Nat}
set_option maxRecDepth 100000 in
set_option maxHeartbeats 1000000 in
/-- What stands ahead of the cells refuses it. -/
theorem rvalid_size (f : Frm) (w : World) (h : sizedB f.rows f.cols = false) :
    Calls Tryz.prog 101 #[.agg #[.int .i64 f.rows, .int .i64 f.cols, .slice ao N cap, .int .i64 f.row, .int .i64 f.col]] w fun e w' => e = .returned (.bool false) ∧ Below w.heap.size w w' := by
  have H := Lib.hid (fun w => may_any f.rows f.cols w)
  rw [h] at H
  clear h
  go_enter Tryz.func101, Tryz.ntmps101
  go_wp2_with fail
  go_fit (H.out _)
  rintro e w2 ⟨rfl, rfl⟩
  go_wp2
  go_ret
  exact ⟨rfl, (Below.refl _ w).alloc (Nat.le_refl _) _⟩
set_option maxRecDepth 100000 in
set_option maxHeartbeats 1000000 in
theorem rvalid_len (f : Frm) (w : World) (P : Int) (h : sizedB f.rows f.cols = true) (hP : f.rows * f.cols = P) (r1 : 0 ≤ P) (r2 : P ≤ 20000) (h2 : (N : Int) ≠ P) :
    Calls Tryz.prog 101 #[.agg #[.int .i64 f.rows, .int .i64 f.cols, .slice ao N cap, .int .i64 f.row, .int .i64 f.col]] w fun e w' => e = .returned (.bool false) ∧ Below w.heap.size w w' := by
  have H := Lib.hid (fun w => may_any f.rows f.cols w)
  rw [h] at H
  have b2 : ((N : Int) != P) = true := by simpa using h2
  clear h h2
  go_enter Tryz.func101, Tryz.ntmps101
  go_wp2_with fail
  go_fit (H.out _)
  rintro e w2 ⟨rfl, rfl⟩
  go_wp2
  go_ret
  exact ⟨rfl, (Below.refl _ w).alloc (Nat.le_refl _) _⟩
set_option maxRecDepth 100000 in
set_option maxHeartbeats 1000000 in
theorem rvalid_cursor (f : Frm) (w : World) (P : Int) (h : sizedB f.rows f.cols = true) (hP : f.rows * f.cols = P) (r1 : 0 ≤ P) (r2 : P ≤ 20000) (h2 : (N : Int) = P) (h3 : withinB f.rows f.cols f.row f.col = false) :
    Calls Tryz.prog 101 #[.agg #[.int .i64 f.rows, .int .i64 f.cols, .slice ao N cap, .int .i64 f.row, .int .i64 f.col]] w fun e w' => e = .returned (.bool false) ∧ Below w.heap.size w w' := by
  have H := Lib.hid (fun w => may_any f.rows f.cols w)
  rw [h] at H
  have b2 : ((N : Int) != P) = false := by simpa using h2
  have hc : f.row < 0 ∨ (0 ≤ f.row ∧ f.rows ≤ f.row) ∨ (0 ≤ f.row ∧ f.row < f.rows ∧ f.col < 0) ∨ (0 ≤ f.row ∧ f.row < f.rows ∧ 0 ≤ f.col ∧ f.cols ≤ f.col) := by
    have hno : ¬ (0 ≤ f.row ∧ f.row < f.rows ∧ 0 ≤ f.col ∧ f.col < f.cols) := fun k => Bool.eq_false_iff.1 h3 ((withinB_iff _ _ _ _).2 k)
    omega
  clear h h2 h3
  rcases hc with k1 | ⟨k1, k2⟩ | ⟨k1, k2, k3⟩ | ⟨k1, k2, k3, k4⟩
  all_goals
    go_enter Tryz.func101, Tryz.ntmps101
    go_wp2_with fail
    go_fit (H.out _)
    rintro e w2 ⟨rfl, rfl⟩
    go_wp2
    go_ret
    exact ⟨rfl, (Below.refl _ w).alloc (Nat.le_refl _) _⟩
end
end Go.Proofs.YtpkjaallhhjleaaGreatDoor
