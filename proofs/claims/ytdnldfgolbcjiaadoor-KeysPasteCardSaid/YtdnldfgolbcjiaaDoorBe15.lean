/-
  widths.side and the two closures that ask it of a table's run: what each call returns: for every rune and every run.
-/
import Derived.Deep.RegionHeld3
import Derived.Deep.RegionWith
import Derived.Test.YtdnldfgolbcjiaaDoorBe7
namespace Go.Proofs.YtdnldfgolbcjiaaDoor
open Go.RowKit

/-- What the two tables hold, cell by cell. -/
def TabW (w : World) : Prop := (0 < w.heap.size ∧ 1 < w.heap.size) ∧ (∀ k, k < 14 → w.cell? ⟨0, k, none⟩ = some (.int .i32 (hidF.getD k 0))) ∧ (∀ k, k < 28 → w.cell? ⟨1, k, none⟩ = some (.int .i32 (widF.getD k 0)))
theorem TabW.below {w w' : World} (h : TabW w) (hb : Below w.heap.size w w') : TabW w' :=
  ⟨⟨Nat.lt_of_lt_of_le h.1.1 hb.size, Nat.lt_of_lt_of_le h.1.2 hb.size⟩, fun k hk => by rw [hb.cell (p := ⟨0, k, none⟩) h.1.1]; exact h.2.1 k hk,
    fun k hk => by rw [hb.cell (p := ⟨1, k, none⟩) h.1.2]; exact h.2.2 k hk⟩

set_option maxHeartbeats 1000000 in
theorem side_any (r a b : Int) (w : World) :
    Calls Tryd.prog 72 #[.int .i32 r, .agg #[.int .i32 a, .int .i32 b]] w fun e w' => e = .returned (.int .i64 (sideI r a b)) ∧ Below w.heap.size w w' := by
  unfold sideI
  by_cases h1 : r < a
  · go_enter Tryd.func72, Tryd.ntmps72
    go_wp2
    go_ret
    exact ⟨by simp, (Below.refl _ _).alloc (Nat.le_refl _) _⟩
  · by_cases h2 : b < r
    · go_enter Tryd.func72, Tryd.ntmps72
      go_wp2
      go_ret
      exact ⟨by simp, (Below.refl _ _).alloc (Nat.le_refl _) _⟩
    · go_enter Tryd.func72, Tryd.ntmps72
      go_wp2
      go_ret
      exact ⟨by simp, (Below.refl _ _).alloc (Nat.le_refl _) _⟩

theorem TabW.hid {w : World} (h : TabW w) (i : Nat) (hi : i < 7) : w.cell? ⟨0, 2 * i, none⟩ = some (.int .i32 (hidF.getD (2 * i) 0)) ∧ w.cell? ⟨0, 2 * i + 1, none⟩ = some (.int .i32 (hidF.getD (2 * i + 1) 0)) :=
  ⟨h.2.1 _ (by omega), h.2.1 _ (by omega)⟩
theorem TabW.wid {w : World} (h : TabW w) (i : Nat) (hi : i < 14) : w.cell? ⟨1, 2 * i, none⟩ = some (.int .i32 (widF.getD (2 * i) 0)) ∧ w.cell? ⟨1, 2 * i + 1, none⟩ = some (.int .i32 (widF.getD (2 * i + 1) 0)) :=
  ⟨h.2.2 _ (by omega), h.2.2 _ (by omega)⟩

set_option maxHeartbeats 1000000 in
theorem hidSide_any (r : Int) (i br : Nat) (w : World) (hi : i < 7) (hT : TabW w) (hr : w.cell? ⟨br, 0, none⟩ = some (.int .i32 r)) :
    Calls Tryd.prog 71 #[.int .i64 (i : Int), .pointer (some ⟨br, 0, none⟩)] w fun e w' => e = .returned (.int .i64 (sideAt hidF r i)) ∧ Below w.heap.size w w' := by
  obtain ⟨c0, c1⟩ := hT.hid i hi
  unfold sideAt
  generalize hidF.getD (2 * i) 0 = a at *
  generalize hidF.getD (2 * i + 1) 0 = b at *
  have H := Lib.hid (fun w => side_any r a b w)
  clear hT
  have hi0 : (0 : Int) ≤ (i : Int) := by omega
  rw [Nat.mul_comm 2 i] at c0 c1
  have hi1 : (i : Int) < 7 := by omega
  go_enter Tryd.func71, Tryd.ntmps71
  go_wp2
  go_region_with (go_at_call 72; refine (H.out _).mono ?_; rintro e w' ⟨rfl, hb⟩)
  all_goals go_wp2
  all_goals go_ret
  all_goals exact ⟨rfl, ((Below.refl _ w).drew).trans hb⟩

set_option maxHeartbeats 1000000 in
theorem widSide_any (r : Int) (i br : Nat) (w : World) (hi : i < 14) (hT : TabW w) (hr : w.cell? ⟨br, 0, none⟩ = some (.int .i32 r)) :
    Calls Tryd.prog 73 #[.int .i64 (i : Int), .pointer (some ⟨br, 0, none⟩)] w fun e w' => e = .returned (.int .i64 (sideAt widF r i)) ∧ Below w.heap.size w w' := by
  obtain ⟨c0, c1⟩ := hT.wid i hi
  unfold sideAt
  generalize widF.getD (2 * i) 0 = a at *
  generalize widF.getD (2 * i + 1) 0 = b at *
  have H := Lib.hid (fun w => side_any r a b w)
  clear hT
  have hi0 : (0 : Int) ≤ (i : Int) := by omega
  rw [Nat.mul_comm 2 i] at c0 c1
  have hi1 : (i : Int) < 14 := by omega
  go_enter Tryd.func73, Tryd.ntmps73
  go_wp2
  go_region_with (go_at_call 72; refine (H.out _).mono ?_; rintro e w' ⟨rfl, hb⟩)
  all_goals go_wp2
  all_goals go_ret
  all_goals exact ⟨rfl, ((Below.refl _ w).drew).trans hb⟩
end Go.Proofs.YtdnldfgolbcjiaaDoor
