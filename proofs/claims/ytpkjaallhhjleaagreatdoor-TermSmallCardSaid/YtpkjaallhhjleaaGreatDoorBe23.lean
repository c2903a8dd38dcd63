/-
  grids.front: what it returns: on how many cells the rune at a row's front stands.
-/
import Derived.Deep.DeepFit
import Derived.Test.YtpkjaallhhjleaaGreatDoorBe13
import Derived.Test.YtpkjaallhhjleaaGreatDoorBe22
namespace Go.Proofs.YtpkjaallhhjleaaGreatDoor
open Go.RowKit

theorem blk_one : oneB blkC = true := by decide
theorem front_one {c : Cel} (t : List Cel) (h : oneB c = true) : frontN (c :: t) = 1 := by
  cases t with
  | nil => rw [frontN, if_pos h]
  | cons d t => rw [frontN, if_pos h]
/-- A box of a cell, and what becomes of it. -/
theorem box6 {w W : World} {c : Cel} (h : Below (w.heap.size + 1) (w.alloc (.cells #[.int .i32 c.1, .int .i64 c.2.1, .int .i64 c.2.2.1, .bool c.2.2.2.1, .bool c.2.2.2.2.1, .bool c.2.2.2.2.2] 82)) W) :
    cell6 W w.heap.size 0 c ∧ Below w.heap.size w W := by
  have e := heap_alloc_new w (.cells #[.int .i32 c.1, .int .i64 c.2.1, .int .i64 c.2.2.1, .bool c.2.2.2.1, .bool c.2.2.2.2.1, .bool c.2.2.2.2.2] 82)
  refine ⟨cell6.below ⟨?_, ?_, ?_, ?_, ?_, ?_⟩ h (Nat.lt_succ_self _), ((Below.refl _ w).alloc (Nat.le_refl _) _).trans (h.mono (by omega))⟩ <;> (rw [cell_of_row _ _ _ _ _ _ e]; rfl)

section
variable {ok : Nat → Prop} {g o n cap : Nat} {c : Cel} {t : List Cel}

set_option maxHeartbeats 2000000 in
theorem front_blank (w : World) (hS : CelsW ok w (.slice (some ⟨g, o, none⟩) n cap) (c :: t)) (hn : 0 < n) (hL : LaidW w) (hb : c = blkC) :
    Calls Tryz.prog 75 #[.slice (some ⟨g, o, none⟩) n cap] w fun e w' => e = .returned (.int .i64 (frontN (c :: t) : Int)) ∧ Below w.heap.size w w' := by
  have HF : Hid (frontN (c :: t) = 1) := front_one t (by rw [hb]; exact blk_one)
  have HC : Hid (c.2.1 = 1) := by rw [hb]; rfl
  have h6 := hS.get (i := 0) (c := c) rfl
  rw [Nat.zero_mul, Nat.add_zero] at h6
  obtain ⟨a0, a1, a2, a3, a4, a5⟩ := h6
  obtain ⟨b0, b1, b2, b3, b4, b5⟩ := hL.2.2
  simp only [blkC, Nat.zero_add] at b0 b1 b2 b3 b4 b5
  have hq : ∀ w, (binOp .eql 82 (.agg #[.int .i32 c.1, .int .i64 c.2.1, .int .i64 c.2.2.1, .bool c.2.2.2.1, .bool c.2.2.2.2.1, .bool c.2.2.2.2.2]) (.agg #[.int .i32 32, .int .i64 1, .int .i64 0, .bool false, .bool false, .bool false])).run Tryz.prog w = .ok (.bool true) w := fun w => by
    have := cel_eql c blkC w
    rw [decide_eq_true hb] at this
    exact this
  have hg := hL.2.1
  have n1 : (0 : Int) < (n : Int) := by omega
  clear hS hL hb
  go_enter Tryz.func75, Tryz.ntmps75
  go_wp2
  go_ret
  exact ⟨by rw [HF.out, HC.out]; rfl, (Below.refl _ w).alloc (Nat.le_refl _) _⟩

theorem front_open (w : World) (hS : CelsW ok w (.slice (some ⟨g, o, none⟩) n cap) (c :: t)) (hL : LaidW w) (hb : c ≠ blkC) :
    cell6 w g o c ∧ (w.cell? ⟨0, 0, none⟩ = some (.int .i32 32) ∧ w.cell? ⟨0, 1, none⟩ = some (.int .i64 1) ∧ w.cell? ⟨0, 2, none⟩ = some (.int .i64 0) ∧ w.cell? ⟨0, 3, none⟩ = some (.bool false) ∧ w.cell? ⟨0, 4, none⟩ = some (.bool false) ∧ w.cell? ⟨0, 5, none⟩ = some (.bool false)) ∧
    (∀ w, (binOp .eql 82 (.agg #[.int .i32 c.1, .int .i64 c.2.1, .int .i64 c.2.2.1, .bool c.2.2.2.1, .bool c.2.2.2.2.1, .bool c.2.2.2.2.2]) (.agg #[.int .i32 32, .int .i64 1, .int .i64 0, .bool false, .bool false, .bool false])).run Tryz.prog w = .ok (.bool false) w) ∧
    Hid (∀ W, Below (w.heap.size + 1) (w.alloc (.cells #[.int .i32 c.1, .int .i64 c.2.1, .int .i64 c.2.2.1, .bool c.2.2.2.1, .bool c.2.2.2.2.1, .bool c.2.2.2.2.2] 82)) W → Calls Tryz.prog 22 #[.int .i32 c.1] W fun e w' => e = .returned (.int .i64 (ofN c.1 : Int)) ∧ Below (w.heap.size + 1) (w.alloc (.cells #[.int .i32 c.1, .int .i64 c.2.1, .int .i64 c.2.2.1, .bool c.2.2.2.1, .bool c.2.2.2.2.1, .bool c.2.2.2.2.2] 82)) w') ∧
    Hid (∀ W, Below (w.heap.size + 1) (w.alloc (.cells #[.int .i32 c.1, .int .i64 c.2.1, .int .i64 c.2.2.1, .bool c.2.2.2.1, .bool c.2.2.2.2.1, .bool c.2.2.2.2.2] 82)) W → cell6 W w.heap.size 0 c ∧ Below w.heap.size w W) ∧
    Hid (∀ W, Below (w.heap.size + 1) (w.alloc (.cells #[.int .i32 c.1, .int .i64 c.2.1, .int .i64 c.2.2.1, .bool c.2.2.2.1, .bool c.2.2.2.2.1, .bool c.2.2.2.2.2] 82)) W → Calls Tryz.prog 105 #[.agg #[.int .i64 c.2.2.1, .bool c.2.2.2.1, .bool c.2.2.2.2.1, .bool c.2.2.2.2.2]] W fun e w' => e = .returned (.bool (styB c.2.2)) ∧ Below (w.heap.size + 1) (w.alloc (.cells #[.int .i32 c.1, .int .i64 c.2.1, .int .i64 c.2.2.1, .bool c.2.2.2.1, .bool c.2.2.2.2.1, .bool c.2.2.2.2.2] 82)) w') := by
  have h6 := hS.get (i := 0) (c := c) rfl
  rw [Nat.zero_mul, Nat.add_zero] at h6
  refine ⟨h6, hL.2.2, fun w => ?_, fun W hW => ?_, fun W hW => box6 hW, fun W hW => ?_⟩
  · have := cel_eql c blkC w
    rw [decide_eq_false hb] at this
    exact this
  · have hT : TabW W := hL.1.below (box6 hW).2
    exact (of_any c.1 W hT).mono fun e w' ⟨h1, h2⟩ => ⟨h1, hW.trans (h2.mono (by have := hW.size; rw [World.size_alloc] at this; omega))⟩
  · exact (styled_any c.2.2 W).mono fun e w' ⟨h1, h2⟩ => ⟨h1, hW.trans (h2.mono (by have := hW.size; rw [World.size_alloc] at this; omega))⟩

set_option maxHeartbeats 2000000 in
theorem front_width (w : World) (hS : CelsW ok w (.slice (some ⟨g, o, none⟩) n cap) (c :: t)) (hn : 0 < n) (hL : LaidW w) (hb : c ≠ blkC) (hw : c.2.1 ≠ (ofN c.1 : Int)) :
    Calls Tryz.prog 75 #[.slice (some ⟨g, o, none⟩) n cap] w fun e w' => e = .returned (.int .i64 (frontN (c :: t) : Int)) ∧ Below w.heap.size w w' := by
  have HF : Hid (frontN (c :: t) = 0) := by
    show _ = _
    have h1 : oneB c = false := Bool.eq_false_iff.2 fun k => by obtain ⟨k1, k2, _⟩ := (oneB_iff c).1 k; omega
    cases t with
    | nil => rw [frontN, h1]; rfl
    | cons d t =>
      have h2 : twoB c d = false := Bool.eq_false_iff.2 fun k => by obtain ⟨k1, k2, _⟩ := (twoB_iff c d).1 k; omega
      rw [frontN, h1, h2]; rfl
  obtain ⟨⟨a0, a1, a2, a3, a4, a5⟩, ⟨b0, b1, b2, b3, b4, b5⟩, hq, HO, HX, HY⟩ := front_open w hS hL hb
  have hg := hL.2.1
  have n1 : (0 : Int) < (n : Int) := by omega
  have hne : (c.2.1 != (ofN c.1 : Int)) = true := by simpa using hw
  obtain ⟨N, hN⟩ : ∃ N, ofN c.1 = N := ⟨_, rfl⟩
  rw [hN] at hne HO
  clear hS hL hb hw hN HY
  go_enter Tryz.func75, Tryz.ntmps75
  go_wp2
  first
    | go_region_with ((go_at_call 22; go_must (go_fit (HO.out _ ?_)); exact ⟨rfl, rfl, rfl, Nat.le_refl _, fun _ _ => rfl⟩; rintro e w2 ⟨rfl, hb⟩; obtain ⟨⟨k0, k1, k2, k3, k4, k5⟩, kb⟩ := HX.out _ ⟨hb.os, hb.tape, hb.output, hb.size, hb.block⟩))
    | fail
  all_goals go_wp2
  all_goals go_ret
  all_goals exact ⟨by rw [HF.out]; rfl, kb⟩
end
end Go.Proofs.YtpkjaallhhjleaaGreatDoor
