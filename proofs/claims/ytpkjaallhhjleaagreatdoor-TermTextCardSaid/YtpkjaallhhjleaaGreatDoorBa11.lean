/-
  Texts of this proof, one behind the other; each begins with its own remark.
-/
import Derived.Deep.DeepFit
import Derived.Test.YtpkjaallhhjleaaGreatDoorBa4
import Derived.Test.YtpkjaallhhjleaaGreatDoorBa10
/-
  widths.hidden, wide, Of: what each call returns: for every rune and every column; the two tables are as the program's text lays them.
-/
namespace Go.Proofs.YtpkjaallhhjleaaGreatDoor
open Go.RowKit Go.Shelf

set_option maxHeartbeats 1000000 in
theorem hidden_any (r : Int) (w : World) (hT : TabW w) :
    Calls Tryz.prog 45 #[.int .i32 r] w fun e w' => e = .returned (.bool (hidB r)) ∧ Below w.heap.size w w' := by
  have hF := fun (w0 : World) (hw0 : w0 = w.alloc (.cells #[.int .i32 r] 21)) => find_any 77 #[.pointer (some ⟨w.heap.size, 0, none⟩)] 7 (sideAt hidF r) w0 (by omega) (fun _ _ => by simp [go_sem])
    (fun w1 i hb hi => hidSide_any r i w.heap.size w1 hi ((hT.below ((Below.refl _ _).alloc (Nat.le_refl _) _)).below (by rw [← hw0]; exact hb)) (by
      rw [hb.cell (p := ⟨w.heap.size, 0, none⟩) (by rw [hw0, size_alloc]; exact Nat.lt_succ_self _), hw0]
      exact cell_box _ _ _)) (mono_pos hid_sorted r) (mono_neg hid_sorted r)
  rw [hid_found] at hF
  have HF := Lib.hid (hF _ rfl)
  clear hF
  have hB : hidB r = (amongB r hidF || !Lib.validRune r) := rfl
  have hE := put_none r
  have hP := fun w => putB_any r w
  obtain ⟨Z, hZ⟩ : ∃ Z, putB r = Z := ⟨_, rfl⟩
  rw [hZ] at hE hP
  have HP := Lib.hid hP
  clear hT hZ hP
  cases hA : amongB r hidF
  · rw [hA] at HF
    rw [hA, Bool.false_or, ← hE] at hB
    have HB := Lib.hid hB
    clear hA hE hB
    go_enter Tryz.func45, Tryz.ntmps45
    go_wp2_with fail
    refine HF.out.mono ?_
    rintro e w1 ⟨⟨i, rfl⟩, hb⟩
    have hc := cell_box w (.int .i32 r) 21
    rw [← hb.cell (p := ⟨w.heap.size, 0, none⟩) (by rw [size_alloc]; exact Nat.lt_succ_self _)] at hc
    have hb1 : Below w.heap.size w w1 := ((Below.refl _ _).alloc (Nat.le_refl _) _).trans (hb.mono (by rw [size_alloc]; omega))
    clear hb
    go_wp2_with fail
    refine (HP.out _).mono ?_
    rintro e w2 ⟨rfl, rfl⟩
    go_wp2_with fail
    go_ret
    exact ⟨by rw [HB.out]; rfl, hb1⟩
  · rw [hA] at HF
    rw [hA, Bool.true_or] at hB
    have HB := Lib.hid hB
    clear hA hE hB
    go_enter Tryz.func45, Tryz.ntmps45
    go_wp2_with fail
    refine HF.out.mono ?_
    rintro e w1 ⟨⟨i, rfl⟩, hb⟩
    have hb1 : Below w.heap.size w w1 := ((Below.refl _ _).alloc (Nat.le_refl _) _).trans (hb.mono (by rw [size_alloc]; omega))
    clear hb
    go_wp2_with fail
    go_ret
    exact ⟨by rw [HB.out]; rfl, hb1⟩

set_option maxHeartbeats 1000000 in
theorem wide_any (r : Int) (w : World) (hT : TabW w) :
    Calls Tryz.prog 46 #[.int .i32 r] w fun e w' => e = .returned (.bool (amongB r widF)) ∧ Below w.heap.size w w' := by
  have hF := fun (w0 : World) (hw0 : w0 = w.alloc (.cells #[.int .i32 r] 21)) => find_any 79 #[.pointer (some ⟨w.heap.size, 0, none⟩)] 14 (sideAt widF r) w0 (by omega) (fun _ _ => by simp [go_sem])
    (fun w1 i hb hi => widSide_any r i w.heap.size w1 hi ((hT.below ((Below.refl _ _).alloc (Nat.le_refl _) _)).below (by rw [← hw0]; exact hb)) (by
      rw [hb.cell (p := ⟨w.heap.size, 0, none⟩) (by rw [hw0, size_alloc]; exact Nat.lt_succ_self _), hw0]
      exact cell_box _ _ _)) (mono_pos wid_sorted r) (mono_neg wid_sorted r)
  rw [wid_found] at hF
  have HF := Lib.hid (hF _ rfl)
  clear hF hT
  generalize amongB r widF = V at *
  go_enter Tryz.func46, Tryz.ntmps46
  go_wp2_with fail
  refine HF.out.mono ?_
  rintro e w1 ⟨⟨i, rfl⟩, hb⟩
  have hb1 : Below w.heap.size w w1 := ((Below.refl _ _).alloc (Nat.le_refl _) _).trans (hb.mono (by rw [size_alloc]; omega))
  clear hb
  go_wp2_with fail
  go_ret
  exact ⟨rfl, hb1⟩

set_option maxHeartbeats 1000000 in
theorem of_any (r : Int) (w : World) (hT : TabW w) :
    Calls Tryz.prog 22 #[.int .i32 r] w fun e w' => e = .returned (.int .i64 (ofN r : Int)) ∧ Below w.heap.size w w' := by
  have H1 := Lib.hid (fun w hT => hidden_any r w hT)
  have H2 := Lib.hid (fun w hT => wide_any r w hT)
  unfold ofN
  cases hh : hidB r
  · rw [hh] at H1
    clear hh
    cases hv : amongB r widF
    all_goals
      rw [hv] at H2
      clear hv
      go_enter Tryz.func22, Tryz.ntmps22
      go_wp2_with fail
      refine (H1.out _ hT).mono ?_
      rintro e w1 ⟨rfl, hb1⟩
      go_wp2_with fail
      refine (H2.out _ (hT.below hb1)).mono ?_
      rintro e w2 ⟨rfl, hb2⟩
      go_wp2_with fail
      go_ret
      exact ⟨rfl, hb1.trans (hb2.mono hb1.size)⟩
  · rw [hh] at H1
    clear hh
    go_enter Tryz.func22, Tryz.ntmps22
    go_wp2_with fail
    refine (H1.out _ hT).mono ?_
    rintro e w1 ⟨rfl, hb1⟩
    go_wp2_with fail
    go_ret
    exact ⟨rfl, hb1⟩

end Go.Proofs.YtpkjaallhhjleaaGreatDoor

/-
  grids.front: what it returns: on how many cells the rune at a row's front stands.
-/
namespace Go.Proofs.YtpkjaallhhjleaaGreatDoor
open Go.RowKit

theorem blk_one : oneB blkC = true := by decide
theorem front_one {c : Cel} (t : List Cel) (h : oneB c = true) : frontN (c :: t) = 1 := by
  cases t with
  | nil => rw [frontN, if_pos h]
  | cons d t => rw [frontN, if_pos h]
/-- A box of a cell, and what becomes of it. -/
theorem box6 {w W : World} {c : Cel} (h : Below (w.heap.size + 1) (w.alloc (.cells #[.int .i32 c.1, .int .i64 c.2.1, .int .i64 c.2.2.1, .bool c.2.2.2.1, .bool c.2.2.2.2.1, .bool c.2.2.2.2.2] 82)) W) :
    cell6 W w.heap.size 0 c ∧ Below w.heap.size w W := by
  have e := heap_alloc_new w (.cells #[.int .i32 c.1, .int .i64 c.2.1, .int .i64 c.2.2.1, .bool c.2.2.2.1, .bool c.2.2.2.2.1, .bool c.2.2.2.2.2] 82)
  refine ⟨cell6.below ⟨?_, ?_, ?_, ?_, ?_, ?_⟩ h (Nat.lt_succ_self _), ((Below.refl _ w).alloc (Nat.le_refl _) _).trans (h.mono (by omega))⟩ <;> (rw [cell_of_row _ _ _ _ _ _ e]; rfl)

section
variable {ok : Nat → Prop} {g o n cap : Nat} {c : Cel} {t : List Cel}

set_option maxHeartbeats 2000000 in
theorem front_blank (w : World) (hS : CelsW ok w (.slice (some ⟨g, o, none⟩) n cap) (c :: t)) (hn : 0 < n) (hL : LaidW w) (hb : c = blkC) :
    Calls Tryz.prog 75 #[.slice (some ⟨g, o, none⟩) n cap] w fun e w' => e = .returned (.int .i64 (frontN (c :: t) : Int)) ∧ Below w.heap.size w w' := by
  have HF : Hid (frontN (c :: t) = 1) := front_one t (by rw [hb]; exact blk_one)
  have HC : Hid (c.2.1 = 1) := by rw [hb]; rfl
  have h6 := hS.get (i := 0) (c := c) rfl
  rw [Nat.zero_mul, Nat.add_zero] at h6
  obtain ⟨a0, a1, a2, a3, a4, a5⟩ := h6
  obtain ⟨b0, b1, b2, b3, b4, b5⟩ := hL.2.2
  simp only [blkC, Nat.zero_add] at b0 b1 b2 b3 b4 b5
  have hq : ∀ w, (binOp .eql 82 (.agg #[.int .i32 c.1, .int .i64 c.2.1, .int .i64 c.2.2.1, .bool c.2.2.2.1, .bool c.2.2.2.2.1, .bool c.2.2.2.2.2]) (.agg #[.int .i32 32, .int .i64 1, .int .i64 0, .bool false, .bool false, .bool false])).run Tryz.prog w = .ok (.bool true) w := fun w => by
    have := cel_eql c blkC w
    rw [decide_eq_true hb] at this
    exact this
  have hg := hL.2.1
  have n1 : (0 : Int) < (n : Int) := by omega
  clear hS hL hb
  go_enter Tryz.func75, Tryz.ntmps75
  go_wp2
  go_ret
  exact ⟨by rw [HF.out, HC.out]; rfl, (Below.refl _ w).alloc (Nat.le_refl _) _⟩

theorem front_open (w : World) (hS : CelsW ok w (.slice (some ⟨g, o, none⟩) n cap) (c :: t)) (hL : LaidW w) (hb : c ≠ blkC) :
    cell6 w g o c ∧ (w.cell? ⟨0, 0, none⟩ = some (.int .i32 32) ∧ w.cell? ⟨0, 1, none⟩ = some (.int .i64 1) ∧ w.cell? ⟨0, 2, none⟩ = some (.int .i64 0) ∧ w.cell? ⟨0, 3, none⟩ = some (.bool false) ∧ w.cell? ⟨0, 4, none⟩ = some (.bool false) ∧ w.cell? ⟨0, 5, none⟩ = some (.bool false)) ∧
    (∀ w, (binOp .eql 82 (.agg #[.int .i32 c.1, .int .i64 c.2.1, .int .i64 c.2.2.1, .bool c.2.2.2.1, .bool c.2.2.2.2.1, .bool c.2.2.2.2.2]) (.agg #[.int .i32 32, .int .i64 1, .int .i64 0, .bool false, .bool false, .bool false])).run Tryz.prog w = .ok (.bool false) w) ∧
    Hid (∀ W, Below (w.heap.size + 1) (w.alloc (.cells #[.int .i32 c.1, .int .i64 c.2.1, .int .i64 c.2.2.1, .bool c.2.2.2.1, .bool c.2.2.2.2.1, .bool c.2.2.2.2.2] 82)) W → Calls Tryz.prog 22 #[.int .i32 c.1] W fun e w' => e = .returned (.int .i64 (ofN c.1 : Int)) ∧ Below (w.heap.size + 1) (w.alloc (.cells #[.int .i32 c.1, .int .i64 c.2.1, .int .i64 c.2.2.1, .bool c.2.2.2.1, .bool c.2.2.2.2.1, .bool c.2.2.2.2.2] 82)) w') ∧
    Hid (∀ W, Below (w.heap.size + 1) (w.alloc (.cells #[.int .i32 c.1, .int .i64 c.2.1, .int .i64 c.2.2.1, .bool c.2.2.2.1, .bool c.2.2.2.2.1, .bool c.2.2.2.2.2] 82)) W → cell6 W w.heap.size 0 c ∧ Below w.heap.size w W) ∧
    Hid (∀ W, Below (w.heap.size + 1) (w.alloc (.cells #[.int .i32 c.1, .int .i64 c.2.1, .int .i64 c.2.2.1, .bool c.2.2.2.1, .bool c.2.2.2.2.1, .bool c.2.2.2.2.2] 82)) W → Calls Tryz.prog 105 #[.agg #[.int .i64 c.2.2.1, .bool c.2.2.2.1, .bool c.2.2.2.2.1, .bool c.2.2.2.2.2]] W fun e w' => e = .returned (.bool (styB c.2.2)) ∧ Below (w.heap.size + 1) (w.alloc (.cells #[.int .i32 c.1, .int .i64 c.2.1, .int .i64 c.2.2.1, .bool c.2.2.2.1, .bool c.2.2.2.2.1, .bool c.2.2.2.2.2] 82)) w') := by
  have h6 := hS.get (i := 0) (c := c) rfl
  rw [Nat.zero_mul, Nat.add_zero] at h6
  refine ⟨h6, hL.2.2, fun w => ?_, fun W hW => ?_, fun W hW => box6 hW, fun W hW => ?_⟩
  · have := cel_eql c blkC w
    rw [decide_eq_false hb] at this
    exact this
  · have hT : TabW W := hL.1.below (box6 hW).2
    exact (of_any c.1 W hT).mono fun e w' ⟨h1, h2⟩ => ⟨h1, hW.trans (h2.mono (by have := hW.size; rw [World.size_alloc] at this; omega))⟩
  · exact (styled_any c.2.2 W).mono fun e w' ⟨h1, h2⟩ => ⟨h1, hW.trans (h2.mono (by have := hW.size; rw [World.size_alloc] at this; omega))⟩

set_option maxHeartbeats 2000000 in
theorem front_width (w : World) (hS : CelsW ok w (.slice (some ⟨g, o, none⟩) n cap) (c :: t)) (hn : 0 < n) (hL : LaidW w) (hb : c ≠ blkC) (hw : c.2.1 ≠ (ofN c.1 : Int)) :
    Calls Tryz.prog 75 #[.slice (some ⟨g, o, none⟩) n cap] w fun e w' => e = .returned (.int .i64 (frontN (c :: t) : Int)) ∧ Below w.heap.size w w' := by
  have HF : Hid (frontN (c :: t) = 0) := by
    show _ = _
    have h1 : oneB c = false := Bool.eq_false_iff.2 fun k => by obtain ⟨k1, k2, _⟩ := (oneB_iff c).1 k; omega
    cases t with
    | nil => rw [frontN, h1]; rfl
    | cons d t =>
      have h2 : twoB c d = false := Bool.eq_false_iff.2 fun k => by obtain ⟨k1, k2, _⟩ := (twoB_iff c d).1 k; omega
      rw [frontN, h1, h2]; rfl
  obtain ⟨⟨a0, a1, a2, a3, a4, a5⟩, ⟨b0, b1, b2, b3, b4, b5⟩, hq, HO, HX, HY⟩ := front_open w hS hL hb
  have hg := hL.2.1
  have n1 : (0 : Int) < (n : Int) := by omega
  have hne : (c.2.1 != (ofN c.1 : Int)) = true := by simpa using hw
  obtain ⟨N, hN⟩ : ∃ N, ofN c.1 = N := ⟨_, rfl⟩
  rw [hN] at hne HO
  clear hS hL hb hw hN HY
  go_enter Tryz.func75, Tryz.ntmps75
  go_wp2
  first
    | go_region_with ((go_at_call 22; go_must (go_fit (HO.out _ ?_)); exact ⟨rfl, rfl, rfl, Nat.le_refl _, fun _ _ => rfl⟩; rintro e w2 ⟨rfl, hb⟩; obtain ⟨⟨k0, k1, k2, k3, k4, k5⟩, kb⟩ := HX.out _ ⟨hb.os, hb.tape, hb.output, hb.size, hb.block⟩))
    | fail
  all_goals go_wp2
  all_goals go_ret
  all_goals exact ⟨by rw [HF.out]; rfl, kb⟩
end
end Go.Proofs.YtpkjaallhhjleaaGreatDoor

/-
  grids.front: what it returns where the width is that of its rune.
-/
namespace Go.Proofs.YtpkjaallhhjleaaGreatDoor
open Go.RowKit
section
variable {ok : Nat → Prop} {g o n cap : Nat} {c : Cel} {t : List Cel}

set_option maxHeartbeats 2000000 in
theorem front_style (w : World) (hS : CelsW ok w (.slice (some ⟨g, o, none⟩) n cap) (c :: t)) (hn : 0 < n) (hL : LaidW w) (hb : c ≠ blkC) (hw : c.2.1 = (ofN c.1 : Int)) (hy : styB c.2.2 = false) :
    Calls Tryz.prog 75 #[.slice (some ⟨g, o, none⟩) n cap] w fun e w' => e = .returned (.int .i64 (frontN (c :: t) : Int)) ∧ Below w.heap.size w w' := by
  have HF : Hid (frontN (c :: t) = 0) := by
    show _ = _
    have h1 : oneB c = false := Bool.eq_false_iff.2 fun k => by obtain ⟨k1, k2, k3⟩ := (oneB_iff c).1 k; rw [hy] at k3; cases k3
    cases t with
    | nil => rw [frontN, h1]; rfl
    | cons d t =>
      have h2 : twoB c d = false := Bool.eq_false_iff.2 fun k => by obtain ⟨k1, k2, k3, _⟩ := (twoB_iff c d).1 k; rw [hy] at k3; cases k3
      rw [frontN, h1, h2]; rfl
  obtain ⟨⟨a0, a1, a2, a3, a4, a5⟩, ⟨b0, b1, b2, b3, b4, b5⟩, hq, HO, HX, HY⟩ := front_open w hS hL hb
  have hg := hL.2.1
  have n1 : (0 : Int) < (n : Int) := by omega
  have hne : (c.2.1 != (ofN c.1 : Int)) = false := by simpa using hw
  rw [hy] at HY
  obtain ⟨N, hN⟩ : ∃ N, ofN c.1 = N := ⟨_, rfl⟩
  rw [hN] at hne HO
  clear hS hL hb hw hN hy
  go_enter Tryz.func75, Tryz.ntmps75
  go_wp2
  first
    | go_region_held3 (fun W => W.cell? ⟨w.heap.size, 0, none⟩ = some (.int .i32 c.1) ∧ W.cell? ⟨w.heap.size, 1, none⟩ = some (.int .i64 c.2.1) ∧ W.cell? ⟨w.heap.size, 2, none⟩ = some (.int .i64 c.2.2.1) ∧ W.cell? ⟨w.heap.size, 3, none⟩ = some (.bool c.2.2.2.1) ∧ W.cell? ⟨w.heap.size, 4, none⟩ = some (.bool c.2.2.2.2.1) ∧ W.cell? ⟨w.heap.size, 5, none⟩ = some (.bool c.2.2.2.2.2)) (first | exact (HX.out _ ⟨hb2.os, hb2.tape, hb2.output, hb2.size, hb2.block⟩).1 | exact (HX.out _ ⟨hb.os, hb.tape, hb.output, hb.size, hb.block⟩).1 | go_keep)
        (first
          | (go_at_call 22; go_must (go_fit (HO.out _ ?_)); exact ⟨rfl, rfl, rfl, Nat.le_refl _, fun _ _ => rfl⟩; rintro e w2 ⟨rfl, hb⟩)
          | (go_at_call 105; go_must (go_fit (HY.out _ ?_)); exact ⟨hb.os, hb.tape, hb.output, hb.size, hb.block⟩; rintro e w3 ⟨rfl, hb2⟩))
    | fail
  all_goals go_wp2
  all_goals go_ret
  all_goals exact ⟨by rw [HF.out]; rfl, (HX.out _ ⟨hb2.os, hb2.tape, hb2.output, hb2.size, hb2.block⟩).2⟩

set_option maxHeartbeats 2000000 in
theorem front_thin (w : World) (hS : CelsW ok w (.slice (some ⟨g, o, none⟩) n cap) (c :: t)) (hn : 0 < n) (hL : LaidW w) (hb : c ≠ blkC) (hw : c.2.1 = (ofN c.1 : Int)) (hy : styB c.2.2 = true) (h2 : c.2.1 ≠ 2) :
    Calls Tryz.prog 75 #[.slice (some ⟨g, o, none⟩) n cap] w fun e w' => e = .returned (.int .i64 (frontN (c :: t) : Int)) ∧ Below w.heap.size w w' := by
  have HF : Hid ((frontN (c :: t) : Int) = c.2.1) := by
    show _ = _
    have hlw := ofN_le c.1
    by_cases k : ofN c.1 = 1
    · rw [front_one t ((oneB_iff c).2 ⟨by omega, k, hy⟩)]; omega
    · have h1 : oneB c = false := Bool.eq_false_iff.2 fun k2 => by obtain ⟨k1, k2, _⟩ := (oneB_iff c).1 k2; omega
      cases t with
      | nil => rw [frontN, h1]; simp; omega
      | cons d t =>
        have h3 : twoB c d = false := Bool.eq_false_iff.2 fun k2 => by obtain ⟨k1, k2, _⟩ := (twoB_iff c d).1 k2; omega
        rw [frontN, h1, h3]; simp; omega
  obtain ⟨⟨a0, a1, a2, a3, a4, a5⟩, ⟨b0, b1, b2, b3, b4, b5⟩, hq, HO, HX, HY⟩ := front_open w hS hL hb
  have hg := hL.2.1
  have n1 : (0 : Int) < (n : Int) := by omega
  have hne : (c.2.1 != (ofN c.1 : Int)) = false := by simpa using hw
  have h2' : (c.2.1 == 2) = false := by simpa using h2
  rw [hy] at HY
  obtain ⟨N, hN⟩ : ∃ N, ofN c.1 = N := ⟨_, rfl⟩
  rw [hN] at hne HO
  clear hS hL hb hw hN hy h2
  go_enter Tryz.func75, Tryz.ntmps75
  go_wp2
  first
    | go_region_held3 (fun W => W.cell? ⟨w.heap.size, 0, none⟩ = some (.int .i32 c.1) ∧ W.cell? ⟨w.heap.size, 1, none⟩ = some (.int .i64 c.2.1) ∧ W.cell? ⟨w.heap.size, 2, none⟩ = some (.int .i64 c.2.2.1) ∧ W.cell? ⟨w.heap.size, 3, none⟩ = some (.bool c.2.2.2.1) ∧ W.cell? ⟨w.heap.size, 4, none⟩ = some (.bool c.2.2.2.2.1) ∧ W.cell? ⟨w.heap.size, 5, none⟩ = some (.bool c.2.2.2.2.2)) (first | exact (HX.out _ ⟨hb2.os, hb2.tape, hb2.output, hb2.size, hb2.block⟩).1 | exact (HX.out _ ⟨hb.os, hb.tape, hb.output, hb.size, hb.block⟩).1 | go_keep)
        (first
          | (go_at_call 22; go_must (go_fit (HO.out _ ?_)); exact ⟨rfl, rfl, rfl, Nat.le_refl _, fun _ _ => rfl⟩; rintro e w2 ⟨rfl, hb⟩)
          | (go_at_call 105; go_must (go_fit (HY.out _ ?_)); exact ⟨hb.os, hb.tape, hb.output, hb.size, hb.block⟩; rintro e w3 ⟨rfl, hb2⟩))
    | fail
  all_goals (obtain ⟨⟨k0, k1, k2, k3, k4, k5⟩, kb⟩ := HX.out _ ⟨hb2.os, hb2.tape, hb2.output, hb2.size, hb2.block⟩)
  all_goals go_wp2
  all_goals (first | go_quiet (fail) | fail)
  all_goals go_wp2
  all_goals go_ret
  all_goals exact ⟨by rw [HF.out]; rfl, kb.trans ⟨rfl, rfl, rfl, Nat.le_refl _, fun _ _ => rfl⟩⟩

set_option maxHeartbeats 2000000 in
theorem front_end (w : World) (hS : CelsW ok w (.slice (some ⟨g, o, none⟩) n cap) [c]) (hn : n = 1) (hL : LaidW w) (hb : c ≠ blkC) (hw : c.2.1 = (ofN c.1 : Int)) (hy : styB c.2.2 = true) (h2 : c.2.1 = 2) :
    Calls Tryz.prog 75 #[.slice (some ⟨g, o, none⟩) n cap] w fun e w' => e = .returned (.int .i64 (frontN [c] : Int)) ∧ Below w.heap.size w w' := by
  have HF : Hid (frontN [c] = 0) := by
    show _ = _
    have h1 : oneB c = false := Bool.eq_false_iff.2 fun k2 => by obtain ⟨k1, k2, _⟩ := (oneB_iff c).1 k2; omega
    rw [frontN, h1]; rfl
  obtain ⟨⟨a0, a1, a2, a3, a4, a5⟩, ⟨b0, b1, b2, b3, b4, b5⟩, hq, HO, HX, HY⟩ := front_open w hS hL hb
  have hg := hL.2.1
  have n1 : (0 : Int) < (n : Int) := by omega
  have hne : (c.2.1 != (ofN c.1 : Int)) = false := by simpa using hw
  have h2' : (c.2.1 == 2) = true := by simpa using h2
  have n2 : (n : Int) < 2 := by omega
  rw [hy] at HY
  obtain ⟨N, hN⟩ : ∃ N, ofN c.1 = N := ⟨_, rfl⟩
  rw [hN] at hne HO
  clear hS hL hb hw hN hy h2 hn
  go_enter Tryz.func75, Tryz.ntmps75
  go_wp2
  first
    | go_region_held3 (fun W => W.cell? ⟨w.heap.size, 0, none⟩ = some (.int .i32 c.1) ∧ W.cell? ⟨w.heap.size, 1, none⟩ = some (.int .i64 c.2.1) ∧ W.cell? ⟨w.heap.size, 2, none⟩ = some (.int .i64 c.2.2.1) ∧ W.cell? ⟨w.heap.size, 3, none⟩ = some (.bool c.2.2.2.1) ∧ W.cell? ⟨w.heap.size, 4, none⟩ = some (.bool c.2.2.2.2.1) ∧ W.cell? ⟨w.heap.size, 5, none⟩ = some (.bool c.2.2.2.2.2)) (first | exact (HX.out _ ⟨hb2.os, hb2.tape, hb2.output, hb2.size, hb2.block⟩).1 | exact (HX.out _ ⟨hb.os, hb.tape, hb.output, hb.size, hb.block⟩).1 | go_keep)
        (first
          | (go_at_call 22; go_must (go_fit (HO.out _ ?_)); exact ⟨rfl, rfl, rfl, Nat.le_refl _, fun _ _ => rfl⟩; rintro e w2 ⟨rfl, hb⟩)
          | (go_at_call 105; go_must (go_fit (HY.out _ ?_)); exact ⟨hb.os, hb.tape, hb.output, hb.size, hb.block⟩; rintro e w3 ⟨rfl, hb2⟩))
    | fail
  all_goals (obtain ⟨⟨k0, k1, k2, k3, k4, k5⟩, kb⟩ := HX.out _ ⟨hb2.os, hb2.tape, hb2.output, hb2.size, hb2.block⟩)
  all_goals go_wp2
  all_goals (first | go_quiet (fail) | fail)
  all_goals go_wp2
  all_goals go_ret
  all_goals exact ⟨by rw [HF.out]; rfl, kb.trans ⟨rfl, rfl, rfl, Nat.le_refl _, fun _ _ => rfl⟩⟩
end
end Go.Proofs.YtpkjaallhhjleaaGreatDoor

/-
  grids.front: what it returns where a rune of two columns stands at the front.
-/
namespace Go.Proofs.YtpkjaallhhjleaaGreatDoor
open Go.RowKit
section
variable {ok : Nat → Prop} {g o n cap : Nat} {c d : Cel} {t : List Cel}

set_option maxHeartbeats 2000000 in
theorem front_wide (w : World) (hS : CelsW ok w (.slice (some ⟨g, o, none⟩) n cap) (c :: d :: t)) (hn : 2 ≤ n) (hL : LaidW w) (hb : c ≠ blkC) (hw : c.2.1 = (ofN c.1 : Int)) (hy : styB c.2.2 = true) (h2 : c.2.1 = 2) :
    Calls Tryz.prog 75 #[.slice (some ⟨g, o, none⟩) n cap] w fun e w' => e = .returned (.int .i64 (frontN (c :: d :: t) : Int)) ∧ Below w.heap.size w w' := by
  have HF : Hid (frontN (c :: d :: t) = if twoB c d then 2 else 0) := by
    show _ = _
    have h1 : oneB c = false := Bool.eq_false_iff.2 fun k2 => by obtain ⟨k1, k2, _⟩ := (oneB_iff c).1 k2; omega
    rw [frontN, h1]; rfl
  obtain ⟨⟨a0, a1, a2, a3, a4, a5⟩, ⟨b0, b1, b2, b3, b4, b5⟩, hq, HO, HX, HY⟩ := front_open w hS hL hb
  have hg := hL.2.1
  have n1 : (0 : Int) < (n : Int) := by omega
  have hne : (c.2.1 != (ofN c.1 : Int)) = false := by simpa using hw
  have h2' : (c.2.1 == 2) = true := by simpa using h2
  have n2 : (2 : Int) ≤ (n : Int) := by omega
  have n3 : (1 : Int) < (n : Int) := by omega
  have nd : decide ((n : Int) < 2) = false := decide_eq_false (by omega)
  have HD : Hid (∀ W, Below w.heap.size w W → cell6 W g (o + 6) d) := fun W hW => by
    have hd := hS.get (i := 1) (c := d) rfl
    rw [Nat.one_mul] at hd
    exact hd.below hW hd.lt
  have HR : Hid (∀ W, Calls Tryz.prog 106 #[.agg #[.int .i32 c.1, .int .i64 c.2.1, .int .i64 c.2.2.1, .bool c.2.2.2.1, .bool c.2.2.2.2.1, .bool c.2.2.2.2.2], .agg #[.int .i32 d.1, .int .i64 d.2.1, .int .i64 d.2.2.1, .bool d.2.2.2.1, .bool d.2.2.2.2.1, .bool d.2.2.2.2.2]] W fun e w' => e = .returned (.bool (twoB c d)) ∧ Below W.heap.size W w') := fun W =>
    (rightOf_any c d W).mono fun e w' ⟨k1, k2⟩ => ⟨by rw [k1]; unfold twoB; rw [decide_eq_true h2, decide_eq_true (show ofN c.1 = 2 by omega), hy]; rfl, k2⟩
  obtain ⟨Q, hQ⟩ : ∃ Q, twoB c d = Q := ⟨_, rfl⟩
  rw [hQ] at HF HR
  have HF2 : Hid ((if Q then 2 else 0 : Nat) = if Q then 2 else 0) := rfl
  have HC2 : Hid (c.2.1 = 2) := h2
  rw [hy] at HY
  obtain ⟨N, hN⟩ : ∃ N, ofN c.1 = N := ⟨_, rfl⟩
  rw [hN] at hne HO
  clear hS hL hb hw hN hy h2 hn hQ
  go_enter Tryz.func75, Tryz.ntmps75
  go_wp2
  first
    | go_region_held3 (fun W => W.cell? ⟨w.heap.size, 0, none⟩ = some (.int .i32 c.1) ∧ W.cell? ⟨w.heap.size, 1, none⟩ = some (.int .i64 c.2.1) ∧ W.cell? ⟨w.heap.size, 2, none⟩ = some (.int .i64 c.2.2.1) ∧ W.cell? ⟨w.heap.size, 3, none⟩ = some (.bool c.2.2.2.1) ∧ W.cell? ⟨w.heap.size, 4, none⟩ = some (.bool c.2.2.2.2.1) ∧ W.cell? ⟨w.heap.size, 5, none⟩ = some (.bool c.2.2.2.2.2)) (first | exact (HX.out _ ⟨hb2.os, hb2.tape, hb2.output, hb2.size, hb2.block⟩).1 | exact (HX.out _ ⟨hb.os, hb.tape, hb.output, hb.size, hb.block⟩).1 | go_keep)
        (first
          | (go_at_call 22; go_must (go_fit (HO.out _ ?_)); exact ⟨rfl, rfl, rfl, Nat.le_refl _, fun _ _ => rfl⟩; rintro e w2 ⟨rfl, hb⟩)
          | (go_at_call 105; go_must (go_fit (HY.out _ ?_)); exact ⟨hb.os, hb.tape, hb.output, hb.size, hb.block⟩; rintro e w3 ⟨rfl, hb2⟩))
    | fail
  all_goals (obtain ⟨⟨k0, k1, k2, k3, k4, k5⟩, kb⟩ := HX.out _ ⟨hb2.os, hb2.tape, hb2.output, hb2.size, hb2.block⟩)
  all_goals go_wp2
  all_goals (obtain ⟨e0, e1, e2, e3, e4, e5⟩ := HD.out _ kb)
  have HK : Hid (∀ W, Below w3.heap.size w3 W → (fun W => W.cell? ⟨w.heap.size, 0, none⟩ = some (.int .i32 c.1) ∧ W.cell? ⟨w.heap.size, 1, none⟩ = some (.int .i64 c.2.1) ∧ W.cell? ⟨w.heap.size, 2, none⟩ = some (.int .i64 c.2.2.1) ∧ W.cell? ⟨w.heap.size, 3, none⟩ = some (.bool c.2.2.2.1) ∧ W.cell? ⟨w.heap.size, 4, none⟩ = some (.bool c.2.2.2.2.1) ∧ W.cell? ⟨w.heap.size, 5, none⟩ = some (.bool c.2.2.2.2.2) ∧ W.cell? ⟨g, o + 6, none⟩ = some (.int .i32 d.1) ∧ W.cell? ⟨g, o + 6 + 1, none⟩ = some (.int .i64 d.2.1) ∧ W.cell? ⟨g, o + 6 + 2, none⟩ = some (.int .i64 d.2.2.1) ∧ W.cell? ⟨g, o + 6 + 3, none⟩ = some (.bool d.2.2.2.1) ∧ W.cell? ⟨g, o + 6 + 4, none⟩ = some (.bool d.2.2.2.2.1) ∧ W.cell? ⟨g, o + 6 + 5, none⟩ = some (.bool d.2.2.2.2.2)) W) := fun W hW => by
    have x := (HX.out _ (Below.trans ⟨hb2.os, hb2.tape, hb2.output, hb2.size, hb2.block⟩ (hW.mono (by have := hb2.size; rw [World.size_alloc] at this; exact this)))).1
    have y := HD.out _ (kb.trans (hW.mono kb.size))
    obtain ⟨x0, x1, x2, x3, x4, x5⟩ := x
    obtain ⟨y0, y1, y2, y3, y4, y5⟩ := y
    exact ⟨x0, x1, x2, x3, x4, x5, y0, y1, y2, y3, y4, y5⟩
  clear HO HY HX HD
  first
    | go_region_held3 (fun W => W.cell? ⟨w.heap.size, 0, none⟩ = some (.int .i32 c.1) ∧ W.cell? ⟨w.heap.size, 1, none⟩ = some (.int .i64 c.2.1) ∧ W.cell? ⟨w.heap.size, 2, none⟩ = some (.int .i64 c.2.2.1) ∧ W.cell? ⟨w.heap.size, 3, none⟩ = some (.bool c.2.2.2.1) ∧ W.cell? ⟨w.heap.size, 4, none⟩ = some (.bool c.2.2.2.2.1) ∧ W.cell? ⟨w.heap.size, 5, none⟩ = some (.bool c.2.2.2.2.2) ∧ W.cell? ⟨g, o + 6, none⟩ = some (.int .i32 d.1) ∧ W.cell? ⟨g, o + 6 + 1, none⟩ = some (.int .i64 d.2.1) ∧ W.cell? ⟨g, o + 6 + 2, none⟩ = some (.int .i64 d.2.2.1) ∧ W.cell? ⟨g, o + 6 + 3, none⟩ = some (.bool d.2.2.2.1) ∧ W.cell? ⟨g, o + 6 + 4, none⟩ = some (.bool d.2.2.2.2.1) ∧ W.cell? ⟨g, o + 6 + 5, none⟩ = some (.bool d.2.2.2.2.2)) (first | exact HK.out _ ⟨hb4.os, hb4.tape, hb4.output, hb4.size, hb4.block⟩ | go_keep)
        ((go_at_call 106; go_must (go_fit (HR.out _)); rintro e w4 ⟨rfl, hb4⟩))
    | fail
  have q4 : Below w3.heap.size w3 w4 := ⟨hb4.os, hb4.tape, hb4.output, hb4.size, hb4.block⟩
  have kb2 : Below w.heap.size w w4 := kb.trans (q4.mono kb.size)
  obtain ⟨x0, x1, x2, x3, x4, x5, _⟩ := HK.out w4 q4
  clear HK HR hb4 q4
  cases Q
  all_goals go_wp2
  all_goals go_ret
  · exact ⟨by rw [HF.out]; rfl, kb2⟩
  · exact ⟨by rw [HF.out, HC2.out]; rfl, kb2⟩
end
end Go.Proofs.YtpkjaallhhjleaaGreatDoor

/-
  grids.front and ofRunes: what each returns: for every row.
-/
namespace Go.Proofs.YtpkjaallhhjleaaGreatDoor
open Go.RowKit

theorem CelsW.any {ok : Nat → Prop} {w : World} {v : Value} {l : List Cel} (h : CelsW ok w v l) : CelsW AnyB w v l := by
  obtain ⟨ao, cap, hv, hn, _, hc⟩ := h
  exact ⟨ao, cap, hv, hn, fun _ _ => trivial, hc⟩
theorem CelsW.ptr {ok : Nat → Prop} {w : World} {ao : Option Addr} {n cap i : Nat} {l : List Cel} {c : Cel} (h : CelsW ok w (.slice ao n cap) l) (hc : l[i]? = some c) : ∃ g o, ao = some ⟨g, o, none⟩ ∧ ∀ i c, l[i]? = some c → cell6 w g (o + i * 6) c := by
  obtain ⟨g, o, cap', he, _, _, H⟩ := h.at_ hc
  injection he with e1 e2 e3
  exact ⟨g, o, e1, H⟩
theorem gfront_any {ok : Nat → Prop} {g o n cap : Nat} {c : Cel} {t : List Cel} (w : World) (hS : CelsW ok w (.slice (some ⟨g, o, none⟩) n cap) (c :: t)) (hn : n = (c :: t).length) (hL : LaidW w) :
    Calls Tryz.prog 75 #[.slice (some ⟨g, o, none⟩) n cap] w fun e w' => e = .returned (.int .i64 (frontN (c :: t) : Int)) ∧ Below w.heap.size w w' := by
  have h0 : 0 < n := by rw [hn]; simp
  by_cases hb : c = blkC
  · exact front_blank w hS h0 hL hb
  by_cases hw : c.2.1 = (ofN c.1 : Int)
  · cases hy : styB c.2.2 with
    | false => exact front_style w hS h0 hL hb hw hy
    | true =>
      by_cases h2 : c.2.1 = 2
      · cases t with
        | nil => exact front_end w hS hn hL hb hw hy h2
        | cons d t => exact front_wide w hS (by rw [hn]; simp) hL hb hw hy h2
      · exact front_thin w hS h0 hL hb hw hy h2
  · exact front_width w hS h0 hL hb hw

def lenV : Value → Nat
  | .slice _ k _ => k
  | _ => 0
theorem RowV.nil_any (w : World) (ao : Option Addr) (cap : Nat) : RowV AnyB w (.slice ao 0 cap) 0 [] := ⟨ao, cap, rfl, Nat.zero_le _, fun _ _ => trivial, fun j u h => by simp at h⟩

set_option maxHeartbeats 4000000 in
theorem ofRunes_any {ok : Nat → Prop} {ao : Option Addr} {n cap : Nat} (l : List Cel) (w : World) (hS : CelsW ok w (.slice ao n cap) l) (hn : n = l.length) (hl : n ≤ 1000000) (hL : LaidW w) :
    Calls Tryz.prog 43 #[.slice ao n cap] w fun e w' => e = .returned (.bool (rowB l)) ∧ Below w.heap.size w w' := by
  have H0 : Hid (l.length = n) := hn.symm
  have H1 : Hid (CelsW AnyB w (.slice ao n cap) l) := hS.any
  have hcap : n ≤ cap := by
    obtain ⟨_, _, he, hc, _⟩ := hS
    cases he; rw [hn]; exact hc
  obtain ⟨B, hB⟩ : ∃ B, rowB l = B := ⟨_, rfl⟩
  have H2 : Hid (rowB l = B) := hB
  rw [hB]
  clear hS hn hB
  go_enter Tryz.func43, Tryz.ntmps43
  go_wp2
  go_loopw [0, 3] (fun s0 _ wr => ∃ (m : List Cel) (ao : Option Addr) (k cap : Nat), s0 = .slice ao k cap ∧ Hid (m.length = k) ∧ Hid (CelsW AnyB w (.slice ao k cap) m) ∧ Hid (rowB m = B) ∧ k ≤ 1000000 ∧ k ≤ cap ∧ Below w.heap.size w wr) (fun s0 _ _ => lenV s0)
  case atStart => exact ⟨l, ao, n, cap, rfl, H0, H1, H2, hl, hcap, Below.refl _ _⟩
  case round =>
    obtain ⟨m, ao, k, cap, rfl, HM, HS, HR, hk, hkc, hbw⟩ := hrel
    clear H0 H1 H2
    by_cases h0 : 0 < k
    · obtain ⟨c, t, rfl⟩ : ∃ c t, m = c :: t := by
        cases m with
        | nil => have := HM.out; simp at this; omega
        | cons c t => exact ⟨c, t, rfl⟩
      obtain ⟨g, o, hao⟩ : ∃ g o, ao = some ⟨g, o, none⟩ := by
        obtain ⟨g, o, _, he, _⟩ := HS.out.at_ (i := 0) (c := c) rfl
        cases he; exact ⟨g, o, rfl⟩
      subst hao
      have HF := Lib.hid (gfront_any wr (HS.out.below hbw) HM.out.symm (hL.below hbw))
      have hz := front_zero c t
      have hs := front_some c t
      obtain ⟨F, hF⟩ : ∃ F, frontN (c :: t) = F := ⟨_, rfl⟩
      rw [hF] at HF hz hs
      have hs := hs F rfl
      rw [HM.out, HR.out] at hs
      rw [HR.out] at hz
      clear hF
      have i0 : (0 : Int) < (k : Int) := by omega
      by_cases hf : F = 0
      · subst hf
        have HB : Hid (B = false) := hz rfl
        clear hz hs
        go_wp2_with fail
        go_fit (HF.out)
        rintro e w2 ⟨rfl, hb2⟩
        go_wp2
        go_ret
        exact ⟨by rw [HB.out]; rfl, hbw.trans (hb2.mono hbw.size)⟩
      · obtain ⟨f1, f2, f3⟩ := hs hf
        have HD : Hid (((c :: t).drop F).length = k - F) := by show _ = _; rw [List.length_drop, HM.out]
        have HB : Hid (rowB ((c :: t).drop F) = B) := f3.symm
        have HC : Hid (∀ c2, k - F ≤ c2 → CelsW AnyB w (.slice (some ⟨g, o + F * 6, none⟩) (k - F) c2) ((c :: t).drop F)) := fun c2 h2 => by
          have h := HS.out
          unfold CelsW at h ⊢
          rw [HM.out] at h
          rw [show ((c :: t).drop F).length = k - F from HD.out]
          have := RowV.drop (i := F) (c2 := c2) 6 h h2
          rwa [celC_drop] at this
        have j1 : (F : Int) ≤ (k : Int) := by omega
        have j2 : ¬ (F : Int) = 0 := by omega
        have j3 : (F : Int) ≤ (cap : Int) := by omega
        have j4 : (0 : Int) ≤ (F : Int) := by omega
        clear hz hs f3
        by_cases hcF : cap = F
        · subst hcF
          have hkF : k = cap := by omega
          subst hkF
          have HN : Hid ((c :: t).drop k = []) := by show _ = _; exact List.drop_of_length_le (by rw [HM.out]; exact Nat.le_refl _)
          go_wp2_with fail
          go_fit (HF.out)
          rintro e w2 ⟨rfl, hb2⟩
          have hb3 := hbw.trans (hb2.mono hbw.size)
          clear hb2
          go_wp2
          go_roundw
          case rel => 
            refine ⟨[], some ⟨g, o, none⟩, 0, 0, by simp, rfl, RowV.nil_any _ _ _, ?_, Nat.zero_le _, Nat.zero_le _, hb3⟩
            show _ = _
            rw [← HB.out, HN.out]
          case measure => simp [lenV]; omega
        · have j5 : (F : Int) < (cap : Int) := by omega
          go_wp2_with fail
          go_fit (HF.out)
          rintro e w2 ⟨rfl, hb2⟩
          have hb3 := hbw.trans (hb2.mono hbw.size)
          clear hb2
          go_wp2
          go_roundw
          case rel => exact ⟨(c :: t).drop F, _, k - F, cap - F, rfl, HD, HC.out _ (by omega), HB, by omega, by omega, hb3⟩
          case measure => simp [lenV]; omega
    · have HB : Hid (B = true) := by
        show _ = _
        rw [← HR.out, List.eq_nil_of_length_eq_zero (show m.length = 0 by rw [HM.out]; omega)]
        rfl
      obtain rfl : k = 0 := by omega
      go_wp2
      go_ret
      exact ⟨by rw [HB.out]; rfl, hbw⟩
end Go.Proofs.YtpkjaallhhjleaaGreatDoor
