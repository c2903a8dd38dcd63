/-
  grids.front: what it returns where the width is that of its rune.
-/
import Derived.Deep.DeepFit
import Derived.Test.YtpkjaallhhjleaaGreatDoorBe23
namespace Go.Proofs.YtpkjaallhhjleaaGreatDoor
open Go.RowKit
section
variable {ok : Nat → Prop} {g o n cap : Nat} {c : Cel} {t : List Cel}

set_option maxHeartbeats 2000000 in
theorem front_style (w : World) (hS : CelsW ok w (.slice (some ⟨g, o, none⟩) n cap) (c :: t)) (hn : 0 < n) (hL : LaidW w) (hb : c ≠ blkC) (hw : c.2.1 = (ofN c.1 : Int)) (hy : styB c.2.2 = false) :
    Calls Tryz.prog 75 #[.slice (some ⟨g, o, none⟩) n cap] w fun e w' => e = .returned (.int .i64 (frontN (c :: t) : Int)) ∧ Below w.heap.size w w' := by
  have HF : Hid (frontN (c :: t) = 0) := by
    show _ = _
    have h1 : oneB c = false := Bool.eq_false_iff.2 fun k => by obtain ⟨k1, k2, k3⟩ := (oneB_iff c).1 k; rw [hy] at k3; cases k3
    cases t with
    | nil => rw [frontN, h1]; rfl
    | cons d t =>
      have h2 : twoB c d = false := Bool.eq_false_iff.2 fun k => by obtain ⟨k1, k2, k3, _⟩ := (twoB_iff c d).1 k; rw [hy] at k3; cases k3
      rw [frontN, h1, h2]; rfl
  obtain ⟨⟨a0, a1, a2, a3, a4, a5⟩, ⟨b0, b1, b2, b3, b4, b5⟩, hq, HO, HX, HY⟩ := front_open w hS hL hb
  have hg := hL.2.1
  have n1 : (0 : Int) < (n : Int) := by omega
  have hne : (c.2.1 != (ofN c.1 : Int)) = false := by simpa using hw
  rw [hy] at HY
  obtain ⟨N, hN⟩ : ∃ N, ofN c.1 = N := ⟨_, rfl⟩
  rw [hN] at hne HO
  clear hS hL hb hw hN hy
  go_enter Tryz.func75, Tryz.ntmps75
  go_wp2
  first
    | go_region_held3 (fun W => W.cell? ⟨w.heap.size, 0, none⟩ = some (.int .i32 c.1) ∧ W.cell? ⟨w.heap.size, 1, none⟩ = some (.int .i64 c.2.1) ∧ W.cell? ⟨w.heap.size, 2, none⟩ = some (.int .i64 c.2.2.1) ∧ W.cell? ⟨w.heap.size, 3, none⟩ = some (.bool c.2.2.2.1) ∧ W.cell? ⟨w.heap.size, 4, none⟩ = some (.bool c.2.2.2.2.1) ∧ W.cell? ⟨w.heap.size, 5, none⟩ = some (.bool c.2.2.2.2.2)) (first | exact (HX.out _ ⟨hb2.os, hb2.tape, hb2.output, hb2.size, hb2.block⟩).1 | exact (HX.out _ ⟨hb.os, hb.tape, hb.output, hb.size, hb.block⟩).1 | go_keep)
        (first
          | (go_at_call 22; go_must (go_fit (HO.out _ ?_)); exact ⟨rfl, rfl, rfl, Nat.le_refl _, fun _ _ => rfl⟩; rintro e w2 ⟨rfl, hb⟩)
          | (go_at_call 105; go_must (go_fit (HY.out _ ?_)); exact ⟨hb.os, hb.tape, hb.output, hb.size, hb.block⟩; rintro e w3 ⟨rfl, hb2⟩))
    | fail
  all_goals go_wp2
  all_goals go_ret
  all_goals exact ⟨by rw [HF.out]; rfl, (HX.out _ ⟨hb2.os, hb2.tape, hb2.output, hb2.size, hb2.block⟩).2⟩

set_option maxHeartbeats 2000000 in
theorem front_thin (w : World) (hS : CelsW ok w (.slice (some ⟨g, o, none⟩) n cap) (c :: t)) (hn : 0 < n) (hL : LaidW w) (hb : c ≠ blkC) (hw : c.2.1 = (ofN c.1 : Int)) (hy : styB c.2.2 = true) (h2 : c.2.1 ≠ 2) :
    Calls Tryz.prog 75 #[.slice (some ⟨g, o, none⟩) n cap] w fun e w' => e = .returned (.int .i64 (frontN (c :: t) : Int)) ∧ Below w.heap.size w w' := by
  have HF : Hid ((frontN (c :: t) : Int) = c.2.1) := by
    show _ = _
    have hlw := ofN_le c.1
    by_cases k : ofN c.1 = 1
    · rw [front_one t ((oneB_iff c).2 ⟨by omega, k, hy⟩)]; omega
    · have h1 : oneB c = false := Bool.eq_false_iff.2 fun k2 => by obtain ⟨k1, k2, _⟩ := (oneB_iff c).1 k2; omega
      cases t with
      | nil => rw [frontN, h1]; simp; omega
      | cons d t =>
        have h3 : twoB c d = false := Bool.eq_false_iff.2 fun k2 => by obtain ⟨k1, k2, _⟩ := (twoB_iff c d).1 k2; omega
        rw [frontN, h1, h3]; simp; omega
  obtain ⟨⟨a0, a1, a2, a3, a4, a5⟩, ⟨b0, b1, b2, b3, b4, b5⟩, hq, HO, HX, HY⟩ := front_open w hS hL hb
  have hg := hL.2.1
  have n1 : (0 : Int) < (n : Int) := by omega
  have hne : (c.2.1 != (ofN c.1 : Int)) = false := by simpa using hw
  have h2' : (c.2.1 == 2) = false := by simpa using h2
  rw [hy] at HY
  obtain ⟨N, hN⟩ : ∃ N, ofN c.1 = N := ⟨_, rfl⟩
  rw [hN] at hne HO
  clear hS hL hb hw hN hy h2
  go_enter Tryz.func75, Tryz.ntmps75
  go_wp2
  first
    | go_region_held3 (fun W => W.cell? ⟨w.heap.size, 0, none⟩ = some (.int .i32 c.1) ∧ W.cell? ⟨w.heap.size, 1, none⟩ = some (.int .i64 c.2.1) ∧ W.cell? ⟨w.heap.size, 2, none⟩ = some (.int .i64 c.2.2.1) ∧ W.cell? ⟨w.heap.size, 3, none⟩ = some (.bool c.2.2.2.1) ∧ W.cell? ⟨w.heap.size, 4, none⟩ = some (.bool c.2.2.2.2.1) ∧ W.cell? ⟨w.heap.size, 5, none⟩ = some (.bool c.2.2.2.2.2)) (first | exact (HX.out _ ⟨hb2.os, hb2.tape, hb2.output, hb2.size, hb2.block⟩).1 | exact (HX.out _ ⟨hb.os, hb.tape, hb.output, hb.size, hb.block⟩).1 | go_keep)
        (first
          | (go_at_call 22; go_must (go_fit (HO.out _ ?_)); exact ⟨rfl, rfl, rfl, Nat.le_refl _, fun _ _ => rfl⟩; rintro e w2 ⟨rfl, hb⟩)
          | (go_at_call 105; go_must (go_fit (HY.out _ ?_)); exact ⟨hb.os, hb.tape, hb.output, hb.size, hb.block⟩; rintro e w3 ⟨rfl, hb2⟩))
    | fail
  all_goals (obtain ⟨⟨k0, k1, k2, k3, k4, k5⟩, kb⟩ := HX.out _ ⟨hb2.os, hb2.tape, hb2.output, hb2.size, hb2.block⟩)
  all_goals go_wp2
  all_goals (first | go_quiet (fail) | fail)
  all_goals go_wp2
  all_goals go_ret
  all_goals exact ⟨by rw [HF.out]; rfl, kb.trans ⟨rfl, rfl, rfl, Nat.le_refl _, fun _ _ => rfl⟩⟩

set_option maxHeartbeats 2000000 in
theorem front_end (w : World) (hS : CelsW ok w (.slice (some ⟨g, o, none⟩) n cap) [c]) (hn : n = 1) (hL : LaidW w) (hb : c ≠ blkC) (hw : c.2.1 = (ofN c.1 : Int)) (hy : styB c.2.2 = true) (h2 : c.2.1 = 2) :
    Calls Tryz.prog 75 #[.slice (some ⟨g, o, none⟩) n cap] w fun e w' => e = .returned (.int .i64 (frontN [c] : Int)) ∧ Below w.heap.size w w' := by
  have HF : Hid (frontN [c] = 0) := by
    show _ = _
    have h1 : oneB c = false := Bool.eq_false_iff.2 fun k2 => by obtain ⟨k1, k2, _⟩ := (oneB_iff c).1 k2; omega
    rw [frontN, h1]; rfl
  obtain ⟨⟨a0, a1, a2, a3, a4, a5⟩, ⟨b0, b1, b2, b3, b4, b5⟩, hq, HO, HX, HY⟩ := front_open w hS hL hb
  have hg := hL.2.1
  have n1 : (0 : Int) < (n : Int) := by omega
  have hne : (c.2.1 != (ofN c.1 : Int)) = false := by simpa using hw
  have h2' : (c.2.1 == 2) = true := by simpa using h2
  have n2 : (n : Int) < 2 := by omega
  rw [hy] at HY
  obtain ⟨N, hN⟩ : ∃ N, ofN c.1 = N := ⟨_, rfl⟩
  rw [hN] at hne HO
  clear hS hL hb hw hN hy h2 hn
  go_enter Tryz.func75, Tryz.ntmps75
  go_wp2
  first
    | go_region_held3 (fun W => W.cell? ⟨w.heap.size, 0, none⟩ = some (.int .i32 c.1) ∧ W.cell? ⟨w.heap.size, 1, none⟩ = some (.int .i64 c.2.1) ∧ W.cell? ⟨w.heap.size, 2, none⟩ = some (.int .i64 c.2.2.1) ∧ W.cell? ⟨w.heap.size, 3, none⟩ = some (.bool c.2.2.2.1) ∧ W.cell? ⟨w.heap.size, 4, none⟩ = some (.bool c.2.2.2.2.1) ∧ W.cell? ⟨w.heap.size, 5, none⟩ = some (.bool c.2.2.2.2.2)) (first | exact (HX.out _ ⟨hb2.os, hb2.tape, hb2.output, hb2.size, hb2.block⟩).1 | exact (HX.out _ ⟨hb.os, hb.tape, hb.output, hb.size, hb.block⟩).1 | go_keep)
        (first
          | (go_at_call 22; go_must (go_fit (HO.out _ ?_)); exact ⟨rfl, rfl, rfl, Nat.le_refl _, fun _ _ => rfl⟩; rintro e w2 ⟨rfl, hb⟩)
          | (go_at_call 105; go_must (go_fit (HY.out _ ?_)); exact ⟨hb.os, hb.tape, hb.output, hb.size, hb.block⟩; rintro e w3 ⟨rfl, hb2⟩))
    | fail
  all_goals (obtain ⟨⟨k0, k1, k2, k3, k4, k5⟩, kb⟩ := HX.out _ ⟨hb2.os, hb2.tape, hb2.output, hb2.size, hb2.block⟩)
  all_goals go_wp2
  all_goals (first | go_quiet (fail) | fail)
  all_goals go_wp2
  all_goals go_ret
  all_goals exact ⟨by rw [HF.out]; rfl, kb.trans ⟨rfl, rfl, rfl, Nat.le_refl _, fun _ _ => rfl⟩⟩
end
end Go.Proofs.YtpkjaallhhjleaaGreatDoor
