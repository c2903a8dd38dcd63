/-
  grids.front: what it returns where a rune of two columns stands at the front.
-/
import Derived.Deep.DeepFit
import Derived.Test.YtpkjaallhhjleaaGreatDoorBe23
namespace Go.Proofs.YtpkjaallhhjleaaGreatDoor
open Go.RowKit
section
variable {ok : Nat → Prop} {g o n cap : Nat} {c d : Cel} {t : List Cel}

set_option maxHeartbeats 2000000 in
theorem front_wide (w : World) (hS : CelsW ok w (.slice (some ⟨g, o, none⟩) n cap) (c :: d :: t)) (hn : 2 ≤ n) (hL : LaidW w) (hb : c ≠ blkC) (hw : c.2.1 = (ofN c.1 : Int)) (hy : styB c.2.2 = true) (h2 : c.2.1 = 2) :
    Calls Tryz.prog 75 #[.slice (some ⟨g, o, none⟩) n cap] w fun e w' => e = .returned (.int .i64 (frontN (c :: d :: t) : Int)) ∧ Below w.heap.size w w' := by
  have HF : Hid (frontN (c :: d :: t) = if twoB c d then 2 else 0) := by
    show _ = _
    have h1 : oneB c = false := Bool.eq_false_iff.2 fun k2 => by obtain ⟨k1, k2, _⟩ := (oneB_iff c).1 k2; omega
    rw [frontN, h1]; rfl
  obtain ⟨⟨a0, a1, a2, a3, a4, a5⟩, ⟨b0, b1, b2, b3, b4, b5⟩, hq, HO, HX, HY⟩ := front_open w hS hL hb
  have hg := hL.2.1
  have n1 : (0 : Int) < (n : Int) := by omega
  have hne : (c.2.1 != (ofN c.1 : Int)) = false := by simpa using hw
  have h2' : (c.2.1 == 2) = true := by simpa using h2
  have n2 : (2 : Int) ≤ (n : Int) := by omega
  have n3 : (1 : Int) < (n : Int) := by omega
  have nd : decide ((n : Int) < 2) = false := decide_eq_false (by omega)
  have HD : Hid (∀ W, Below w.heap.size w W → cell6 W g (o + 6) d) := fun W hW => by
    have hd := hS.get (i := 1) (c := d) rfl
    rw [Nat.one_mul] at hd
    exact hd.below hW hd.lt
  have HR : Hid (∀ W, Calls Tryz.prog 106 #[.agg #[.int .i32 c.1, .int .i64 c.2.1, .int .i64 c.2.2.1, .bool c.2.2.2.1, .bool c.2.2.2.2.1, .bool c.2.2.2.2.2], .agg #[.int .i32 d.1, .int .i64 d.2.1, .int .i64 d.2.2.1, .bool d.2.2.2.1, .bool d.2.2.2.2.1, .bool d.2.2.2.2.2]] W fun e w' => e = .returned (.bool (twoB c d)) ∧ Below W.heap.size W w') := fun W =>
    (rightOf_any c d W).mono fun e w' ⟨k1, k2⟩ => ⟨by rw [k1]; unfold twoB; rw [decide_eq_true h2, decide_eq_true (show ofN c.1 = 2 by omega), hy]; rfl, k2⟩
  obtain ⟨Q, hQ⟩ : ∃ Q, twoB c d = Q := ⟨_, rfl⟩
  rw [hQ] at HF HR
  have HF2 : Hid ((if Q then 2 else 0 : Nat) = if Q then 2 else 0) := rfl
  have HC2 : Hid (c.2.1 = 2) := h2
  rw [hy] at HY
  obtain ⟨N, hN⟩ : ∃ N, ofN c.1 = N := ⟨_, rfl⟩
  rw [hN] at hne HO
  clear hS hL hb hw hN hy h2 hn hQ
  go_enter Tryz.func75, Tryz.ntmps75
  go_wp2
  first
    | go_region_held3 (fun W => W.cell? ⟨w.heap.size, 0, none⟩ = some (.int .i32 c.1) ∧ W.cell? ⟨w.heap.size, 1, none⟩ = some (.int .i64 c.2.1) ∧ W.cell? ⟨w.heap.size, 2, none⟩ = some (.int .i64 c.2.2.1) ∧ W.cell? ⟨w.heap.size, 3, none⟩ = some (.bool c.2.2.2.1) ∧ W.cell? ⟨w.heap.size, 4, none⟩ = some (.bool c.2.2.2.2.1) ∧ W.cell? ⟨w.heap.size, 5, none⟩ = some (.bool c.2.2.2.2.2)) (first | exact (HX.out _ ⟨hb2.os, hb2.tape, hb2.output, hb2.size, hb2.block⟩).1 | exact (HX.out _ ⟨hb.os, hb.tape, hb.output, hb.size, hb.block⟩).1 | go_keep)
        (first
          | (go_at_call 22; go_must (go_fit (HO.out _ ?_)); exact ⟨rfl, rfl, rfl, Nat.le_refl _, fun _ _ => rfl⟩; rintro e w2 ⟨rfl, hb⟩)
          | (go_at_call 105; go_must (go_fit (HY.out _ ?_)); exact ⟨hb.os, hb.tape, hb.output, hb.size, hb.block⟩; rintro e w3 ⟨rfl, hb2⟩))
    | fail
  all_goals (obtain ⟨⟨k0, k1, k2, k3, k4, k5⟩, kb⟩ := HX.out _ ⟨hb2.os, hb2.tape, hb2.output, hb2.size, hb2.block⟩)
  all_goals go_wp2
  all_goals (obtain ⟨e0, e1, e2, e3, e4, e5⟩ := HD.out _ kb)
  have HK : Hid (∀ W, Below w3.heap.size w3 W → (fun W => W.cell? ⟨w.heap.size, 0, none⟩ = some (.int .i32 c.1) ∧ W.cell? ⟨w.heap.size, 1, none⟩ = some (.int .i64 c.2.1) ∧ W.cell? ⟨w.heap.size, 2, none⟩ = some (.int .i64 c.2.2.1) ∧ W.cell? ⟨w.heap.size, 3, none⟩ = some (.bool c.2.2.2.1) ∧ W.cell? ⟨w.heap.size, 4, none⟩ = some (.bool c.2.2.2.2.1) ∧ W.cell? ⟨w.heap.size, 5, none⟩ = some (.bool c.2.2.2.2.2) ∧ W.cell? ⟨g, o + 6, none⟩ = some (.int .i32 d.1) ∧ W.cell? ⟨g, o + 6 + 1, none⟩ = some (.int .i64 d.2.1) ∧ W.cell? ⟨g, o + 6 + 2, none⟩ = some (.int .i64 d.2.2.1) ∧ W.cell? ⟨g, o + 6 + 3, none⟩ = some (.bool d.2.2.2.1) ∧ W.cell? ⟨g, o + 6 + 4, none⟩ = some (.bool d.2.2.2.2.1) ∧ W.cell? ⟨g, o + 6 + 5, none⟩ = some (.bool d.2.2.2.2.2)) W) := fun W hW => by
    have x := (HX.out _ (Below.trans ⟨hb2.os, hb2.tape, hb2.output, hb2.size, hb2.block⟩ (hW.mono (by have := hb2.size; rw [World.size_alloc] at this; exact this)))).1
    have y := HD.out _ (kb.trans (hW.mono kb.size))
    obtain ⟨x0, x1, x2, x3, x4, x5⟩ := x
    obtain ⟨y0, y1, y2, y3, y4, y5⟩ := y
    exact ⟨x0, x1, x2, x3, x4, x5, y0, y1, y2, y3, y4, y5⟩
  clear HO HY HX HD
  first
    | go_region_held3 (fun W => W.cell? ⟨w.heap.size, 0, none⟩ = some (.int .i32 c.1) ∧ W.cell? ⟨w.heap.size, 1, none⟩ = some (.int .i64 c.2.1) ∧ W.cell? ⟨w.heap.size, 2, none⟩ = some (.int .i64 c.2.2.1) ∧ W.cell? ⟨w.heap.size, 3, none⟩ = some (.bool c.2.2.2.1) ∧ W.cell? ⟨w.heap.size, 4, none⟩ = some (.bool c.2.2.2.2.1) ∧ W.cell? ⟨w.heap.size, 5, none⟩ = some (.bool c.2.2.2.2.2) ∧ W.cell? ⟨g, o + 6, none⟩ = some (.int .i32 d.1) ∧ W.cell? ⟨g, o + 6 + 1, none⟩ = some (.int .i64 d.2.1) ∧ W.cell? ⟨g, o + 6 + 2, none⟩ = some (.int .i64 d.2.2.1) ∧ W.cell? ⟨g, o + 6 + 3, none⟩ = some (.bool d.2.2.2.1) ∧ W.cell? ⟨g, o + 6 + 4, none⟩ = some (.bool d.2.2.2.2.1) ∧ W.cell? ⟨g, o + 6 + 5, none⟩ = some (.bool d.2.2.2.2.2)) (first | exact HK.out _ ⟨hb4.os, hb4.tape, hb4.output, hb4.size, hb4.block⟩ | go_keep)
        ((go_at_call 106; go_must (go_fit (HR.out _)); rintro e w4 ⟨rfl, hb4⟩))
    | fail
  have q4 : Below w3.heap.size w3 w4 := ⟨hb4.os, hb4.tape, hb4.output, hb4.size, hb4.block⟩
  have kb2 : Below w.heap.size w w4 := kb.trans (q4.mono kb.size)
  obtain ⟨x0, x1, x2, x3, x4, x5, _⟩ := HK.out w4 q4
  clear HK HR hb4 q4
  cases Q
  all_goals go_wp2
  all_goals go_ret
  · exact ⟨by rw [HF.out]; rfl, kb2⟩
  · exact ⟨by rw [HF.out, HC2.out]; rfl, kb2⟩
end
end Go.Proofs.YtpkjaallhhjleaaGreatDoor
