/-
  Texts of this proof, one behind the other; each begins with its own remark.
-/
import Derived.Shelf.Abstract
import Derived.Deep.DeepFit
import Derived.Test.YtdibpoecdjnpaaaDoorBa4
import Derived.Test.YtdibpoecdjnpaaaDoorBa7
import Derived.Test.YtdibpoecdjnpaaaDoorBa11
import Derived.Test.YtdibpoecdjnpaaaDoorBa12
/-
  sort.Find over a function value that only makes memory: what it returns: whether one of the places answers 0.
-/
namespace Go.Proofs.YtdibpoecdjnpaaaDoor
open Go.RowKit Go.Shelf

set_option maxHeartbeats 2000000 in
theorem find_any (g : Nat) (cb : Array Value) (n : Nat) (p : Nat → Int) (w : World) (hn : n ≤ 1000) (eg : ∀ args w, (callFunc g args).run Tryd.prog w = .ok (.enter g args) w)
    (hf : ∀ (w1 : World) (i : Nat), Below w.heap.size w w1 → i < n → Calls Tryd.prog g (#[.int .i64 (i : Int)] ++ cb) w1 fun e w2 => e = .returned (.int .i64 (p i)) ∧ Below w1.heap.size w1 w2)
    (hpos : ∀ a b, a ≤ b → b < n → 0 < p b → 0 < p a) (hneg : ∀ a b, a ≤ b → b < n → p a < 0 → p b < 0) :
    Calls Tryd.prog 56 #[.int .i64 (n : Int), .func (.func g) #[] cb] w fun e w' => (∃ i : Int, e = .returned (.tuple #[.int .i64 i, .bool (foundB n p)])) ∧ Below w.heap.size w w' := by
  have HF := Lib.hid hf
  have HP := Lib.hid hpos
  have HG := Lib.hid (found_iff n p)
  have HM := Lib.hid hneg
  clear hf hpos hneg
  obtain ⟨F, hF⟩ : ∃ F, foundB n p = F := ⟨_, rfl⟩
  rw [hF]
  rw [hF] at HG
  clear hF
  go_enter Tryd.func56, Tryd.ntmps56
  go_wp2
  go_loopw [4, 6] (fun s4 s6 wr => ∃ lo hi : Nat, s4 = .int .i64 (lo : Int) ∧ s6 = .int .i64 (hi : Int) ∧ lo ≤ hi ∧ hi ≤ n ∧ Below w.heap.size w wr ∧ Hid ((∀ t, t < lo → 0 < p t) ∧ (∀ t, hi ≤ t → t < n → p t ≤ 0))) (fun s4 s6 _ => (intOf s6).toNat - (intOf s4).toNat)
  case atStart => exact ⟨0, n, rfl, rfl, Nat.zero_le _, Nat.le_refl _, Below.refl _ _, ⟨fun t ht => absurd ht (Nat.not_lt_zero _), fun t h1 h2 => by omega⟩⟩
  case round =>
    obtain ⟨lo, hi, rfl, rfl, hlh, hin, hbw, I⟩ := hrel
    by_cases hlt : lo < hi
    · have hc := HF.out wr ((lo + hi) / 2) hbw (by omega)
      rw [show (((lo + hi) / 2 : Nat) : Int) = ((lo : Int) + (hi : Int)) / 2 by omega] at hc
      have hsz := hbw.size
      by_cases hp : 0 < p ((lo + hi) / 2)
      · have I2 : Hid ((∀ t, t < (lo + hi) / 2 + 1 → 0 < p t) ∧ (∀ t, hi ≤ t → t < n → p t ≤ 0)) := ⟨fun t ht => HP.out t ((lo + hi) / 2) (by omega) (by omega) hp, I.out.2⟩
        obtain ⟨x, hx⟩ : ∃ x, p ((lo + hi) / 2) = x := ⟨_, rfl⟩
        rw [hx] at hc hp
        have HC := Lib.hid hc
        clear hc hx
        go_wp2_with (go_at_fn g; refine HC.out.mono ?_; rintro e w' ⟨rfl, hb⟩)
        go_roundw
        case rel => exact ⟨(lo + hi) / 2 + 1, hi, by rw [show ((lo : Int) + (hi : Int)) / 2 + 1 = (((lo + hi) / 2 + 1 : Nat) : Int) by omega], rfl, by omega, hin, hbw.trans (hb.mono hsz), I2⟩
        case measure => simp [intOf]; omega
      · have hp2 : p ((lo + hi) / 2) ≤ 0 := by omega
        have I2 : Hid ((∀ t, t < lo → 0 < p t) ∧ (∀ t, (lo + hi) / 2 ≤ t → t < n → p t ≤ 0)) := ⟨I.out.1, fun t h1 h2 => by
          by_cases h : 0 < p t
          · exact absurd (HP.out ((lo + hi) / 2) t h1 h2 h) hp
          · omega⟩
        obtain ⟨x, hx⟩ : ∃ x, p ((lo + hi) / 2) = x := ⟨_, rfl⟩
        rw [hx] at hc hp hp2
        have HC := Lib.hid hc
        clear hc hx hp
        go_wp2_with (go_at_fn g; refine HC.out.mono ?_; rintro e w' ⟨rfl, hb⟩)
        go_roundw
        case rel => exact ⟨lo, (lo + hi) / 2, rfl, by rw [show ((lo : Int) + (hi : Int)) / 2 = (((lo + hi) / 2 : Nat) : Int) by omega], by omega, by omega, hbw.trans (hb.mono hsz), I2⟩
        case measure => simp [intOf]; omega
    · obtain rfl : hi = lo := by omega
      have hg := HG.out hi hin I.out.1 I.out.2 HM.out
      by_cases hlt2 : hi < n
      · have hc := HF.out wr hi hbw hlt2
        rw [decide_eq_true hlt2, Bool.true_and] at hg
        have hsz := hbw.size
        obtain ⟨x, hx⟩ : ∃ x, p hi = x := ⟨_, rfl⟩
        rw [hx] at hc hg
        have HC := Lib.hid hc
        have HG2 := Lib.hid hg
        clear hc hx hg
        go_wp2_with (go_at_fn g; refine HC.out.mono ?_; rintro e w' ⟨rfl, hb⟩)
        go_ret2
        exact ⟨⟨(hi : Int), by rw [HG2.out]; rfl⟩, hbw.trans (hb.mono hsz)⟩
      · rw [decide_eq_false hlt2, Bool.false_and] at hg
        have HG2 := Lib.hid hg
        clear hg
        go_wp2
        go_ret2
        exact ⟨⟨(hi : Int), by rw [HG2.out]; rfl⟩, hbw⟩
end Go.Proofs.YtdibpoecdjnpaaaDoor

/-
  widths.hidden, wide, Of: what each call returns: for every rune and every column; the two tables are as the program's text lays them.
-/
namespace Go.Proofs.YtdibpoecdjnpaaaDoor
open Go.RowKit Go.Shelf

set_option maxHeartbeats 1000000 in
theorem hidden_any (r : Int) (w : World) (hT : TabW w) :
    Calls Tryd.prog 47 #[.int .i32 r] w fun e w' => e = .returned (.bool (hidB r)) ∧ Below w.heap.size w w' := by
  have hF := fun (w0 : World) (hw0 : w0 = w.alloc (.cells #[.int .i32 r] 21)) => find_any 57 #[.pointer (some ⟨w.heap.size, 0, none⟩)] 7 (sideAt hidF r) w0 (by omega) (fun _ _ => by simp [go_sem])
    (fun w1 i hb hi => hidSide_any r i w.heap.size w1 hi ((hT.below ((Below.refl _ _).alloc (Nat.le_refl _) _)).below (by rw [← hw0]; exact hb)) (by
      rw [hb.cell (p := ⟨w.heap.size, 0, none⟩) (by rw [hw0, size_alloc]; exact Nat.lt_succ_self _), hw0]
      exact cell_box _ _ _)) (mono_pos hid_sorted r) (mono_neg hid_sorted r)
  rw [hid_found] at hF
  have HF := Lib.hid (hF _ rfl)
  clear hF
  have hB : hidB r = (amongB r hidF || !Lib.validRune r) := rfl
  have hE := put_none r
  have hP := fun w => putB_any r w
  obtain ⟨Z, hZ⟩ : ∃ Z, putB r = Z := ⟨_, rfl⟩
  rw [hZ] at hE hP
  have HP := Lib.hid hP
  clear hT hZ hP
  cases hA : amongB r hidF
  · rw [hA] at HF
    rw [hA, Bool.false_or, ← hE] at hB
    have HB := Lib.hid hB
    clear hA hE hB
    go_enter Tryd.func47, Tryd.ntmps47
    go_wp2_with fail
    refine HF.out.mono ?_
    rintro e w1 ⟨⟨i, rfl⟩, hb⟩
    have hc := cell_box w (.int .i32 r) 21
    rw [← hb.cell (p := ⟨w.heap.size, 0, none⟩) (by rw [size_alloc]; exact Nat.lt_succ_self _)] at hc
    have hb1 : Below w.heap.size w w1 := ((Below.refl _ _).alloc (Nat.le_refl _) _).trans (hb.mono (by rw [size_alloc]; omega))
    clear hb
    go_wp2_with fail
    refine (HP.out _).mono ?_
    rintro e w2 ⟨rfl, rfl⟩
    go_wp2_with fail
    go_ret
    exact ⟨by rw [HB.out]; rfl, hb1⟩
  · rw [hA] at HF
    rw [hA, Bool.true_or] at hB
    have HB := Lib.hid hB
    clear hA hE hB
    go_enter Tryd.func47, Tryd.ntmps47
    go_wp2_with fail
    refine HF.out.mono ?_
    rintro e w1 ⟨⟨i, rfl⟩, hb⟩
    have hb1 : Below w.heap.size w w1 := ((Below.refl _ _).alloc (Nat.le_refl _) _).trans (hb.mono (by rw [size_alloc]; omega))
    clear hb
    go_wp2_with fail
    go_ret
    exact ⟨by rw [HB.out]; rfl, hb1⟩

set_option maxHeartbeats 1000000 in
theorem wide_any (r : Int) (w : World) (hT : TabW w) :
    Calls Tryd.prog 48 #[.int .i32 r] w fun e w' => e = .returned (.bool (amongB r widF)) ∧ Below w.heap.size w w' := by
  have hF := fun (w0 : World) (hw0 : w0 = w.alloc (.cells #[.int .i32 r] 21)) => find_any 59 #[.pointer (some ⟨w.heap.size, 0, none⟩)] 14 (sideAt widF r) w0 (by omega) (fun _ _ => by simp [go_sem])
    (fun w1 i hb hi => widSide_any r i w.heap.size w1 hi ((hT.below ((Below.refl _ _).alloc (Nat.le_refl _) _)).below (by rw [← hw0]; exact hb)) (by
      rw [hb.cell (p := ⟨w.heap.size, 0, none⟩) (by rw [hw0, size_alloc]; exact Nat.lt_succ_self _), hw0]
      exact cell_box _ _ _)) (mono_pos wid_sorted r) (mono_neg wid_sorted r)
  rw [wid_found] at hF
  have HF := Lib.hid (hF _ rfl)
  clear hF hT
  generalize amongB r widF = V at *
  go_enter Tryd.func48, Tryd.ntmps48
  go_wp2_with fail
  refine HF.out.mono ?_
  rintro e w1 ⟨⟨i, rfl⟩, hb⟩
  have hb1 : Below w.heap.size w w1 := ((Below.refl _ _).alloc (Nat.le_refl _) _).trans (hb.mono (by rw [size_alloc]; omega))
  clear hb
  go_wp2_with fail
  go_ret
  exact ⟨rfl, hb1⟩

set_option maxHeartbeats 1000000 in
theorem of_any (r : Int) (w : World) (hT : TabW w) :
    Calls Tryd.prog 28 #[.int .i32 r] w fun e w' => e = .returned (.int .i64 (ofN r : Int)) ∧ Below w.heap.size w w' := by
  have H1 := Lib.hid (fun w hT => hidden_any r w hT)
  have H2 := Lib.hid (fun w hT => wide_any r w hT)
  unfold ofN
  cases hh : hidB r
  · rw [hh] at H1
    clear hh
    cases hv : amongB r widF
    all_goals
      rw [hv] at H2
      clear hv
      go_enter Tryd.func28, Tryd.ntmps28
      go_wp2_with fail
      refine (H1.out _ hT).mono ?_
      rintro e w1 ⟨rfl, hb1⟩
      go_wp2_with fail
      refine (H2.out _ (hT.below hb1)).mono ?_
      rintro e w2 ⟨rfl, hb2⟩
      go_wp2_with fail
      go_ret
      exact ⟨rfl, hb1.trans (hb2.mono hb1.size)⟩
  · rw [hh] at H1
    clear hh
    go_enter Tryd.func28, Tryd.ntmps28
    go_wp2_with fail
    refine (H1.out _ hT).mono ?_
    rintro e w1 ⟨rfl, hb1⟩
    go_wp2_with fail
    go_ret
    exact ⟨rfl, hb1⟩

end Go.Proofs.YtdibpoecdjnpaaaDoor

/-
  grids.front: what it returns: on how many cells the rune at a row's front stands.
-/
namespace Go.Proofs.YtdibpoecdjnpaaaDoor
open Go.RowKit

theorem blk_one : oneB blkC = true := by decide
theorem front_one {c : Cel} (t : List Cel) (h : oneB c = true) : frontN (c :: t) = 1 := by
  cases t with
  | nil => rw [frontN, if_pos h]
  | cons d t => rw [frontN, if_pos h]
/-- A box of a cell, and what becomes of it. -/
theorem box6 {w W : World} {c : Cel} (h : Below (w.heap.size + 1) (w.alloc (.cells #[.int .i32 c.1, .int .i64 c.2.1, .int .i64 c.2.2.1, .bool c.2.2.2.1, .bool c.2.2.2.2.1, .bool c.2.2.2.2.2] 52)) W) :
    cell6 W w.heap.size 0 c ∧ Below w.heap.size w W := by
  have e := heap_alloc_new w (.cells #[.int .i32 c.1, .int .i64 c.2.1, .int .i64 c.2.2.1, .bool c.2.2.2.1, .bool c.2.2.2.2.1, .bool c.2.2.2.2.2] 52)
  refine ⟨cell6.below ⟨?_, ?_, ?_, ?_, ?_, ?_⟩ h (Nat.lt_succ_self _), ((Below.refl _ w).alloc (Nat.le_refl _) _).trans (h.mono (by omega))⟩ <;> (rw [cell_of_row _ _ _ _ _ _ e]; rfl)

section
variable {ok : Nat → Prop} {g o n cap : Nat} {c : Cel} {t : List Cel}

set_option maxHeartbeats 2000000 in
theorem front_blank (w : World) (hS : CelsW ok w (.slice (some ⟨g, o, none⟩) n cap) (c :: t)) (hn : 0 < n) (hL : LaidW w) (hb : c = blkC) :
    Calls Tryd.prog 55 #[.slice (some ⟨g, o, none⟩) n cap] w fun e w' => e = .returned (.int .i64 (frontN (c :: t) : Int)) ∧ Below w.heap.size w w' := by
  have HF : Hid (frontN (c :: t) = 1) := front_one t (by rw [hb]; exact blk_one)
  have HC : Hid (c.2.1 = 1) := by rw [hb]; rfl
  have h6 := hS.get (i := 0) (c := c) rfl
  rw [Nat.zero_mul, Nat.add_zero] at h6
  obtain ⟨a0, a1, a2, a3, a4, a5⟩ := h6
  obtain ⟨b0, b1, b2, b3, b4, b5⟩ := hL.2.2
  simp only [blkC, Nat.zero_add] at b0 b1 b2 b3 b4 b5
  have hq : ∀ w, (binOp .eql 52 (.agg #[.int .i32 c.1, .int .i64 c.2.1, .int .i64 c.2.2.1, .bool c.2.2.2.1, .bool c.2.2.2.2.1, .bool c.2.2.2.2.2]) (.agg #[.int .i32 32, .int .i64 1, .int .i64 0, .bool false, .bool false, .bool false])).run Tryd.prog w = .ok (.bool true) w := fun w => by
    have := cel_eql c blkC w
    rw [decide_eq_true hb] at this
    exact this
  have hg := hL.2.1
  have n1 : (0 : Int) < (n : Int) := by omega
  clear hS hL hb
  go_enter Tryd.func55, Tryd.ntmps55
  go_wp2
  go_ret
  exact ⟨by rw [HF.out, HC.out]; rfl, (Below.refl _ w).alloc (Nat.le_refl _) _⟩

theorem front_open (w : World) (hS : CelsW ok w (.slice (some ⟨g, o, none⟩) n cap) (c :: t)) (hL : LaidW w) (hb : c ≠ blkC) :
    cell6 w g o c ∧ (w.cell? ⟨0, 0, none⟩ = some (.int .i32 32) ∧ w.cell? ⟨0, 1, none⟩ = some (.int .i64 1) ∧ w.cell? ⟨0, 2, none⟩ = some (.int .i64 0) ∧ w.cell? ⟨0, 3, none⟩ = some (.bool false) ∧ w.cell? ⟨0, 4, none⟩ = some (.bool false) ∧ w.cell? ⟨0, 5, none⟩ = some (.bool false)) ∧
    (∀ w, (binOp .eql 52 (.agg #[.int .i32 c.1, .int .i64 c.2.1, .int .i64 c.2.2.1, .bool c.2.2.2.1, .bool c.2.2.2.2.1, .bool c.2.2.2.2.2]) (.agg #[.int .i32 32, .int .i64 1, .int .i64 0, .bool false, .bool false, .bool false])).run Tryd.prog w = .ok (.bool false) w) ∧
    Hid (∀ W, Below (w.heap.size + 1) (w.alloc (.cells #[.int .i32 c.1, .int .i64 c.2.1, .int .i64 c.2.2.1, .bool c.2.2.2.1, .bool c.2.2.2.2.1, .bool c.2.2.2.2.2] 52)) W → Calls Tryd.prog 28 #[.int .i32 c.1] W fun e w' => e = .returned (.int .i64 (ofN c.1 : Int)) ∧ Below (w.heap.size + 1) (w.alloc (.cells #[.int .i32 c.1, .int .i64 c.2.1, .int .i64 c.2.2.1, .bool c.2.2.2.1, .bool c.2.2.2.2.1, .bool c.2.2.2.2.2] 52)) w') ∧
    Hid (∀ W, Below (w.heap.size + 1) (w.alloc (.cells #[.int .i32 c.1, .int .i64 c.2.1, .int .i64 c.2.2.1, .bool c.2.2.2.1, .bool c.2.2.2.2.1, .bool c.2.2.2.2.2] 52)) W → cell6 W w.heap.size 0 c ∧ Below w.heap.size w W) ∧
    Hid (∀ W, Below (w.heap.size + 1) (w.alloc (.cells #[.int .i32 c.1, .int .i64 c.2.1, .int .i64 c.2.2.1, .bool c.2.2.2.1, .bool c.2.2.2.2.1, .bool c.2.2.2.2.2] 52)) W → Calls Tryd.prog 37 #[.agg #[.int .i64 c.2.2.1, .bool c.2.2.2.1, .bool c.2.2.2.2.1, .bool c.2.2.2.2.2]] W fun e w' => e = .returned (.bool (styB c.2.2)) ∧ Below (w.heap.size + 1) (w.alloc (.cells #[.int .i32 c.1, .int .i64 c.2.1, .int .i64 c.2.2.1, .bool c.2.2.2.1, .bool c.2.2.2.2.1, .bool c.2.2.2.2.2] 52)) w') := by
  have h6 := hS.get (i := 0) (c := c) rfl
  rw [Nat.zero_mul, Nat.add_zero] at h6
  refine ⟨h6, hL.2.2, fun w => ?_, fun W hW => ?_, fun W hW => box6 hW, fun W hW => ?_⟩
  · have := cel_eql c blkC w
    rw [decide_eq_false hb] at this
    exact this
  · have hT : TabW W := hL.1.below (box6 hW).2
    exact (of_any c.1 W hT).mono fun e w' ⟨h1, h2⟩ => ⟨h1, hW.trans (h2.mono (by have := hW.size; rw [World.size_alloc] at this; omega))⟩
  · exact (styled_any c.2.2 W).mono fun e w' ⟨h1, h2⟩ => ⟨h1, hW.trans (h2.mono (by have := hW.size; rw [World.size_alloc] at this; omega))⟩

set_option maxHeartbeats 2000000 in
theorem front_width (w : World) (hS : CelsW ok w (.slice (some ⟨g, o, none⟩) n cap) (c :: t)) (hn : 0 < n) (hL : LaidW w) (hb : c ≠ blkC) (hw : c.2.1 ≠ (ofN c.1 : Int)) :
    Calls Tryd.prog 55 #[.slice (some ⟨g, o, none⟩) n cap] w fun e w' => e = .returned (.int .i64 (frontN (c :: t) : Int)) ∧ Below w.heap.size w w' := by
  have HF : Hid (frontN (c :: t) = 0) := by
    show _ = _
    have h1 : oneB c = false := Bool.eq_false_iff.2 fun k => by obtain ⟨k1, k2, _⟩ := (oneB_iff c).1 k; omega
    cases t with
    | nil => rw [frontN, h1]; rfl
    | cons d t =>
      have h2 : twoB c d = false := Bool.eq_false_iff.2 fun k => by obtain ⟨k1, k2, _⟩ := (twoB_iff c d).1 k; omega
      rw [frontN, h1, h2]; rfl
  obtain ⟨⟨a0, a1, a2, a3, a4, a5⟩, ⟨b0, b1, b2, b3, b4, b5⟩, hq, HO, HX, HY⟩ := front_open w hS hL hb
  have hg := hL.2.1
  have n1 : (0 : Int) < (n : Int) := by omega
  have hne : (c.2.1 != (ofN c.1 : Int)) = true := by simpa using hw
  obtain ⟨N, hN⟩ : ∃ N, ofN c.1 = N := ⟨_, rfl⟩
  rw [hN] at hne HO
  clear hS hL hb hw hN HY
  go_enter Tryd.func55, Tryd.ntmps55
  go_wp2
  first
    | go_region_with ((go_at_call 28; go_must (go_fit (HO.out _ ?_)); exact ⟨rfl, rfl, rfl, Nat.le_refl _, fun _ _ => rfl⟩; rintro e w2 ⟨rfl, hb⟩; obtain ⟨⟨k0, k1, k2, k3, k4, k5⟩, kb⟩ := HX.out _ ⟨hb.os, hb.tape, hb.output, hb.size, hb.block⟩))
    | fail
  all_goals go_wp2
  all_goals go_ret
  all_goals exact ⟨by rw [HF.out]; rfl, kb⟩
end
end Go.Proofs.YtdibpoecdjnpaaaDoor
