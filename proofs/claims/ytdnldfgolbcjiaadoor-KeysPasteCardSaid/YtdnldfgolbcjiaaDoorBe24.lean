/-
  widths.hidden, wide, Of: what each call returns: for every rune and every column; the two tables are as the program's text lays them.
-/
import Derived.Test.YtdnldfgolbcjiaaDoorBe15
import Derived.Test.YtdnldfgolbcjiaaDoorBe23
import Derived.Test.YtdnldfgolbcjiaaDoorBe4
namespace Go.Proofs.YtdnldfgolbcjiaaDoor
open Go.RowKit Go.Shelf

set_option maxHeartbeats 1000000 in
theorem hidden_any (r : Int) (w : World) (hT : TabW w) :
    Calls Tryd.prog 66 #[.int .i32 r] w fun e w' => e = .returned (.bool (hidB r)) ∧ Below w.heap.size w w' := by
  have hF := fun (w0 : World) (hw0 : w0 = w.alloc (.cells #[.int .i32 r] 21)) => find_any 71 #[.pointer (some ⟨w.heap.size, 0, none⟩)] 7 (sideAt hidF r) w0 (by omega) (fun _ _ => by simp [go_sem])
    (fun w1 i hb hi => hidSide_any r i w.heap.size w1 hi ((hT.below ((Below.refl _ _).alloc (Nat.le_refl _) _)).below (by rw [← hw0]; exact hb)) (by
      rw [hb.cell (p := ⟨w.heap.size, 0, none⟩) (by rw [hw0, size_alloc]; exact Nat.lt_succ_self _), hw0]
      exact cell_box _ _ _)) (mono_pos hid_sorted r) (mono_neg hid_sorted r)
  rw [hid_found] at hF
  have HF := Lib.hid (hF _ rfl)
  clear hF
  have hB : hidB r = (amongB r hidF || !Lib.validRune r) := rfl
  have hE := put_none r
  have hP := fun w => putB_any r w
  obtain ⟨Z, hZ⟩ : ∃ Z, putB r = Z := ⟨_, rfl⟩
  rw [hZ] at hE hP
  have HP := Lib.hid hP
  clear hT hZ hP
  cases hA : amongB r hidF
  · rw [hA] at HF
    rw [hA, Bool.false_or, ← hE] at hB
    have HB := Lib.hid hB
    clear hA hE hB
    go_enter Tryd.func66, Tryd.ntmps66
    go_wp2_with fail
    refine HF.out.mono ?_
    rintro e w1 ⟨⟨i, rfl⟩, hb⟩
    have hc := cell_box w (.int .i32 r) 21
    rw [← hb.cell (p := ⟨w.heap.size, 0, none⟩) (by rw [size_alloc]; exact Nat.lt_succ_self _)] at hc
    have hb1 : Below w.heap.size w w1 := ((Below.refl _ _).alloc (Nat.le_refl _) _).trans (hb.mono (by rw [size_alloc]; omega))
    clear hb
    go_wp2_with fail
    refine (HP.out _).mono ?_
    rintro e w2 ⟨rfl, rfl⟩
    go_wp2_with fail
    go_ret
    exact ⟨by rw [HB.out]; rfl, hb1⟩
  · rw [hA] at HF
    rw [hA, Bool.true_or] at hB
    have HB := Lib.hid hB
    clear hA hE hB
    go_enter Tryd.func66, Tryd.ntmps66
    go_wp2_with fail
    refine HF.out.mono ?_
    rintro e w1 ⟨⟨i, rfl⟩, hb⟩
    have hb1 : Below w.heap.size w w1 := ((Below.refl _ _).alloc (Nat.le_refl _) _).trans (hb.mono (by rw [size_alloc]; omega))
    clear hb
    go_wp2_with fail
    go_ret
    exact ⟨by rw [HB.out]; rfl, hb1⟩

set_option maxHeartbeats 1000000 in
theorem wide_any (r : Int) (w : World) (hT : TabW w) :
    Calls Tryd.prog 67 #[.int .i32 r] w fun e w' => e = .returned (.bool (amongB r widF)) ∧ Below w.heap.size w w' := by
  have hF := fun (w0 : World) (hw0 : w0 = w.alloc (.cells #[.int .i32 r] 21)) => find_any 73 #[.pointer (some ⟨w.heap.size, 0, none⟩)] 14 (sideAt widF r) w0 (by omega) (fun _ _ => by simp [go_sem])
    (fun w1 i hb hi => widSide_any r i w.heap.size w1 hi ((hT.below ((Below.refl _ _).alloc (Nat.le_refl _) _)).below (by rw [← hw0]; exact hb)) (by
      rw [hb.cell (p := ⟨w.heap.size, 0, none⟩) (by rw [hw0, size_alloc]; exact Nat.lt_succ_self _), hw0]
      exact cell_box _ _ _)) (mono_pos wid_sorted r) (mono_neg wid_sorted r)
  rw [wid_found] at hF
  have HF := Lib.hid (hF _ rfl)
  clear hF hT
  generalize amongB r widF = V at *
  go_enter Tryd.func67, Tryd.ntmps67
  go_wp2_with fail
  refine HF.out.mono ?_
  rintro e w1 ⟨⟨i, rfl⟩, hb⟩
  have hb1 : Below w.heap.size w w1 := ((Below.refl _ _).alloc (Nat.le_refl _) _).trans (hb.mono (by rw [size_alloc]; omega))
  clear hb
  go_wp2_with fail
  go_ret
  exact ⟨rfl, hb1⟩

set_option maxHeartbeats 1000000 in
theorem of_any (r : Int) (w : World) (hT : TabW w) :
    Calls Tryd.prog 55 #[.int .i32 r] w fun e w' => e = .returned (.int .i64 (ofN r : Int)) ∧ Below w.heap.size w w' := by
  have H1 := Lib.hid (fun w hT => hidden_any r w hT)
  have H2 := Lib.hid (fun w hT => wide_any r w hT)
  unfold ofN
  cases hh : hidB r
  · rw [hh] at H1
    clear hh
    cases hv : amongB r widF
    all_goals
      rw [hv] at H2
      clear hv
      go_enter Tryd.func55, Tryd.ntmps55
      go_wp2_with fail
      refine (H1.out _ hT).mono ?_
      rintro e w1 ⟨rfl, hb1⟩
      go_wp2_with fail
      refine (H2.out _ (hT.below hb1)).mono ?_
      rintro e w2 ⟨rfl, hb2⟩
      go_wp2_with fail
      go_ret
      exact ⟨rfl, hb1.trans (hb2.mono hb1.size)⟩
  · rw [hh] at H1
    clear hh
    go_enter Tryd.func55, Tryd.ntmps55
    go_wp2_with fail
    refine (H1.out _ hT).mono ?_
    rintro e w1 ⟨rfl, hb1⟩
    go_wp2_with fail
    go_ret
    exact ⟨rfl, hb1⟩

end Go.Proofs.YtdnldfgolbcjiaaDoor
