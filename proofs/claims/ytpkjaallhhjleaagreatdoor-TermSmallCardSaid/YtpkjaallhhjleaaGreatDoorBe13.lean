/-
  Texts of this proof, one behind the other; each begins with its own remark.
-/
import Derived.Test.YtpkjaallhhjleaaGreatDoorBe12
/-
  grids: sized, within, sameSize, styled, rightOf; limnerref06: may, Blank, Style: what each call returns.
-/
namespace Go.Proofs.YtpkjaallhhjleaaGreatDoor
open Go.RowKit

theorem sizedB_no {a b : Int} (h : ¬ (2 ≤ a ∧ a ≤ 100 ∧ 8 ≤ b ∧ b ≤ 200)) : sizedB a b = false := Bool.eq_false_iff.2 fun k => h ((sizedB_iff a b).1 k)
theorem withinB_no {a b c d : Int} (h : ¬ (0 ≤ c ∧ c < a ∧ 0 ≤ d ∧ d < b)) : withinB a b c d = false := Bool.eq_false_iff.2 fun k => h ((withinB_iff a b c d).1 k)
theorem styB_no {s : Sty} (h : ¬ (0 ≤ s.1 ∧ s.1 ≤ 8)) : styB s = false := Bool.eq_false_iff.2 fun k => h ((styB_iff s).1 k)

theorem sized_any (r c : Int) (w : World) :
    Calls Tryz.prog 40 #[.int .i64 r, .int .i64 c] w fun e w' => e = .returned (.bool (sizedB r c)) ∧ w = w' := by
  go_enter Tryz.func40, Tryz.ntmps40
  go_wp2
  all_goals (go_ret; refine ⟨?_, rfl⟩; first | (rw [(sizedB_iff r c).2 (by omega)]; rfl) | (rw [sizedB_no (by omega)]; rfl) | (show Ending.returned (.bool (decide _)) = .returned (.bool _); congr 2; rw [Bool.eq_iff_iff, sizedB_iff]; simp only [decide_eq_true_eq]; omega))
theorem may_any (r c : Int) (w : World) :
    Calls Tryz.prog 51 #[.int .i64 r, .int .i64 c] w fun e w' => e = .returned (.bool (sizedB r c)) ∧ w = w' := by
  go_enter Tryz.func51, Tryz.ntmps51
  go_wp2
  all_goals (go_ret; refine ⟨?_, rfl⟩; first | (rw [(sizedB_iff r c).2 (by omega)]; rfl) | (rw [sizedB_no (by omega)]; rfl) | (show Ending.returned (.bool (decide _)) = .returned (.bool _); congr 2; rw [Bool.eq_iff_iff, sizedB_iff]; simp only [decide_eq_true_eq]; omega))
theorem blank_any (w : World) :
    Calls Tryz.prog 52 #[] w fun e w' => e = .returned (.agg #[.int .i32 32, .int .i64 1, .int .i64 0, .bool false, .bool false, .bool false]) ∧ Below w.heap.size w w' := by
  go_enter Tryz.func52, Tryz.ntmps52
  go_wp2
  refine bodyPost_ret (v := .agg #[.int .i32 32, .int .i64 1, .int .i64 0, .bool false, .bool false, .bool false]) (by simp [results, Tryz.results52, go_sem]) rfl ⟨rfl, (Below.refl _ w).alloc (Nat.le_refl _) _⟩
theorem within_any {ao : Option Addr} {n cap : Nat} (R C a b r c : Int) (w : World) :
    Calls Tryz.prog 41 #[.agg #[.int .i64 R, .int .i64 C, .slice ao n cap, .int .i64 a, .int .i64 b], .int .i64 r, .int .i64 c] w fun e w' => e = .returned (.bool (withinB R C r c)) ∧ Below w.heap.size w w' := by
  go_enter Tryz.func41, Tryz.ntmps41
  go_wp2
  all_goals (go_ret; refine ⟨?_, (Below.refl _ w).alloc (Nat.le_refl _) _⟩; first | (rw [(withinB_iff R C r c).2 (by omega)]; rfl) | (rw [withinB_no (by omega)]; rfl) | (show Ending.returned (.bool (decide _)) = .returned (.bool _); congr 2; rw [Bool.eq_iff_iff, withinB_iff]; simp only [decide_eq_true_eq]; omega))
theorem styled_any (s : Sty) (w : World) :
    Calls Tryz.prog 105 #[.agg #[.int .i64 s.1, .bool s.2.1, .bool s.2.2.1, .bool s.2.2.2]] w fun e w' => e = .returned (.bool (styB s)) ∧ Below w.heap.size w w' := by
  go_enter Tryz.func105, Tryz.ntmps105
  go_wp2
  all_goals (go_ret; refine ⟨?_, (Below.refl _ w).alloc (Nat.le_refl _) _⟩; first | (rw [(styB_iff s).2 (by omega)]; rfl) | (rw [styB_no (by omega)]; rfl) | (show Ending.returned (.bool (decide _)) = .returned (.bool _); congr 2; rw [Bool.eq_iff_iff, styB_iff]; simp only [decide_eq_true_eq]; omega))
theorem style_any (s : Sty) (w : World) :
    Calls Tryz.prog 103 #[.agg #[.int .i64 s.1, .bool s.2.1, .bool s.2.2.1, .bool s.2.2.2]] w fun e w' => e = .returned (.bool (styB s)) ∧ Below w.heap.size w w' := by
  go_enter Tryz.func103, Tryz.ntmps103
  go_wp2
  all_goals (go_ret; refine ⟨?_, (Below.refl _ w).alloc (Nat.le_refl _) _⟩; first | (rw [(styB_iff s).2 (by omega)]; rfl) | (rw [styB_no (by omega)]; rfl) | (show Ending.returned (.bool (decide _)) = .returned (.bool _); congr 2; rw [Bool.eq_iff_iff, styB_iff]; simp only [decide_eq_true_eq]; omega))
theorem sameSize_any {ao ao2 : Option Addr} {n cap n2 cap2 : Nat} (R C a b R2 C2 a2 b2 : Int) (w : World) :
    Calls Tryz.prog 37 #[.agg #[.int .i64 R, .int .i64 C, .slice ao n cap, .int .i64 a, .int .i64 b], .agg #[.int .i64 R2, .int .i64 C2, .slice ao2 n2 cap2, .int .i64 a2, .int .i64 b2]] w fun e w' => e = .returned (.bool (decide (R = R2) && decide (C = C2))) ∧ Below w.heap.size w w' := by
  by_cases h1 : R = R2
  · subst h1
    by_cases h2 : C = C2
    · subst h2
      go_enter Tryz.func37, Tryz.ntmps37
      go_wp2
      go_ret
      exact ⟨by simp, ((Below.refl _ w).alloc (Nat.le_refl _) _).alloc (by simp) _⟩
    · have h2' : (C == C2) = false := by simpa using h2
      rw [decide_eq_true (rfl : R = R), decide_eq_false h2]
      have H2 := Lib.hid h2
      clear h2
      go_enter Tryz.func37, Tryz.ntmps37
      go_wp2
      go_ret
      exact ⟨by simp, ((Below.refl _ w).alloc (Nat.le_refl _) _).alloc (by simp) _⟩
  · have h1' : (R == R2) = false := by simpa using h1
    rw [decide_eq_false h1, Bool.false_and]
    clear h1
    go_enter Tryz.func37, Tryz.ntmps37
    go_wp2
    all_goals go_ret
    all_goals exact ⟨by simp, ((Below.refl _ w).alloc (Nat.le_refl _) _).alloc (by simp) _⟩
end Go.Proofs.YtpkjaallhhjleaaGreatDoor

/-
  grids.rightOf: what it returns: for every two cells.
-/
namespace Go.Proofs.YtpkjaallhhjleaaGreatDoor
open Go.RowKit

set_option maxHeartbeats 1000000 in
theorem rightOf_any (l c : Cel) (w : World) :
    Calls Tryz.prog 106 #[.agg #[.int .i32 l.1, .int .i64 l.2.1, .int .i64 l.2.2.1, .bool l.2.2.2.1, .bool l.2.2.2.2.1, .bool l.2.2.2.2.2], .agg #[.int .i32 c.1, .int .i64 c.2.1, .int .i64 c.2.2.1, .bool c.2.2.2.1, .bool c.2.2.2.2.1, .bool c.2.2.2.2.2]] w fun e w' => e = .returned (.bool (decide (c = halfC l.2.2))) ∧ Below w.heap.size w w' := by
  have hs := fun w => sty_eql c.2.2 l.2.2 w
  have hd : decide (c = halfC l.2.2) = (decide (c.1 = 0) && (decide (c.2.1 = 0) && decide (c.2.2 = l.2.2))) := by
    rw [Bool.eq_iff_iff]
    simp only [decide_eq_true_eq, Bool.and_eq_true, halfC, Prod.ext_iff]
  rw [hd]
  clear hd
  generalize decide (c.2.2 = l.2.2) = B at *
  by_cases h1 : c.1 = 0
  · have b1 : (c.1 == 0) = true := by simpa using h1
    rw [decide_eq_true h1, Bool.true_and]
    clear h1
    by_cases h2 : c.2.1 = 0
    · have b2 : (c.2.1 == 0) = true := by simpa using h2
      rw [decide_eq_true h2, Bool.true_and]
      clear h2
      go_enter Tryz.func106, Tryz.ntmps106
      go_wp2
      go_ret
      exact ⟨rfl, ((Below.refl _ w).alloc (Nat.le_refl _) _).alloc (by simp) _⟩
    · have b2 : (c.2.1 == 0) = false := by simpa using h2
      rw [decide_eq_false h2, Bool.false_and]
      clear h2 hs
      go_enter Tryz.func106, Tryz.ntmps106
      go_wp2
      go_ret
      exact ⟨rfl, ((Below.refl _ w).alloc (Nat.le_refl _) _).alloc (by simp) _⟩
  · have b1 : (c.1 == 0) = false := by simpa using h1
    rw [decide_eq_false h1, Bool.false_and]
    clear h1 hs
    go_enter Tryz.func106, Tryz.ntmps106
    go_wp2
    go_ret
    exact ⟨rfl, ((Below.refl _ w).alloc (Nat.le_refl _) _).alloc (by simp) _⟩
end Go.Proofs.YtpkjaallhhjleaaGreatDoor
