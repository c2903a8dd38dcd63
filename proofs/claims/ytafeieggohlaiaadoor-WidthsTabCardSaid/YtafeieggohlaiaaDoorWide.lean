/-
  The chapter's examples: wide() returns true; the two tables are as the program's text lays them.
-/
import Derived.Test.YtafeieggohlaiaaDoorText
namespace Go.Proofs.YtafeieggohlaiaaDoor
open Go.RowKit

theorem wd_1 (w : World) (hT : TabW w) : Calls Tryd.prog 8 #[.int .i32 97] w fun e w' => e = .returned (.int .i64 1) ∧ Below w.heap.size w w' := of_any 97 w hT
theorem wd_2 (w : World) (hT : TabW w) : Calls Tryd.prog 8 #[.int .i32 26085] w fun e w' => e = .returned (.int .i64 2) ∧ Below w.heap.size w w' := of_any 26085 w hT
theorem wd_3 (w : World) (hT : TabW w) : Calls Tryd.prog 8 #[.int .i32 9] w fun e w' => e = .returned (.int .i64 0) ∧ Below w.heap.size w w' := of_any 9 w hT
theorem wd_4 (w : World) (hT : TabW w) : Calls Tryd.prog 8 #[.int .i32 769] w fun e w' => e = .returned (.int .i64 0) ∧ Below w.heap.size w w' := of_any 769 w hT
theorem wd_5 (w : World) (hT : TabW w) : Calls Tryd.prog 10 #[.int .i32 9] w fun e w' => e = .returned (.int .i32 65533) ∧ Below w.heap.size w w' := shown_any 9 w hT
theorem wd_6 (w : World) (hT : TabW w) : Calls Tryd.prog 10 #[.int .i32 26085] w fun e w' => e = .returned (.int .i32 26085) ∧ Below w.heap.size w w' := shown_any 26085 w hT
theorem wd_7 (w : World) : Calls Tryd.prog 12 #[.int .i64 0] w fun e w' => e = .returned (.int .i64 8) ∧ w' = w := tab_any 0 w (by decide)
theorem wd_8 (w : World) : Calls Tryd.prog 12 #[.int .i64 7] w fun e w' => e = .returned (.int .i64 1) ∧ w' = w := tab_any 7 w (by decide)
theorem wd_9 (w : World) : Calls Tryd.prog 12 #[.int .i64 8] w fun e w' => e = .returned (.int .i64 8) ∧ w' = w := tab_any 8 w (by decide)
theorem wd_10 (w : World) : Calls Tryd.prog 12 #[.int .i64 (-1)] w fun e w' => e = .returned (.int .i64 8) ∧ w' = w := tab_any (-1) w (by decide)
theorem wd_11 (w : World) (hT : TabW w) : Calls Tryd.prog 15 #[.string ⟨#[97, 230, 151, 165, 204, 129, 255]⟩] w fun e w' => e = .returned (.int .i64 5) ∧ Below w.heap.size w w' := text_any ⟨#[97, 230, 151, 165, 204, 129, 255]⟩ w (by decide) hT

set_option maxRecDepth 100000 in
set_option maxHeartbeats 1000000 in
theorem wide_ex (w : World) (hT : TabW w) :
    Calls Tryd.prog 14 #[] w fun e w' => e = .returned (.bool true) ∧ Below w.heap.size w w' := by
  go_enter Tryd.func14, Tryd.ntmps14
  go_wp2_with fail
  refine (wd_1 _ hT).mono ?_
  rintro e w1 ⟨rfl, b1⟩
  have T1 := hT.below b1
  go_wp2_with fail
  refine (wd_2 _ T1).mono ?_
  rintro e w2 ⟨rfl, b2⟩
  have T2 := T1.below b2
  have k2 := b1.trans (b2.mono b1.size)
  go_wp2_with fail
  refine (wd_3 _ T2).mono ?_
  rintro e w3 ⟨rfl, b3⟩
  have T3 := T2.below b3
  have k3 := k2.trans (b3.mono k2.size)
  go_wp2_with fail
  refine (wd_4 _ T3).mono ?_
  rintro e w4 ⟨rfl, b4⟩
  have T4 := T3.below b4
  have k4 := k3.trans (b4.mono k3.size)
  go_wp2_with fail
  refine (wd_5 _ T4).mono ?_
  rintro e w5 ⟨rfl, b5⟩
  have T5 := T4.below b5
  have k5 := k4.trans (b5.mono k4.size)
  go_wp2_with fail
  refine (wd_6 _ T5).mono ?_
  rintro e w6 ⟨rfl, b6⟩
  have T6 := T5.below b6
  have k6 := k5.trans (b6.mono k5.size)
  go_wp2_with fail
  refine (wd_7 _).mono ?_
  rintro e w7 ⟨rfl, rfl⟩
  go_wp2_with fail
  refine (wd_8 _).mono ?_
  rintro e w8 ⟨rfl, rfl⟩
  go_wp2_with fail
  refine (wd_9 _).mono ?_
  rintro e w9 ⟨rfl, rfl⟩
  go_wp2_with fail
  refine (wd_10 _).mono ?_
  rintro e w10 ⟨rfl, rfl⟩
  go_wp2_with fail
  refine (wd_11 _ T6).mono ?_
  rintro e w11 ⟨rfl, b11⟩
  go_wp2_with fail
  go_ret
  exact ⟨rfl, k6.trans (b11.mono k6.size)⟩
end Go.Proofs.YtafeieggohlaiaaDoor
