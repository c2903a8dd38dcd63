/-
  The chapter's examples: read() returns true, in whatever memory.
-/
import Derived.Test.YtfnpngffdjjpbaaInts
import Derived.Deep.RegionWith
import Derived.Deep.RegionHeld3
import Derived.StillTailTactics
namespace Go.Proofs.Ytfnpngffdjjpbaa
open Go.RowKit

def aE : ByteArray := ⟨#[97, 195, 169]⟩
def aF : ByteArray := ⟨#[97, 195, 169, 255]⟩

theorem rd_n1 (w : World) : Calls Try.prog 10 #[.string ⟨#[97, 195, 169]⟩, .int .i64 1] w fun e w' => e = .returned (.tuple #[.int .i32 233, .int .i64 2, .bool true]) ∧ Below w.heap.size w w' :=
  next_in ⟨#[97, 195, 169]⟩ 1 w (by decide) (by decide) (by decide)
theorem rd_n2 (w : World) : Calls Try.prog 10 #[.string ⟨#[97, 195, 169]⟩, .int .i64 2] w fun e w' => e = .returned (.tuple #[.int .i32 65533, .int .i64 1, .bool false]) ∧ Below w.heap.size w w' :=
  next_in ⟨#[97, 195, 169]⟩ 2 w (by decide) (by decide) (by decide)
theorem rd_n3 (w : World) : Calls Try.prog 10 #[.string ⟨#[97, 195, 169]⟩, .int .i64 3] w fun e w' => e = .returned (.tuple #[.int .i32 0, .int .i64 0, .bool false]) ∧ w' = w :=
  next_out ⟨#[97, 195, 169]⟩ 3 w (by decide)
theorem rd_b3 (w : World) : Calls Try.prog 12 #[.string ⟨#[97, 195, 169]⟩, .int .i64 3] w fun e w' => e = .returned (.tuple #[.int .i32 233, .int .i64 2, .bool true]) ∧ Below w.heap.size w w' :=
  back_in ⟨#[97, 195, 169]⟩ 3 w (by decide) (by decide) (by decide) ⟨#[97, 195, 169]⟩ rfl
theorem rd_b2 (w : World) : Calls Try.prog 12 #[.string ⟨#[97, 195, 169]⟩, .int .i64 2] w fun e w' => e = .returned (.tuple #[.int .i32 65533, .int .i64 1, .bool false]) ∧ Below w.heap.size w w' :=
  back_in ⟨#[97, 195, 169]⟩ 2 w (by decide) (by decide) (by decide) ⟨#[97, 195]⟩ rfl
theorem rd_st (w : World) : Calls Try.prog 16 #[.string ⟨#[97, 195, 169, 255]⟩] w fun e w' => ∃ v, e = .returned v ∧ w'.ownsRow (w.heap.size + 1) 3 1 v 3 (ints [0, 1, 3]) ∧ Below w.heap.size w w' :=
  starts_any ⟨#[97, 195, 169, 255]⟩ w (by decide)
theorem rd_ct (w : World) : Calls Try.prog 17 #[.string ⟨#[97, 195, 169, 255]⟩] w fun e w' => e = .returned (.int .i64 3) ∧ Below w.heap.size w w' :=
  count_any ⟨#[97, 195, 169, 255]⟩ w (by decide)
theorem rd_va (w : World) : Calls Try.prog 18 #[.string ⟨#[97, 195, 169, 255]⟩] w fun e w' => e = .returned (.bool false) ∧ Below w.heap.size w w' :=
  valid_any ⟨#[97, 195, 169, 255]⟩ w (by decide)
theorem rd_p1 (w : World) : Calls Try.prog 20 #[.int .i32 8364] w fun e w' => e = .returned (.string ⟨#[226, 130, 172]⟩) ∧ w' = w :=
  put_any 8364 w
theorem rd_p2 (w : World) : Calls Try.prog 20 #[.int .i32 55296] w fun e w' => e = .returned (.string ⟨#[]⟩) ∧ w' = w :=
  put_any 55296 w
theorem rd_p3 (w : World) : Calls Try.prog 20 #[.int .i32 (-1)] w fun e w' => e = .returned (.string ⟨#[]⟩) ∧ w' = w :=
  put_any (-1) w

set_option maxRecDepth 100000 in
set_option maxHeartbeats 1000000 in
theorem read_any (w : World) :
    Calls Try.prog 9 #[] w fun e w' => e = .returned (.bool true) ∧ Below w.heap.size w w' := by
  go_enter Try.func9, Try.ntmps9
  go_wp2_with fail
  refine (rd_n1 _).mono ?_
  rintro e w1 ⟨rfl, hb1⟩
  go_wp2_with fail
  refine (rd_n2 _).mono ?_
  rintro e w2 ⟨rfl, hb2⟩
  go_wp2_with fail
  refine (rd_n3 _).mono ?_
  rintro e w3 ⟨rfl, rfl⟩
  go_wp2_with fail
  refine (rd_b3 _).mono ?_
  rintro e w4 ⟨rfl, hb4⟩
  go_wp2_with fail
  refine (rd_b2 _).mono ?_
  rintro e w5 ⟨rfl, hb5⟩
  go_wp2_with fail
  refine (rd_st _).mono ?_
  rintro e w6 ⟨v, rfl, hown, hb6⟩
  go_wp2_with fail
  have hlit : (w6.alloc (.cells #[.int .i64 0, .int .i64 1, .int .i64 3] 3)).ownsRow w6.heap.size 3 1 (.slice (some ⟨w6.heap.size, 0, none⟩) 3 3) 3 (ints [0, 1, 3]) :=
    World.ownsRow_lit w6 #[.int .i64 0, .int .i64 1, .int .i64 3] 3 (Nat.le_refl _) (by decide) rfl
  refine (ints_any v _ [0, 1, 3] [0, 1, 3] _ _ _ (hown.alloc _) hlit (by decide)).mono ?_
  rintro e w7 ⟨rfl, hb7⟩
  go_wp2_with fail
  refine (rd_ct _).mono ?_
  rintro e w8 ⟨rfl, hb8⟩
  go_wp2_with fail
  refine (rd_va _).mono ?_
  rintro e w9 ⟨rfl, hb9⟩
  go_wp2_with fail
  refine (rd_p1 _).mono ?_
  rintro e w10 ⟨rfl, rfl⟩
  go_wp2_with fail
  refine (rd_p2 _).mono ?_
  rintro e w11 ⟨rfl, rfl⟩
  go_wp2_with fail
  refine (rd_p3 _).mono ?_
  rintro e w12 ⟨rfl, rfl⟩
  go_wp2_with fail
  go_ret
  refine ⟨rfl, ?_⟩
  have k1 := hb1.size
  have k2 := hb2.size
  have k4 := hb4.size
  have k5 := hb5.size
  have k6 := hb6.size
  have k7 := hb7.size
  have k8 := hb8.size
  have k9 := hb9.size
  have a7 : Below w.heap.size w w7 := (((((hb1.trans (hb2.mono k1)).trans (hb4.mono (by omega))).trans (hb5.mono (by omega))).trans (hb6.mono (by omega))).alloc (by omega) _).trans (hb7.mono (by simp at k7 ⊢; omega))
  exact (a7.trans (hb8.mono a7.size)).trans (hb9.mono (by have := a7.size; omega))
end Go.Proofs.Ytfnpngffdjjpbaa
