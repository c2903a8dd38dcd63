/-
  For every rune and column: widths.Of and Shown tell of the rune, of the number below it and of the one above it, what limnerref02 tells; Tab tells of the column what limnerref02.Tab tells; and wide() holds. So limnerlaw02.WidthsOf returns true. No condition but that the two tables read as the program's text lays them, which the card ties.
-/
import Derived.Test.YtafeieggohlaiaaDoorWide
import Derived.Test.YtafeieggohlaiaaDoorRefOf
import Derived.Test.YtafeieggohlaiaaDoorRefTab
import Derived.Test.YtafeieggohlaiaaDoorLaid
namespace Go.Proofs.YtafeieggohlaiaaDoor
open Go.ChangeShapes Go.WideShapes Go.ChangeAt Go.RowKit
open Go.ChangeMaps (open_string shut_string)

set_option maxRecDepth 100000 in
set_option maxHeartbeats 4000000 in
theorem widthsOf_any (r c : Int) (w : World) (hT : TabW w) (r0 : -2147483648 ≤ r) (r1 : r ≤ 2147483647) (c1 : c ≤ 9223372036854775807) :
    Calls Tryd.prog 3 #[.int .i32 r, .int .i64 c] w fun e w' => e = .returned (.bool true) ∧ Below w.heap.size w w' := by
  have h1 := fun x w hT => of_any x w hT
  have h2 := fun x w => refOf_any x w
  have h3 := fun x w hT => shown_any x w hT
  have h4 := fun x w => refShown_any x w
  have h5 := fun w => tab_any c w c1
  have h6 := fun w => refTab_any c w c1
  obtain ⟨n, hn⟩ : ∃ n, tabN c = n := ⟨_, rfl⟩
  rw [hn] at h5 h6
  have H1 := Lib.hid h1
  have H2 := Lib.hid h2
  have H3 := Lib.hid h3
  have H4 := Lib.hid h4
  have H5 := Lib.hid h5
  have H6 := Lib.hid h6
  clear h1 h2 h3 h4 h5 h6 hn c1
  go_enter Tryd.func3, Tryd.ntmps3
  go_wp2_with fail
  go_loopw [5] (fun k wr => ∃ j : Int, k = .int .i64 j ∧ -1 ≤ j ∧ j ≤ 2 ∧ Below w.heap.size w wr) (fun k _ => (2 - intOf k).toNat)
  case atStart => exact ⟨-1, rfl, by omega, by omega, Below.refl _ _⟩
  case round =>
    obtain ⟨j, rfl, hj0, hj1, hbw⟩ := hrel
    have T := hT.below hbw
    by_cases hj : j = 2
    · subst hj
      go_wp2_with fail
      refine (H5.out _).mono ?_
      rintro e w1 ⟨rfl, rfl⟩
      go_wp2_with fail
      refine (H6.out _).mono ?_
      rintro e w2 ⟨rfl, rfl⟩
      go_wp2_with fail
      refine (wide_ex _ T).mono ?_
      rintro e w3 ⟨rfl, b3⟩
      go_wp2_with fail
      go_ret
      exact ⟨rfl, hbw.trans (b3.mono hbw.size)⟩
    · have hcase : (j = -1 ∧ -2147483648 < r) ∨ (j = -1 ∧ r = -2147483648) ∨ j = 0 ∨ (j = 1 ∧ r < 2147483647) ∨ (j = 1 ∧ r = 2147483647) := by omega
      clear hj hj0 hj1
      rcases hcase with ⟨rfl, hr⟩ | ⟨rfl, rfl⟩ | rfl | ⟨rfl, hr⟩ | ⟨rfl, rfl⟩
      all_goals
        go_wp2_with fail
        refine (H1.out _ _ T).mono ?_
        rintro e w1 ⟨rfl, b1⟩
        have k1 := hbw.trans (b1.mono hbw.size)
        go_wp2_with fail
        refine (H2.out _ _).mono ?_
        rintro e w2 ⟨rfl, b2⟩
        have k2 := k1.trans (b2.mono k1.size)
        go_wp2_with fail
        refine (H3.out _ _ (hT.below k2)).mono ?_
        rintro e w3 ⟨rfl, b3⟩
        have k3 := k2.trans (b3.mono k2.size)
        go_wp2_with fail
        refine (H4.out _ _).mono ?_
        rintro e w4 ⟨rfl, b4⟩
        have k4 := k3.trans (b4.mono k3.size)
        go_wp2_with fail
        go_roundw
        case rel => exact ⟨_, rfl, by omega, by omega, k4⟩
        case measure => simp [intOf]

-- FRAME tabW_of_laid hL
theorem widthsOf_met (os : Os) : laidMet Tryd.prog Rows.widthsOfRow.laid ((laidWorld os).forCall (fun _ _ => 0) ⟨#[], #[.int .i32 0, .int .i64 0], []⟩).memory :=
  laidMet_of_run' 8 (by kernel_rfl) (by kernel_rfl)
theorem widthsOf_reads (os : Os) {H : Type} (enc : TypeId × Value → H) : ∃ places, DataW.whole enc Tryd.prog ((laidWorld os).forCall (fun _ _ => 0) ⟨#[], #[.int .i32 0, .int .i64 0], []⟩).memory Tryd.f3.params.toList Rows.widthsOfSpec.vars false (#[.int .i32 0, .int .i64 0] : Array Value).toList 8 = some ([.lit (.int .i32 0), .lit (.int .i64 0)], [], places) :=
  ⟨[], by kernel_rfl⟩

set_option maxRecDepth 100000 in
theorem widthsOf_lifted (os : Os) (started : os.Started) (H : Type) (enc : TypeId × Value → H) (F : Stop.Interp) :
    ReturnsInHanded {} Tryd.checked os 3 .any ((OpenSpec.ofChange Rows.widthsOfSpec).preRow enc Tryd.prog Tryd.f3 Rows.widthsOfRow.domain false Rows.widthsOfRow.laid) (((OpenSpec.ofChange Rows.widthsOfSpec).at F).post enc Tryd.prog Tryd.f3 false true false false) := by
  obtain ⟨places, hx⟩ := widthsOf_reads os enc
  refine returnsInHanded_of_row (C := Tryd.checked) (s := OpenSpec.ofChange Rows.widthsOfSpec) own started (by kernel_rfl) Tryd.func3
    (witness_row_at (enc := enc) (C := Tryd.checked) false (laidWorld os) #[.int .i32 0, .int .i64 0] rfl (by kernel_rfl) (by kernel_rfl) (by kernel_rfl)
      (OpenSpec.preRow_of_cond 8 hx (by kernel_rfl) (fun k hk => by cases hk) (by kernel_rfl) (widthsOf_met os))) ?_
  intro W base args ds gs before hval0 hW _ _ _ hL _ _
  have hval : ∀ (j : Nat) t v, Tryd.f3.params[j]? = some t → args[j]? = some v → Value.okWide Tryd.prog W .any base t v := hval0
  have hW' := hW
  obtain ⟨p, q, hA0, hV, rfl, hfz, hnd⟩ := hW
  have hA : DataW.TrodAll enc Tryd.prog W 0 (fun _ => true) true Tryd.f3.params.toList args.toList ds p := hA0
  rw [Tryd.params3] at hA hval
  obtain ⟨v0, v1, d0, d1, p0, p1, rfl, rfl, rfl, h0, h1⟩ := trodAll_two hA
  obtain ⟨rfl, rfl⟩ := trodVars_none hV
  obtain ⟨x0, rfl, rfl, rfl, wr0⟩ := open_int Tryd.underlying21 (hval 0 21 v0 rfl rfl) h0
  obtain ⟨x1, rfl, rfl, rfl, wr1⟩ := open_int Tryd.underlying3 (hval 1 3 v1 rfl rfl) h1
  clear hA0 hval0
  simp only [List.append_nil] at hW'
  have rg0 : (-2147483648 : Int) ≤ x0 ∧ x0 ≤ 2147483647 := by
    have h := wr0
    simp only [Lit.wf, Bool.and_eq_true, decide_eq_true_eq] at h
    rwa [show IntKind.i32.min = -2147483648 by decide, show IntKind.i32.max = 2147483647 by decide] at h
  have rg1 : (-9223372036854775808 : Int) ≤ x1 ∧ x1 ≤ 9223372036854775807 := by
    have h := wr1
    simp only [Lit.wf, Bool.and_eq_true, decide_eq_true_eq] at h
    rwa [show IntKind.i64.min = -9223372036854775808 by decide, show IntKind.i64.max = 9223372036854775807 by decide] at h
  refine (widthsOf_any x0 x1 W (tabW_of_laid hL) rg0.1 rg0.2 rg1.2).mono fun e W' ⟨he, hw⟩ => ?_
  subst he
  exact ⟨_, rfl, _, _, _, [], [], [], hW', trodAll_mk1 (shut_bool Tryd.underlying4 _), trodAll_mk2 (shut_int Tryd.underlying21 wr0) (shut_int Tryd.underlying3 wr1), rfl, hw.frame _, fun h => by cases h⟩

theorem widthsOf_said : Rows.WidthsOfSaid :=
  OpenClaim.holds_of_cond 3 Tryd.f3 rfl rfl rfl rfl rfl rfl rfl ⟨rfl, rfl, rfl, rfl, rfl⟩ rfl rfl rfl rfl rfl (by kernel_rfl) Tryd.func3 (by kernel_rfl)
    (of_decide_eq_true (by kernel_rfl)) (by unfold Func.isWrapper; first | (rw [if_pos (by decide +kernel)]; kernel_rfl) | (rw [if_neg (by decide +kernel)]; exact ⟨rfl, rfl⟩))
    (fun os started H enc _ F => by rw [OpenClaim.pre_eq_preRow]; exact widthsOf_lifted os started H enc F)

/-- No parameter wants a stand-in; the program's own looks are off: what the card asks. -/
theorem widthsOf_plain (f : FuncId) (fn : Func) (hf : Tryd.pinned.checked.prog.funcNamed "limner/limnerlaw02.WidthsOf" = some f) (hfn : Tryd.pinned.checked.prog.funcs[f]? = some fn) :
    false = Tryd.pinned.checked.prog.looks [] ∧ ∀ (j : Nat) t, fn.params[j]? = some t → Tryd.pinned.checked.prog.wantsStandIn t = false := by
  obtain rfl : f = 3 := Option.some.inj ((show Tryd.prog.funcNamed "limner/limnerlaw02.WidthsOf" = some 3 by kernel_rfl).symm.trans hf) |>.symm
  obtain rfl : fn = Tryd.f3 := (Option.some.inj (Tryd.func3.symm.trans hfn)).symm
  refine ⟨by kernel_rfl, fun j t ht => ?_⟩
  rw [Tryd.params3] at ht
  have hm := Array.mem_of_getElem? ht
  simp only [List.mem_toArray, List.mem_cons, List.not_mem_nil, or_false] at hm
  rcases hm with rfl | rfl
  · exact (show Tryd.prog.wantsStandIn 21 = false by kernel_rfl)
  · exact (show Tryd.prog.wantsStandIn 3 = false by kernel_rfl)

theorem widthsOf_card : Rows.WidthsOfCardSaid :=
  Claim7.holds_tied_plain_at .later [] _ _ _ _ widthsOf_said (fun _ h => by cases h) (by kernel_rfl) (fun _ h => by cases h) widthsOf_row_tie rfl ⟨rfl, rfl⟩ (by kernel_rfl) rfl widthsOf_plain (by kernel_rfl)
end Go.Proofs.YtafeieggohlaiaaDoor
