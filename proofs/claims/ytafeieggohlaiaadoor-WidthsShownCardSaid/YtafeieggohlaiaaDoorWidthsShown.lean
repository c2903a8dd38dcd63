/-
  For every rune r, with s = Shown(r) and n = Of(r): Shown(s) is s; Of(s) is 1 or 2; n is 0, 1 or 2; s is r if n is not 0, and FFFD otherwise; r's own bytes, if there are any, take Of(s) cells, and if there are none n is 0; and wide() holds. So limnerlaw02.WidthsShown returns true. No condition but that the two tables read as the program's text lays them, which the card ties.
-/
import Derived.Test.YtafeieggohlaiaaDoorWide
import Derived.Test.YtafeieggohlaiaaDoorWidMath
import Derived.Test.YtafeieggohlaiaaDoorLaid
namespace Go.Proofs.YtafeieggohlaiaaDoor
open Go.ChangeShapes Go.WideShapes Go.ChangeAt Go.RowKit
open Go.ChangeMaps (open_string shut_string)

set_option maxRecDepth 100000 in
set_option maxHeartbeats 4000000 in
theorem widthsShown_any (r : Int) (w : World) (hT : TabW w) :
    Calls Tryd.prog 5 #[.int .i32 r] w fun e w' => e = .returned (.bool true) ∧ Below w.heap.size w w' := by
  have h1 := fun w hT => shown_any r w hT
  have h2 := fun w hT => of_any r w hT
  have h3 := fun w hT => shown_any (shI r) w hT
  have h4 := fun w hT => of_any (shI r) w hT
  have h5 := fun w => putB_any r w
  have h6 := fun w hs hT => text_any (putB r) w hs hT
  have hos := of_sh r
  have hpe := put_none r
  have hpt := txN_put r
  rw [sh_sh] at h3
  have hor : hidB r = true ∧ shI r = 65533 ∧ ofN r = 0 ∨ hidB r = false ∧ shI r = r ∧ ofN r = ofN (shI r) := by
    cases hh : hidB r
    · have e : shI r = r := by unfold shI; rw [hh]; rfl
      exact .inr ⟨rfl, e, by rw [e]⟩
    · exact .inl ⟨rfl, by unfold shI; rw [hh]; rfl, by unfold ofN; rw [hh]; rfl⟩
  have hvd : Lib.validRune r = false → hidB r = true := fun h => by unfold hidB; rw [h]; simp
  obtain ⟨Z, hZ⟩ : ∃ Z, putB r = Z := ⟨_, rfl⟩
  obtain ⟨y, hy⟩ : ∃ y, ofN (shI r) = y := ⟨_, rfl⟩
  rw [hZ] at h5 h6 hpe hpt
  rw [hy] at h4 hos hor hpt
  have i1 : (1 : Int) ≤ (y : Int) := by omega
  have i2 : (y : Int) ≤ 2 := by omega
  clear hos hZ hy
  cases hvr : Lib.validRune r
  · obtain ⟨hh, es, eo⟩ : hidB r = true ∧ shI r = 65533 ∧ ofN r = 0 := by
      rcases hor with h | h
      · exact h
      · have := hvd hvr; rw [h.1] at this; cases this
    rw [es] at h1 h3 h4
    rw [eo] at h2
    rw [hvr] at hpe
    have H1 := Lib.hid h1
    have H2 := Lib.hid h2
    have H3 := Lib.hid h3
    have H4 := Lib.hid h4
    have H5 := Lib.hid h5
    clear h1 h2 h3 h4 h5 h6 hh es eo hvr hor hvd hpt
    go_enter Tryd.func5, Tryd.ntmps5
    go_wp2_with fail
    refine (H1.out _ hT).mono ?_
    rintro e w1 ⟨rfl, b1⟩
    go_wp2_with fail
    refine (H2.out _ (hT.below b1)).mono ?_
    rintro e w2 ⟨rfl, b2⟩
    have k2 := b1.trans (b2.mono b1.size)
    go_wp2_with fail
    refine (H3.out _ (hT.below k2)).mono ?_
    rintro e w3 ⟨rfl, b3⟩
    have k3 := k2.trans (b3.mono k2.size)
    go_wp2_with fail
    refine (H4.out _ (hT.below k3)).mono ?_
    rintro e w4 ⟨rfl, b4⟩
    have k4 := k3.trans (b4.mono k3.size)
    go_wp2_with fail
    refine (H4.out _ (hT.below k4)).mono ?_
    rintro e w5 ⟨rfl, b5⟩
    have k5 := k4.trans (b5.mono k4.size)
    go_wp2_with fail
    refine (H5.out _).mono ?_
    rintro e w6 ⟨rfl, rfl⟩
    go_wp2_with fail
    refine (wide_ex _ (hT.below k5)).mono ?_
    rintro e w9 ⟨rfl, b9⟩
    go_wp2_with fail
    go_ret
    exact ⟨rfl, k5.trans (b9.mono k5.size)⟩
  · obtain ⟨e1, e2, e3⟩ := hpt hvr
    have h7 := fun w hT => h6 w (by omega) hT
    rw [e1] at h7
    have q1 : (!Z.toList.isEmpty) = true := by rw [e2]; rfl
    clear hpe hpt e1 e3 h6 hvd hvr
    rcases hor with ⟨hh, es, eo⟩ | ⟨hh, es, eo⟩
    · rw [es] at h1 h3 h4
      rw [eo] at h2
      have H1 := Lib.hid h1
      have H2 := Lib.hid h2
      have H3 := Lib.hid h3
      have H4 := Lib.hid h4
      have H5 := Lib.hid h5
      have H7 := Lib.hid h7
      clear h1 h2 h3 h4 h5 h7 hh es eo
      go_enter Tryd.func5, Tryd.ntmps5
      go_wp2_with fail
      refine (H1.out _ hT).mono ?_
      rintro e w1 ⟨rfl, b1⟩
      go_wp2_with fail
      refine (H2.out _ (hT.below b1)).mono ?_
      rintro e w2 ⟨rfl, b2⟩
      have k2 := b1.trans (b2.mono b1.size)
      go_wp2_with fail
      refine (H3.out _ (hT.below k2)).mono ?_
      rintro e w3 ⟨rfl, b3⟩
      have k3 := k2.trans (b3.mono k2.size)
      go_wp2_with fail
      refine (H4.out _ (hT.below k3)).mono ?_
      rintro e w4 ⟨rfl, b4⟩
      have k4 := k3.trans (b4.mono k3.size)
      go_wp2_with fail
      refine (H4.out _ (hT.below k4)).mono ?_
      rintro e w5 ⟨rfl, b5⟩
      have k5 := k4.trans (b5.mono k4.size)
      go_wp2_with fail
      refine (H5.out _).mono ?_
      rintro e w6 ⟨rfl, rfl⟩
      go_wp2_with fail
      refine (H7.out _ (hT.below k5)).mono ?_
      rintro e w7 ⟨rfl, b7⟩
      have k7 := k5.trans (b7.mono k5.size)
      go_wp2_with fail
      refine (H4.out _ (hT.below k7)).mono ?_
      rintro e w8 ⟨rfl, b8⟩
      have k8 := k7.trans (b8.mono k7.size)
      go_wp2_with fail
      refine (wide_ex _ (hT.below k8)).mono ?_
      rintro e w9 ⟨rfl, b9⟩
      go_wp2_with fail
      go_ret
      exact ⟨rfl, k8.trans (b9.mono k8.size)⟩
    · rw [es] at h1 h3 h4
      rw [eo] at h2
      have i3 : (0 : Int) < (y : Int) := by omega
      have q2 : ((y : Int) == 0) = false := by rw [beq_eq_false_iff_ne]; omega
      have H1 := Lib.hid h1
      have H2 := Lib.hid h2
      have H3 := Lib.hid h3
      have H4 := Lib.hid h4
      have H5 := Lib.hid h5
      have H7 := Lib.hid h7
      clear h1 h2 h3 h4 h5 h7 hh es eo
      go_enter Tryd.func5, Tryd.ntmps5
      go_wp2_with fail
      refine (H1.out _ hT).mono ?_
      rintro e w1 ⟨rfl, b1⟩
      go_wp2_with fail
      refine (H2.out _ (hT.below b1)).mono ?_
      rintro e w2 ⟨rfl, b2⟩
      have k2 := b1.trans (b2.mono b1.size)
      go_wp2_with fail
      refine (H3.out _ (hT.below k2)).mono ?_
      rintro e w3 ⟨rfl, b3⟩
      have k3 := k2.trans (b3.mono k2.size)
      go_wp2_with fail
      refine (H4.out _ (hT.below k3)).mono ?_
      rintro e w4 ⟨rfl, b4⟩
      have k4 := k3.trans (b4.mono k3.size)
      go_wp2_with fail
      refine (H4.out _ (hT.below k4)).mono ?_
      rintro e w5 ⟨rfl, b5⟩
      have k5 := k4.trans (b5.mono k4.size)
      go_wp2_with fail
      refine (H5.out _).mono ?_
      rintro e w6 ⟨rfl, rfl⟩
      go_wp2_with fail
      refine (H7.out _ (hT.below k5)).mono ?_
      rintro e w7 ⟨rfl, b7⟩
      have k7 := k5.trans (b7.mono k5.size)
      go_wp2_with fail
      refine (H4.out _ (hT.below k7)).mono ?_
      rintro e w8 ⟨rfl, b8⟩
      have k8 := k7.trans (b8.mono k7.size)
      go_wp2_with fail
      refine (wide_ex _ (hT.below k8)).mono ?_
      rintro e w9 ⟨rfl, b9⟩
      go_wp2_with fail
      go_ret
      exact ⟨rfl, k8.trans (b9.mono k8.size)⟩

-- FRAME tabW_of_laid hL
theorem widthsShown_met (os : Os) : laidMet Tryd.prog Rows.widthsShownRow.laid ((laidWorld os).forCall (fun _ _ => 0) ⟨#[], #[.int .i32 0], []⟩).memory :=
  laidMet_of_run' 8 (by kernel_rfl) (by kernel_rfl)
theorem widthsShown_reads (os : Os) {H : Type} (enc : TypeId × Value → H) : ∃ places, DataW.whole enc Tryd.prog ((laidWorld os).forCall (fun _ _ => 0) ⟨#[], #[.int .i32 0], []⟩).memory Tryd.f5.params.toList Rows.widthsShownSpec.vars false (#[.int .i32 0] : Array Value).toList 8 = some ([.lit (.int .i32 0)], [], places) :=
  ⟨[], by kernel_rfl⟩

set_option maxRecDepth 100000 in
theorem widthsShown_lifted (os : Os) (started : os.Started) (H : Type) (enc : TypeId × Value → H) (F : Stop.Interp) :
    ReturnsInHanded {} Tryd.checked os 5 .any ((OpenSpec.ofChange Rows.widthsShownSpec).preRow enc Tryd.prog Tryd.f5 Rows.widthsShownRow.domain false Rows.widthsShownRow.laid) (((OpenSpec.ofChange Rows.widthsShownSpec).at F).post enc Tryd.prog Tryd.f5 false true false false) := by
  obtain ⟨places, hx⟩ := widthsShown_reads os enc
  refine returnsInHanded_of_row (C := Tryd.checked) (s := OpenSpec.ofChange Rows.widthsShownSpec) own started (by kernel_rfl) Tryd.func5
    (witness_row_at (enc := enc) (C := Tryd.checked) false (laidWorld os) #[.int .i32 0] rfl (by kernel_rfl) (by kernel_rfl) (by kernel_rfl)
      (OpenSpec.preRow_of_cond 8 hx (by kernel_rfl) (fun k hk => by cases hk) (by kernel_rfl) (widthsShown_met os))) ?_
  intro W base args ds gs before hval0 hW _ _ _ hL _ _
  have hval : ∀ (j : Nat) t v, Tryd.f5.params[j]? = some t → args[j]? = some v → Value.okWide Tryd.prog W .any base t v := hval0
  have hW' := hW
  obtain ⟨p, q, hA0, hV, rfl, hfz, hnd⟩ := hW
  have hA : DataW.TrodAll enc Tryd.prog W 0 (fun _ => true) true Tryd.f5.params.toList args.toList ds p := hA0
  rw [Tryd.params5] at hA hval
  obtain ⟨v0, d0, rfl, rfl, h0⟩ := trodAll_one hA
  obtain ⟨rfl, rfl⟩ := trodVars_none hV
  obtain ⟨x0, rfl, rfl, rfl, wr0⟩ := open_int Tryd.underlying21 (hval 0 21 v0 rfl rfl) h0
  clear hA0 hval0
  simp only [List.append_nil] at hW'
  refine (widthsShown_any x0 W (tabW_of_laid hL)).mono fun e W' ⟨he, hw⟩ => ?_
  subst he
  exact ⟨_, rfl, _, _, _, [], [], [], hW', trodAll_mk1 (shut_bool Tryd.underlying4 _), trodAll_mk1 (shut_int Tryd.underlying21 wr0), rfl, hw.frame _, fun h => by cases h⟩

theorem widthsShown_said : Rows.WidthsShownSaid :=
  OpenClaim.holds_of_cond 5 Tryd.f5 rfl rfl rfl rfl rfl rfl rfl ⟨rfl, rfl, rfl, rfl, rfl⟩ rfl rfl rfl rfl rfl (by kernel_rfl) Tryd.func5 (by kernel_rfl)
    (of_decide_eq_true (by kernel_rfl)) (by unfold Func.isWrapper; first | (rw [if_pos (by decide +kernel)]; kernel_rfl) | (rw [if_neg (by decide +kernel)]; exact ⟨rfl, rfl⟩))
    (fun os started H enc _ F => by rw [OpenClaim.pre_eq_preRow]; exact widthsShown_lifted os started H enc F)

/-- No parameter wants a stand-in; the program's own looks are off: what the card asks. -/
theorem widthsShown_plain (f : FuncId) (fn : Func) (hf : Tryd.pinned.checked.prog.funcNamed "limner/limnerlaw02.WidthsShown" = some f) (hfn : Tryd.pinned.checked.prog.funcs[f]? = some fn) :
    false = Tryd.pinned.checked.prog.looks [] ∧ ∀ (j : Nat) t, fn.params[j]? = some t → Tryd.pinned.checked.prog.wantsStandIn t = false := by
  obtain rfl : f = 5 := Option.some.inj ((show Tryd.prog.funcNamed "limner/limnerlaw02.WidthsShown" = some 5 by kernel_rfl).symm.trans hf) |>.symm
  obtain rfl : fn = Tryd.f5 := (Option.some.inj (Tryd.func5.symm.trans hfn)).symm
  refine ⟨by kernel_rfl, fun j t ht => ?_⟩
  rw [Tryd.params5] at ht
  have hm := Array.mem_of_getElem? ht
  simp only [List.mem_toArray, List.mem_cons, List.not_mem_nil, or_false] at hm
  subst hm
  exact (show Tryd.prog.wantsStandIn 21 = false by kernel_rfl)

theorem widthsShown_card : Rows.WidthsShownCardSaid :=
  Claim7.holds_tied_plain_at .later [] _ _ _ _ widthsShown_said (fun _ h => by cases h) (by kernel_rfl) (fun _ h => by cases h) widthsShown_row_tie rfl ⟨rfl, rfl⟩ (by kernel_rfl) rfl widthsShown_plain (by kernel_rfl)
end Go.Proofs.YtafeieggohlaiaaDoor
