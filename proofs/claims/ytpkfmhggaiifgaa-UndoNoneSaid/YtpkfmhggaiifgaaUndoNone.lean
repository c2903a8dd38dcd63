/-
  For any cursor and group: an undo that is none tells nothing and takes nothing, and a text that is none is no change; so the law returns true. No condition.
-/
import Derived.Test.YtpkfmhggaiifgaaUnDone
import Derived.ProofKit
import Derived.Lib.SmallJoins
import Derived.OpenShut
import Derived.Carry
namespace Go.Proofs.Ytpkfmhggaiifgaa
open Go.ChangeShapes Go.WideShapes Go.ChangeAt Go.RowKit

/-- What stands in the slot is none, and what was is as it was. -/
def RoundN (w wr : World) (v : Value) : Prop := NoneU wr v ∧ Below w.heap.size w wr
theorem RoundN.shape {w wr : World} {v : Value} (h : RoundN w wr v) : ∃ p, v = .pointer p := by
  rcases h.1 with h | ⟨b, h, _⟩
  · exact ⟨_, h⟩
  · exact ⟨_, h⟩

set_option maxRecDepth 100000 in
set_option maxHeartbeats 4000000 in
theorem undoNone_any (c g : Int) (w : World) :
    Calls Try.prog 4 #[.int .i64 c, .int .i64 g] w fun e w' => e = .returned (.bool true) ∧ Below w.heap.size w w' := by
  go_enter Try.func4, Try.ntmps4
  go_wp2
  go_loopw [5, 6] (fun s5 s6 wr => ∃ t : Int, s6 = .int .i64 t ∧ 0 ≤ t ∧ t ≤ 2 ∧ RoundN w wr s5) (fun _ s6 _ => 2 - (intOf s6).toNat)
  case atStart => exact ⟨0, rfl, by decide, by decide, .inl rfl, Below.refl _ _⟩
  case round =>
    obtain ⟨t, rfl, t0, t2, hR⟩ := hrel
    by_cases hlt : t < 2
    · obtain ⟨p, rfl⟩ := hR.shape
      obtain ⟨hN, hb⟩ := hR
      have H1 := Lib.hid (uundo_none wr hN)
      have H2 := Lib.hid (uredo_none wr hN)
      have H3 := Lib.hid (unow_none wr hN)
      have H4 := Lib.hid (umove_none c wr hN)
      have H5 := Lib.hid (utext_any (ok := fun _ => True) ⟨#[97]⟩ wr (fun _ _ => trivial) (by decide))
      have HN := Lib.hid hN
      have HB := Lib.hid hb
      clear hN hb
      go_wp2_with fail
      go_fit H1.out
      rintro e w2 ⟨rfl, rfl⟩
      go_wp2_with fail
      go_fit H2.out
      rintro e w3 ⟨rfl, rfl⟩
      go_wp2_with fail
      go_fit H3.out
      rintro e w4 ⟨rfl, rfl⟩
      go_wp2_with fail
      go_fit H4.out
      rintro e w5 ⟨rfl, rfl⟩
      clear H1 H2 H3 H4
      go_wp2_with fail
      go_fit H5.out
      rintro e w6 ⟨⟨b, rfl, T⟩, k6⟩
      have H6 := Lib.hid (udo_none (.pointer (some ⟨b, 0, none⟩)) c g w6 (HN.out.below k6))
      have H7 := Lib.hid (usay_none w6 (HN.out.below k6))
      have HB6 := Lib.hid (HB.out.trans (k6.mono HB.out.size))
      clear T k6 H5 HB HN
      go_wp2_with fail
      go_fit H6.out
      rintro e w7 ⟨rfl, rfl⟩
      go_wp2_with fail
      go_fit H7.out
      rintro e w8 ⟨rfl, k8⟩
      have HB8 := Lib.hid (HB6.out.trans (k8.mono HB6.out.size))
      clear k8 H6 H7 HB6
      go_wp2
      go_roundw
      case rel =>
        refine ⟨t + 1, rfl, by omega, by omega, .inr ⟨_, rfl, ?_⟩, HB8.out.alloc HB8.out.size _⟩
        rw [cell_of_row _ _ _ _ _ (0, 0) (heap_alloc_new w8 _)]
        rfl
      case measure => simp [intOf]; omega
    · have hb := hR.2
      clear hR
      have H1 := Lib.hid (utext_any (ok := fun _ => True) ⟨#[97]⟩ wr (fun _ _ => trivial) (by decide))
      go_wp2_with fail
      go_fit H1.out
      rintro e w2 ⟨⟨b, rfl, T⟩, k2⟩
      have H2 := Lib.hid (unew_any c w2 T)
      have l2 := hb.trans (k2.mono hb.size)
      clear T k2 hb H1
      go_wp2_with fail
      go_fit H2.out
      rintro e w3 ⟨rfl, k3, s3, Z3⟩
      obtain ⟨U, hU⟩ : ∃ U, w2.heap.size = U := ⟨_, rfl⟩
      have u1 : w.heap.size ≤ U := by rw [← hU]; exact l2.size
      rw [hU] at k3 s3 Z3 ⊢
      have l3 := l2.trans (k3.mono u1)
      have v3 : U < w3.heap.size := by omega
      have HZ3 := Lib.hid Z3
      have H3 := Lib.hid (unow_any w3 Z3)
      clear hU s3 Z3 l2 k3 H2
      go_wp2_with fail
      go_fit H3.out
      rintro e w4 ⟨rfl, k4⟩
      have v4 : U < w4.heap.size := Nat.lt_of_lt_of_le v3 k4.size
      have l4 := l3.trans (k4.mono (Nat.le_trans u1 (Nat.le_of_lt v3)))
      have HZ4 := Lib.hid (HZ3.out.below k4)
      have H4 := Lib.hid (unew_nil c w4)
      have H5 := Lib.hid (udo_nil c g w4 HZ4.out)
      have H6 := Lib.hid (usay_at (x := 0) (y := 0) w4 HZ4.out rfl rfl)
      clear H3 k4 l3 HZ3 v3
      go_wp2_with fail
      go_fit H4.out
      rintro e w5 ⟨rfl, rfl⟩
      go_wp2_with fail
      go_fit H5.out
      rintro e w6 ⟨rfl, rfl⟩
      go_wp2_with fail
      go_fit H6.out
      rintro e w7 ⟨rfl, k7⟩
      have v7 : U < w7.heap.size := Nat.lt_of_lt_of_le v4 k7.size
      have l7 := l4.trans (k7.mono (Nat.le_trans u1 (Nat.le_of_lt v4)))
      have T7 : TextP (fun k => k ≠ U) w7 b ⟨#[97]⟩ := (HZ4.out.below k7).text
      have H7 := Lib.hid (uis_any c w7 T7)
      clear k7 T7 HZ4 H4 H5 H6 l4 v4
      go_wp2_with fail
      go_fit H7.out
      rintro e w8 ⟨rfl, k8⟩
      have l8 := l7.trans (k8.mono (Nat.le_trans u1 (Nat.le_of_lt v7)))
      have H8 := Lib.hid (undone_any w8)
      clear k8 H7 l7 v7
      go_wp2_with fail
      go_fit H8.out
      rintro e w9 ⟨rfl, k9⟩
      have l9 := l8.trans (k9.mono l8.size)
      go_wp2
      go_ret
      exact ⟨rfl, l9⟩

-- FRAME
theorem undoNone_own : ownKnob Try.prog.godebug = none := by kernel_rfl

set_option maxRecDepth 100000 in
theorem undoNone_lifted (os : Os) (started : os.Started) (H : Type) (enc : TypeId × Value → H) :
    ReturnsInHanded {} Try.checked os 4 .any (Rows.undoNoneSpec.pre6 enc Try.prog Try.f4 Rows.undoNoneRow.domain false) (Rows.undoNoneSpec.post enc Try.prog Try.f4 false true false false) := by
  refine returnsInHanded_of_change (C := Try.checked) undoNone_own started (by kernel_rfl) Try.func4
    (ChangeSpec.witness6 (enc := enc) (C := Try.checked) false ⟨#[], #[.int .i64 0, .int .i64 0], []⟩ 8 (by kernel_rfl) (by kernel_rfl) (by kernel_rfl) (by kernel_rfl)) ?_
  intro W base args ds gs before hval0 hW hcnd _
  have hval : ∀ (j : Nat) t v, Try.f4.params[j]? = some t → args[j]? = some v → Value.okWide Try.prog W .any base t v := hval0
  have hW' := hW
  obtain ⟨p, q, hA0, hV, rfl, hfz, hnd⟩ := hW
  have hA : DataW.TrodAll enc Try.prog W 0 (fun _ => true) true Try.f4.params.toList args.toList ds p := hA0
  rw [Try.params4] at hA hval
  obtain ⟨v0, v1, d0, d1, p0, p1, rfl, rfl, rfl, h0, h1⟩ := trodAll_two hA
  obtain ⟨rfl, rfl⟩ := trodVars_none hV
  obtain ⟨x0, rfl, rfl, rfl, wr0⟩ := open_int Try.underlying3 (hval 0 3 v0 rfl rfl) h0
  obtain ⟨x1, rfl, rfl, rfl, wr1⟩ := open_int Try.underlying3 (hval 1 3 v1 rfl rfl) h1
  clear hA0 hval0
  simp only [List.append_nil] at hW'
  refine (undoNone_any x0 x1 W).mono fun e W' ⟨he, hw⟩ => ?_
  subst he
  exact ⟨_, rfl, _, _, _, [], [], [], hW', trodAll_mk1 (shut_bool Try.underlying4 _), trodAll_mk2 (shut_int Try.underlying3 wr0) (shut_int Try.underlying3 wr1), rfl, hw.frame _, fun h => by cases h⟩

theorem undoNone_holds : Rows.UndoNoneSaid :=
  OpenClaim.holds_of_wide 4 Try.f4 rfl rfl rfl rfl rfl rfl rfl ⟨rfl, rfl, rfl, rfl, rfl⟩ rfl rfl rfl rfl rfl (by kernel_rfl) Try.func4 (by kernel_rfl)
    (of_decide_eq_true (by kernel_rfl)) (by unfold Func.isWrapper; first | (rw [if_pos (by decide +kernel)]; kernel_rfl) | (rw [if_neg (by decide +kernel)]; exact ⟨rfl, rfl⟩))
    (fun os started H enc _ => undoNone_lifted os started H enc)
end Go.Proofs.Ytpkfmhggaiifgaa
