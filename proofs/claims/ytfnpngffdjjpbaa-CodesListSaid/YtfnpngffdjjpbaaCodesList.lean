/-
  For every text, where runes stand, how many there are, and whether all bytes are of some, is the document's; the chapter's examples hold: limnerlaw01.CodesList returns true. No condition (a text of more than 3000 bytes: the examples alone, as the law says).
-/
import Derived.Test.YtfnpngffdjjpbaaRefList
import Derived.Test.YtfnpngffdjjpbaaRead
import Derived.ProofKit
namespace Go.Proofs.Ytfnpngffdjjpbaa
open Go.ChangeShapes Go.WideShapes Go.ChangeAt Go.RowKit
open Go.ChangeMaps (open_string shut_string)

set_option maxRecDepth 100000 in
set_option maxHeartbeats 4000000 in
theorem codesList_any (s : ByteArray) (w : World) :
    Calls Try.prog 4 #[.string s] w fun e w' => e = .returned (.bool true) ∧ Below w.heap.size w w' := by
  by_cases h : 3000 < s.size
  · go_enter Try.func4, Try.ntmps4
    go_wp2_with fail
    refine (read_any _).mono ?_
    rintro e w3 ⟨rfl, hb3⟩
    go_wp2_with fail
    go_ret
    exact ⟨rfl, hb3⟩
  · have hl := stA_length s
    have h1 := Lib.hid (fun w => refStarts_any s w (by omega))
    have h2 := Lib.hid (fun w => starts_any s w (by omega))
    have h3 := Lib.hid (fun w => count_any s w (by unfold maxLen; omega))
    have h4 := Lib.hid (fun w => valid_any s w (by unfold maxLen; omega))
    have h5 := Lib.hid (fun w => refValid_any s w (by omega))
    obtain ⟨l, hle⟩ : ∃ l, stA s = l := ⟨_, rfl⟩
    rw [hle] at h1 h2 h3 h4 h5 hl
    obtain ⟨B, hB⟩ : ∃ B, allOk s l = B := ⟨_, rfl⟩
    rw [hB] at h4 h5
    clear hle hB
    go_enter Try.func4, Try.ntmps4
    go_wp2_with fail
    refine (h1.out _).mono ?_
    rintro e w1 ⟨v1, rfl, ho1, hb1⟩
    go_wp2_with fail
    refine (h2.out _).mono ?_
    rintro e w2 ⟨v2, rfl, ho2, hb2⟩
    have ho1' := ownsRow_below ho1 hb2
    go_wp2_with fail
    refine (ints_any v2 v1 l l _ _ _ ho2 ho1' (by omega)).mono ?_
    rintro e w3 ⟨he, hb3⟩
    obtain ⟨A, ca, rfl, _⟩ := slice_of ho1
    rw [decide_eq_true rfl] at he
    subst he
    clear ho1 ho2 ho1'
    go_wp2_with fail
    refine (h3.out _).mono ?_
    rintro e w4 ⟨rfl, hb4⟩
    go_wp2_with fail
    refine (h4.out _).mono ?_
    rintro e w5 ⟨rfl, hb5⟩
    go_wp2_with fail
    refine (h5.out _).mono ?_
    rintro e w6 ⟨rfl, hb6⟩
    go_wp2_with fail
    refine (read_any _).mono ?_
    rintro e w7 ⟨rfl, hb7⟩
    go_wp2_with fail
    go_ret
    have g2 := hb1.trans (hb2.mono hb1.size)
    have g3 := g2.trans (hb3.mono g2.size)
    have g4 := g3.trans (hb4.mono g3.size)
    have g5 := g4.trans (hb5.mono g4.size)
    have g6 := g5.trans (hb6.mono g5.size)
    exact ⟨rfl, g6.trans (hb7.mono g6.size)⟩

theorem listOwn : ownKnob Try.prog.godebug = none := by kernel_rfl

set_option maxRecDepth 100000 in
theorem codesList_lifted (os : Os) (started : os.Started) (H : Type) (enc : TypeId × Value → H) :
    ReturnsInHanded {} Try.checked os 4 .any (Rows.codesListSpec.pre6 enc Try.prog Try.f4 Rows.codesListRow.domain false) (Rows.codesListSpec.post enc Try.prog Try.f4 false true false false) := by
  refine returnsInHanded_of_change (C := Try.checked) listOwn started (by kernel_rfl) Try.func4
    (ChangeSpec.witness6 (enc := enc) (C := Try.checked) false ⟨#[], #[.string ⟨#[]⟩], []⟩ 8 (by kernel_rfl) (by kernel_rfl) (by kernel_rfl) (by kernel_rfl)) ?_
  intro W base args ds gs before hval0 hW hcnd _
  have hval : ∀ (j : Nat) t v, Try.f4.params[j]? = some t → args[j]? = some v → Value.okWide Try.prog W .any base t v := hval0
  have hW' := hW
  obtain ⟨p, q, hA0, hV, rfl, hfz, hnd⟩ := hW
  have hA : DataW.TrodAll enc Try.prog W 0 (fun _ => true) true Try.f4.params.toList args.toList ds p := hA0
  rw [Try.params4] at hA hval
  obtain ⟨v0, d0, rfl, rfl, h0⟩ := trodAll_one hA
  obtain ⟨rfl, rfl⟩ := trodVars_none hV
  obtain ⟨s, rfl, rfl, rfl, ws⟩ := open_string Try.underlying9 (hval 0 9 v0 rfl rfl) h0
  clear hA0 hval0
  simp only [List.append_nil] at hW'
  refine (codesList_any s W).mono fun e W' ⟨he, hw⟩ => ?_
  subst he
  exact ⟨_, rfl, _, _, _, [], [], [], hW', trodAll_mk1 (shut_bool Try.underlying4 _), trodAll_mk1 (shut_string Try.underlying9 ws), rfl, hw.frame _, fun h => by cases h⟩

theorem codesList_holds : Rows.CodesListSaid :=
  OpenClaim.holds_of_wide 4 Try.f4 rfl rfl rfl rfl rfl rfl rfl ⟨rfl, rfl, rfl, rfl, rfl⟩ rfl rfl rfl rfl rfl (by kernel_rfl) Try.func4 (by kernel_rfl)
    (of_decide_eq_true (by kernel_rfl)) (by unfold Func.isWrapper; first | (rw [if_pos (by decide +kernel)]; kernel_rfl) | (rw [if_neg (by decide +kernel)]; exact ⟨rfl, rfl⟩))
    (fun os started H enc _ => codesList_lifted os started H enc)
end Go.Proofs.Ytfnpngffdjjpbaa
