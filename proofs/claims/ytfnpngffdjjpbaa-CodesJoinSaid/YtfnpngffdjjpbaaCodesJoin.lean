/-
  A text that is Valid, put ahead of another one, or behind, has as many parts as both, and is Valid just if the other one is; the chapter's examples hold: limnerlaw01.CodesJoin returns true. No condition (texts of more than 500 bytes: the examples alone, as the law says).
-/
import Derived.Test.YtfnpngffdjjpbaaJoin
import Derived.Test.YtfnpngffdjjpbaaRead
import Derived.ProofKit
namespace Go.Proofs.Ytfnpngffdjjpbaa
open Go.ChangeShapes Go.WideShapes Go.ChangeAt Go.RowKit
open Go.ChangeMaps (open_string shut_string)

set_option maxRecDepth 100000 in
set_option maxHeartbeats 4000000 in
theorem codesJoin_far (a b : ByteArray) (w : World) (h : 500 < a.size ∨ 500 < b.size) :
    Calls Try.prog 8 #[.string a, .string b] w fun e w' => e = .returned (.bool true) ∧ Below w.heap.size w w' := by
  by_cases h1 : 500 < a.size
  · go_enter Try.func8, Try.ntmps8
    go_wp2_with fail
    refine (read_any _).mono ?_
    rintro e w3 ⟨rfl, hb3⟩
    go_wp2_with fail
    go_ret
    exact ⟨rfl, hb3⟩
  · have h2 : 500 < b.size := by omega
    go_enter Try.func8, Try.ntmps8
    go_wp2_with fail
    refine (read_any _).mono ?_
    rintro e w3 ⟨rfl, hb3⟩
    go_wp2_with fail
    go_ret
    exact ⟨rfl, hb3⟩

set_option maxRecDepth 100000 in
set_option maxHeartbeats 4000000 in
theorem codesJoin_no (a b : ByteArray) (w : World) (ha : a.size ≤ 500) (hb : b.size ≤ 500) (hv : allOk a (stA a) = false) :
    Calls Try.prog 8 #[.string a, .string b] w fun e w' => e = .returned (.bool true) ∧ Below w.heap.size w w' := by
  have h1 := fun w => valid_any a w (by unfold maxLen; omega)
  rw [hv] at h1
  have H1 := Lib.hid h1
  clear h1 hv
  go_enter Try.func8, Try.ntmps8
  go_wp2_with fail
  refine (H1.out _).mono ?_
  rintro e w1 ⟨rfl, hb1⟩
  go_wp2_with fail
  refine (read_any _).mono ?_
  rintro e w3 ⟨rfl, hb3⟩
  go_wp2_with fail
  go_ret
  exact ⟨rfl, hb1.trans (hb3.mono hb1.size)⟩

set_option maxRecDepth 100000 in
set_option maxHeartbeats 4000000 in
theorem codesJoin_yes (a b : ByteArray) (w : World) (ha : a.size ≤ 500) (hb : b.size ≤ 500) (hv : allOk a (stA a) = true) :
    Calls Try.prog 8 #[.string a, .string b] w fun e w' => e = .returned (.bool true) ∧ Below w.heap.size w w' := by
  obtain ⟨j1, j2, j3, j4⟩ := join_facts a b hv
  have s1 := app_size a b
  have s2 := app_size b a
  have h1 := fun w => valid_any a w (by unfold maxLen; omega)
  have h2 := fun w => count_any (a ++ b) w (by unfold maxLen; omega)
  have h3 := fun w => count_any a w (by unfold maxLen; omega)
  have h4 := fun w => count_any b w (by unfold maxLen; omega)
  have h5 := fun w => count_any (b ++ a) w (by unfold maxLen; omega)
  have h6 := fun w => valid_any (a ++ b) w (by unfold maxLen; omega)
  have h7 := fun w => valid_any b w (by unfold maxLen; omega)
  have h8 := fun w => valid_any (b ++ a) w (by unfold maxLen; omega)
  have l1 := stA_length a
  have l2 := stA_length b
  rw [hv] at h1
  rw [j1] at h2
  rw [j2] at h5
  rw [j3] at h6
  rw [j4] at h8
  obtain ⟨A, hA⟩ : ∃ A, (stA a).length = A := ⟨_, rfl⟩
  obtain ⟨B, hB⟩ : ∃ B, (stA b).length = B := ⟨_, rfl⟩
  obtain ⟨V, hV⟩ : ∃ V, allOk b (stA b) = V := ⟨_, rfl⟩
  rw [hA] at l1 h3
  rw [hB] at l2 h4
  rw [hA, hB, Int.natCast_add] at h2 h5
  rw [hV] at h6 h7 h8
  have H1 := Lib.hid h1
  have H2 := Lib.hid h2
  have H3 := Lib.hid h3
  have H4 := Lib.hid h4
  have H5 := Lib.hid h5
  have H6 := Lib.hid h6
  have H7 := Lib.hid h7
  have H8 := Lib.hid h8
  clear h1 h2 h3 h4 h5 h6 h7 h8 hA hB hV j1 j2 j3 j4 hv s1 s2
  go_enter Try.func8, Try.ntmps8
  go_wp2_with fail
  refine (H1.out _).mono ?_
  rintro e w1 ⟨rfl, g1⟩
  go_wp2_with fail
  refine (H2.out _).mono ?_
  rintro e w2 ⟨rfl, g2⟩
  go_wp2_with fail
  refine (H3.out _).mono ?_
  rintro e w3 ⟨rfl, g3⟩
  go_wp2_with fail
  refine (H4.out _).mono ?_
  rintro e w4 ⟨rfl, g4⟩
  go_wp2_with fail
  refine (H5.out _).mono ?_
  rintro e w5 ⟨rfl, g5⟩
  go_wp2_with fail
  refine (H3.out _).mono ?_
  rintro e w6 ⟨rfl, g6⟩
  go_wp2_with fail
  refine (H4.out _).mono ?_
  rintro e w7 ⟨rfl, g7⟩
  go_wp2_with fail
  refine (H6.out _).mono ?_
  rintro e w8 ⟨rfl, g8⟩
  go_wp2_with fail
  refine (H7.out _).mono ?_
  rintro e w9 ⟨rfl, g9⟩
  go_wp2_with fail
  refine (H8.out _).mono ?_
  rintro e w10 ⟨rfl, g10⟩
  go_wp2_with fail
  refine (H7.out _).mono ?_
  rintro e w11 ⟨rfl, g11⟩
  go_wp2_with fail
  refine (read_any _).mono ?_
  rintro e w12 ⟨rfl, g12⟩
  go_wp2_with fail
  go_ret
  have k2 := g1.trans (g2.mono g1.size)
  have k3 := k2.trans (g3.mono k2.size)
  have k4 := k3.trans (g4.mono k3.size)
  have k5 := k4.trans (g5.mono k4.size)
  have k6 := k5.trans (g6.mono k5.size)
  have k7 := k6.trans (g7.mono k6.size)
  have k8 := k7.trans (g8.mono k7.size)
  have k9 := k8.trans (g9.mono k8.size)
  have k10 := k9.trans (g10.mono k9.size)
  have k11 := k10.trans (g11.mono k10.size)
  exact ⟨rfl, k11.trans (g12.mono k11.size)⟩

theorem codesJoin_any (a b : ByteArray) (w : World) :
    Calls Try.prog 8 #[.string a, .string b] w fun e w' => e = .returned (.bool true) ∧ Below w.heap.size w w' := by
  by_cases h : 500 < a.size ∨ 500 < b.size
  · exact codesJoin_far a b w h
  cases hv : allOk a (stA a)
  · exact codesJoin_no a b w (by omega) (by omega) hv
  · exact codesJoin_yes a b w (by omega) (by omega) hv

theorem joinOwn : ownKnob Try.prog.godebug = none := by kernel_rfl

set_option maxRecDepth 100000 in
theorem codesJoin_lifted (os : Os) (started : os.Started) (H : Type) (enc : TypeId × Value → H) :
    ReturnsInHanded {} Try.checked os 8 .any (Rows.codesJoinSpec.pre6 enc Try.prog Try.f8 Rows.codesJoinRow.domain false) (Rows.codesJoinSpec.post enc Try.prog Try.f8 false true false false) := by
  refine returnsInHanded_of_change (C := Try.checked) joinOwn started (by kernel_rfl) Try.func8
    (ChangeSpec.witness6 (enc := enc) (C := Try.checked) false ⟨#[], #[.string ⟨#[]⟩, .string ⟨#[]⟩], []⟩ 8 (by kernel_rfl) (by kernel_rfl) (by kernel_rfl) (by kernel_rfl)) ?_
  intro W base args ds gs before hval0 hW hcnd _
  have hval : ∀ (j : Nat) t v, Try.f8.params[j]? = some t → args[j]? = some v → Value.okWide Try.prog W .any base t v := hval0
  have hW' := hW
  obtain ⟨p, q, hA0, hV, rfl, hfz, hnd⟩ := hW
  have hA : DataW.TrodAll enc Try.prog W 0 (fun _ => true) true Try.f8.params.toList args.toList ds p := hA0
  rw [Try.params8] at hA hval
  obtain ⟨v0, v1, d0, d1, p0, p1, rfl, rfl, rfl, h0, h1⟩ := trodAll_two hA
  obtain ⟨rfl, rfl⟩ := trodVars_none hV
  obtain ⟨a, rfl, rfl, rfl, wa⟩ := open_string Try.underlying9 (hval 0 9 v0 rfl rfl) h0
  obtain ⟨b, rfl, rfl, rfl, wb⟩ := open_string Try.underlying9 (hval 1 9 v1 rfl rfl) h1
  clear hA0 hval0
  simp only [List.append_nil] at hW'
  refine (codesJoin_any a b W).mono fun e W' ⟨he, hw⟩ => ?_
  subst he
  exact ⟨_, rfl, _, _, _, [], [], [], hW', trodAll_mk1 (shut_bool Try.underlying4 _), trodAll_mk2 (shut_string Try.underlying9 wa) (shut_string Try.underlying9 wb), rfl, hw.frame _, fun h => by cases h⟩

theorem codesJoin_holds : Rows.CodesJoinSaid :=
  OpenClaim.holds_of_wide 8 Try.f8 rfl rfl rfl rfl rfl rfl rfl ⟨rfl, rfl, rfl, rfl, rfl⟩ rfl rfl rfl rfl rfl (by kernel_rfl) Try.func8 (by kernel_rfl)
    (of_decide_eq_true (by kernel_rfl)) (by unfold Func.isWrapper; first | (rw [if_pos (by decide +kernel)]; kernel_rfl) | (rw [if_neg (by decide +kernel)]; exact ⟨rfl, rfl⟩))
    (fun os started H enc _ => codesJoin_lifted os started H enc)
end Go.Proofs.Ytfnpngffdjjpbaa
