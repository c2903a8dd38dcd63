/-
  A rune is read as it was put, from its front and from its end, whatever stands around it; what is no rune has no bytes; the chapter's examples hold: limnerlaw01.CodesBack returns true. No condition (more than 100 bytes ahead or behind: the examples alone, as the law says).
-/
import Derived.Test.YtfnpngffdjjpbaaJoin
import Derived.Test.YtfnpngffdjjpbaaRead
import Derived.ProofKit
namespace Go.Proofs.Ytfnpngffdjjpbaa
open Go.ChangeShapes Go.WideShapes Go.ChangeAt Go.RowKit
open Go.ChangeMaps (open_string shut_string)

set_option maxRecDepth 100000 in
set_option maxHeartbeats 4000000 in
theorem codesBack_far (r : Int) (a z : ByteArray) (w : World) (h : 100 < a.size ∨ 100 < z.size) :
    Calls Try.prog 6 #[.int .i32 r, .string a, .string z] w fun e w' => e = .returned (.bool true) ∧ Below w.heap.size w w' := by
  by_cases h1 : 100 < a.size
  · go_enter Try.func6, Try.ntmps6
    go_wp2_with fail
    refine (read_any _).mono ?_
    rintro e w3 ⟨rfl, hb3⟩
    go_wp2_with fail
    go_ret
    exact ⟨rfl, hb3⟩
  · have h2 : 100 < z.size := by omega
    go_enter Try.func6, Try.ntmps6
    go_wp2_with fail
    refine (read_any _).mono ?_
    rintro e w3 ⟨rfl, hb3⟩
    go_wp2_with fail
    go_ret
    exact ⟨rfl, hb3⟩

set_option maxRecDepth 100000 in
set_option maxHeartbeats 4000000 in
theorem codesBack_no (r : Int) (a z : ByteArray) (w : World) (ha : a.size ≤ 100) (hz : z.size ≤ 100) (h : r < 0 ∨ 1114111 < r ∨ (55296 ≤ r ∧ r ≤ 57343)) :
    Calls Try.prog 6 #[.int .i32 r, .string a, .string z] w fun e w' => e = .returned (.bool true) ∧ Below w.heap.size w w' := by
  have hp := fun w => putB_any r w
  rw [put_no r (by omega)] at hp
  have HP := Lib.hid hp
  clear hp
  rcases h with h | h | ⟨h, h2⟩
  · go_enter Try.func6, Try.ntmps6
    go_wp2_with fail
    refine (HP.out _).mono ?_
    rintro e w1 ⟨rfl, rfl⟩
    go_wp2_with fail
    refine (read_any _).mono ?_
    rintro e w3 ⟨rfl, hb3⟩
    go_wp2_with fail
    go_ret
    exact ⟨rfl, hb3⟩
  · have h0 : 0 ≤ r := by omega
    go_enter Try.func6, Try.ntmps6
    go_wp2_with fail
    refine (HP.out _).mono ?_
    rintro e w1 ⟨rfl, rfl⟩
    go_wp2_with fail
    refine (read_any _).mono ?_
    rintro e w3 ⟨rfl, hb3⟩
    go_wp2_with fail
    go_ret
    exact ⟨rfl, hb3⟩
  · have h0 : 0 ≤ r := by omega
    have h3 : r ≤ 1114111 := by omega
    have h4 : r < 57344 := by omega
    go_enter Try.func6, Try.ntmps6
    go_wp2_with fail
    refine (HP.out _).mono ?_
    rintro e w1 ⟨rfl, rfl⟩
    go_wp2_with fail
    refine (read_any _).mono ?_
    rintro e w3 ⟨rfl, hb3⟩
    go_wp2_with fail
    go_ret
    exact ⟨rfl, hb3⟩

set_option maxRecDepth 100000 in
set_option maxHeartbeats 4000000 in
theorem codesBack_yes (R : Nat) (r : Int) (hr : r = (R : Int)) (a z : ByteArray) (w : World) (ha : a.size ≤ 100) (hz : z.size ≤ 100) (h : R < 55296 ∨ 57344 ≤ R ∧ R ≤ 1114111) :
    Calls Try.prog 6 #[.int .i32 r, .string a, .string z] w fun e w' => e = .returned (.bool true) ∧ Below w.heap.size w w' := by
  obtain ⟨P, hP⟩ : ∃ P, putB (R : Int) = P := ⟨_, rfl⟩
  obtain ⟨p1, p2, p3, p4, p5⟩ := put_stands a z R h P hP
  have q1 := (dec_put R h).2.1
  have q2 := (dec_put R h).2.2.1
  rw [hP] at q1 q2
  have hp := fun w => putB_any r w
  rw [hr, hP, ← hr] at hp
  have hs1 := app_size a P
  have hs2 := app_size (a ++ P) z
  have hn := fun w => next_in (a ++ P ++ z) (a.size : Int) w (by omega) (by omega) (by unfold maxLen; omega)
  rw [Int.toNat_natCast, p1, p2, ← hr] at hn
  have hb4 := back_four (a ++ P ++ z) (a.size + P.size) (by omega) (by omega)
  have hU : (a ++ P ++ z).extract 0 (a.size + P.size) = a ++ P := by rw [← hs1, head_app]
  rw [hU, p3, p4, p5] at hb4
  have hk := fun w => back_in (a ++ P ++ z) (a.size + P.size) w (by omega) (by omega) (by unfold maxLen; omega) _ rfl
  rw [hb4.1, hb4.2, ← hr, Int.natCast_add] at hk
  have HP := Lib.hid hp
  have HN := Lib.hid hn
  have HK := Lib.hid hk
  have hR0 : 0 ≤ r := by omega
  have hR1 : r ≤ 1114111 := by omega
  have hR2 : r < 55296 ∨ 57344 ≤ r := by omega
  clear hp hn hk hb4 hU p1 p2 p3 p4 p5 hP hr h hs1 hs2
  rcases hR2 with hR2 | hR2
  all_goals
    go_enter Try.func6, Try.ntmps6
    go_wp2_with fail
    refine (HP.out _).mono ?_
    rintro e w1 ⟨rfl, rfl⟩
    go_wp2_with fail
    refine (HN.out _).mono ?_
    rintro e w2 ⟨rfl, hb2⟩
    go_wp2_with fail
    refine (HK.out _).mono ?_
    rintro e w3 ⟨rfl, hb3⟩
    go_wp2_with fail
    refine (read_any _).mono ?_
    rintro e w4 ⟨rfl, hb4⟩
    go_wp2_with fail
    go_ret
    have g3 := hb2.trans (hb3.mono hb2.size)
    exact ⟨rfl, g3.trans (hb4.mono g3.size)⟩

theorem codesBack_any (r : Int) (a z : ByteArray) (w : World) :
    Calls Try.prog 6 #[.int .i32 r, .string a, .string z] w fun e w' => e = .returned (.bool true) ∧ Below w.heap.size w w' := by
  by_cases h : 100 < a.size ∨ 100 < z.size
  · exact codesBack_far r a z w h
  by_cases hv : r < 0 ∨ 1114111 < r ∨ (55296 ≤ r ∧ r ≤ 57343)
  · exact codesBack_no r a z w (by omega) (by omega) hv
  · obtain ⟨R, hR⟩ := Int.eq_ofNat_of_zero_le (a := r) (by omega)
    exact codesBack_yes R r hR a z w (by omega) (by omega) (by omega)

theorem backOwn : ownKnob Try.prog.godebug = none := by kernel_rfl

set_option maxRecDepth 100000 in
theorem codesBack_lifted (os : Os) (started : os.Started) (H : Type) (enc : TypeId × Value → H) :
    ReturnsInHanded {} Try.checked os 6 .any (Rows.codesBackSpec.pre6 enc Try.prog Try.f6 Rows.codesBackRow.domain false) (Rows.codesBackSpec.post enc Try.prog Try.f6 false true false false) := by
  refine returnsInHanded_of_change (C := Try.checked) backOwn started (by kernel_rfl) Try.func6
    (ChangeSpec.witness6 (enc := enc) (C := Try.checked) false ⟨#[], #[.int .i32 0, .string ⟨#[]⟩, .string ⟨#[]⟩], []⟩ 8 (by kernel_rfl) (by kernel_rfl) (by kernel_rfl) (by kernel_rfl)) ?_
  intro W base args ds gs before hval0 hW hcnd _
  have hval : ∀ (j : Nat) t v, Try.f6.params[j]? = some t → args[j]? = some v → Value.okWide Try.prog W .any base t v := hval0
  have hW' := hW
  obtain ⟨p, q, hA0, hV, rfl, hfz, hnd⟩ := hW
  have hA : DataW.TrodAll enc Try.prog W 0 (fun _ => true) true Try.f6.params.toList args.toList ds p := hA0
  rw [Try.params6] at hA hval
  obtain ⟨v0, v1, v2, d0, d1, d2, p0, p1, p2, rfl, rfl, rfl, h0, h1, h2⟩ := trodAll_three hA
  obtain ⟨rfl, rfl⟩ := trodVars_none hV
  obtain ⟨r, rfl, rfl, rfl, wr⟩ := open_int Try.underlying21 (hval 0 21 v0 rfl rfl) h0
  obtain ⟨a, rfl, rfl, rfl, wa⟩ := open_string Try.underlying9 (hval 1 9 v1 rfl rfl) h1
  obtain ⟨z, rfl, rfl, rfl, wz⟩ := open_string Try.underlying9 (hval 2 9 v2 rfl rfl) h2
  clear hA0 hval0
  simp only [List.append_nil] at hW'
  refine (codesBack_any r a z W).mono fun e W' ⟨he, hw⟩ => ?_
  subst he
  exact ⟨_, rfl, _, _, _, [], [], [], hW', trodAll_mk1 (shut_bool Try.underlying4 _), trodAll_mk3 (shut_int Try.underlying21 wr) (shut_string Try.underlying9 wa) (shut_string Try.underlying9 wz), rfl, hw.frame _, fun h => by cases h⟩

theorem codesBack_holds : Rows.CodesBackSaid :=
  OpenClaim.holds_of_wide 6 Try.f6 rfl rfl rfl rfl rfl rfl rfl ⟨rfl, rfl, rfl, rfl, rfl⟩ rfl rfl rfl rfl rfl (by kernel_rfl) Try.func6 (by kernel_rfl)
    (of_decide_eq_true (by kernel_rfl)) (by unfold Func.isWrapper; first | (rw [if_pos (by decide +kernel)]; kernel_rfl) | (rw [if_neg (by decide +kernel)]; exact ⟨rfl, rfl⟩))
    (fun os started H enc _ => codesBack_lifted os started H enc)
end Go.Proofs.Ytfnpngffdjjpbaa
