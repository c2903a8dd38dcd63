/-
  For every text of at most 300 bytes and every two numbers: whatever is asked of the text, at each of its places, lines and columns, at those that are just outside, and at the two numbers, the answer is the document's; so the law returns true. Longer texts: the examples alone, as the law says. No condition.
-/
import Derived.Test.YtdkoonnimfildaaPlPut
import Derived.Test.YtdkoonnimfildaaPlRef
import Derived.Test.YtdkoonnimfildaaPlRefR
import Derived.Lib.Hide
namespace Go.Proofs.Ytdkoonnimfildaa
open Go.ChangeShapes Go.WideShapes Go.ChangeAt Go.RowKit
open Go.ChangeMaps (open_string shut_string)

theorem placesTell_far (s : ByteArray) (n m : Int) (w : World) (h : 300 < s.size) :
    Calls Try.prog 3 #[.string s, .int .i64 n, .int .i64 m] w fun e w' => e = .returned (.bool true) ∧ Below w.heap.size w w' := by
  have HP := Lib.hid placed_any
  go_enter Try.func3, Try.ntmps3
  go_wp2_with fail
  go_fit (HP.out _)
  rintro e w1 ⟨rfl, b1⟩
  go_wp2
  go_ret
  exact ⟨rfl, b1⟩

/-- The two answers on a place's line are one. -/
theorem line_both (s : ByteArray) (a : Int) (hs : s.size ≤ 1000) : ∃ (x y : Int) (ok : Bool),
    Hid (∀ W, Calls Try.prog 8 #[.string s, .int .i64 a] W fun e w' => e = .returned (.tuple #[.int .i64 x, .int .i64 y, .bool ok]) ∧ Below W.heap.size W w') ∧
    Hid (∀ W, Calls Try.prog 9 #[.string s, .int .i64 a] W fun e w' => e = .returned (.tuple #[.int .i64 x, .int .i64 y, .bool ok]) ∧ w' = W) := by
  by_cases h : 0 ≤ a ∧ a ≤ (s.size : Int)
  · obtain ⟨k, rfl⟩ : ∃ k : Nat, a = (k : Int) := ⟨a.toNat, by omega⟩
    exact ⟨_, _, true, fun W => line_in s k W (by omega) (by omega), fun W => refLine_in s k W (by omega) (by omega)⟩
  · exact ⟨0, 0, false, fun W => line_out s a W (by omega), fun W => refLine_out s a W (by omega)⟩

set_option maxRecDepth 100000 in
set_option maxHeartbeats 4000000 in
theorem placesTell_near (s : ByteArray) (n m : Int) (w : World) (h : s.size ≤ 300) (un : n ≤ 9223372036854775807) :
    Calls Try.prog 3 #[.string s, .int .i64 n, .int .i64 m] w fun e w' => e = .returned (.bool true) ∧ Below w.heap.size w w' := by
  have HD := Lib.hid placed_any
  have UN := Lib.hid un
  clear un
  go_enter Try.func3, Try.ntmps3
  go_wp2
  go_loopw [7] (fun s7 wr => ∃ k : Int, s7 = .int .i64 k ∧ -1 ≤ k ∧ k ≤ (s.size : Int) + 3 ∧ Below w.heap.size w wr) (fun s7 _ => ((s.size : Int) + 3 - intOf s7).toNat)
  case atStart => exact ⟨-1, rfl, by omega, by omega, Below.refl _ _⟩
  case round =>
    obtain ⟨k, rfl, hk0, hk1, q⟩ := hrel
    by_cases hk : k ≤ (s.size : Int) + 2
    · obtain ⟨i, hii, hi⟩ : ∃ i : Int, Hid ((k = (s.size : Int) + 2 ∧ i = n) ∨ (k ≠ (s.size : Int) + 2 ∧ i = k)) ∧ i ≤ 9223372036854775807 := by
        by_cases e : k = (s.size : Int) + 2
        · exact ⟨n, .inl ⟨e, rfl⟩, UN.out⟩
        · exact ⟨k, .inr ⟨e, rfl⟩, by omega⟩
      have un := UN.out
      obtain ⟨x, y, ok, HL, HLr⟩ := line_both s i (by omega)
      obtain ⟨vHF, HF, HFr⟩ : ∃ v : Int, Hid (∀ W, Calls Try.prog 10 #[.string s, .int .i64 i] W fun e w' => e = .returned (.int .i64 v) ∧ Below W.heap.size W w') ∧ Hid (∀ W, Calls Try.prog 11 #[.string s, .int .i64 i] W fun e w' => e = .returned (.int .i64 v) ∧ w' = W) := ⟨_, fun W => first_any s i W (by omega), fun W => refFirst_any s i W (by omega) hi⟩
      obtain ⟨vHA, HA, HAr⟩ : ∃ v : Int, Hid (∀ W, Calls Try.prog 12 #[.string s, .int .i64 i, .int .i64 m] W fun e w' => e = .returned (.int .i64 v) ∧ Below W.heap.size W w') ∧ Hid (∀ W, Calls Try.prog 13 #[.string s, .int .i64 i, .int .i64 m] W fun e w' => e = .returned (.int .i64 v) ∧ w' = W) := ⟨_, fun W => at_any s i m W (by omega), fun W => refAt_any s i m W (by omega) hi⟩
      obtain ⟨vHB, HB, HBr⟩ : ∃ v : Int, Hid (∀ W, Calls Try.prog 12 #[.string s, .int .i64 n, .int .i64 i] W fun e w' => e = .returned (.int .i64 v) ∧ Below W.heap.size W w') ∧ Hid (∀ W, Calls Try.prog 13 #[.string s, .int .i64 n, .int .i64 i] W fun e w' => e = .returned (.int .i64 v) ∧ w' = W) := ⟨_, fun W => at_any s n i W (by omega), fun W => refAt_any s n i W (by omega) un⟩
      obtain ⟨vHS, HS, HSr⟩ : ∃ v : Int, Hid (∀ W, Calls Try.prog 14 #[.string s, .int .i64 i] W fun e w' => e = .returned (.int .i64 v) ∧ w' = W) ∧ Hid (∀ W, Calls Try.prog 15 #[.string s, .int .i64 i] W fun e w' => e = .returned (.int .i64 v) ∧ w' = W) := ⟨_, fun W => start_any s i W (by omega), fun W => refStart_any s i W (by omega)⟩
      obtain ⟨vHE, HE, HEr⟩ : ∃ v : Int, Hid (∀ W, Calls Try.prog 16 #[.string s, .int .i64 i] W fun e w' => e = .returned (.int .i64 v) ∧ Below W.heap.size W w') ∧ Hid (∀ W, Calls Try.prog 17 #[.string s, .int .i64 i] W fun e w' => e = .returned (.int .i64 v) ∧ w' = W) := ⟨_, fun W => end_any s i W (by omega), fun W => refEnd_any s i W (by omega)⟩
      obtain ⟨vHR, HR, HRr⟩ : ∃ v : Int, Hid (∀ W, Calls Try.prog 18 #[.string s, .int .i64 i] W fun e w' => e = .returned (.int .i64 v) ∧ Below W.heap.size W w') ∧ Hid (∀ W, Calls Try.prog 19 #[.string s, .int .i64 i] W fun e w' => e = .returned (.int .i64 v) ∧ Below W.heap.size W w') := ⟨_, fun W => runes_any s i W (by omega), fun W => refRunes_any s i W (by omega)⟩
      obtain ⟨vHP, HP, HPr⟩ : ∃ v : Int, Hid (∀ W, Calls Try.prog 20 #[.string s, .int .i64 i] W fun e w' => e = .returned (.int .i64 v) ∧ Below W.heap.size W w') ∧ Hid (∀ W, Calls Try.prog 21 #[.string s, .int .i64 i] W fun e w' => e = .returned (.int .i64 v) ∧ Below W.heap.size W w') := ⟨_, fun W => place_any s i W (by omega), fun W => refPlace_any s i W (by omega)⟩
      clear un hi
      rcases hii.out with ⟨e, rfl⟩ | ⟨e, rfl⟩
      · clear hii
        go_wp2_with fail
        go_fit (HL.out _)
        rintro e w2 ⟨rfl, b2⟩
        have q := q.trans (b2.mono q.size)
        clear b2
        clear HL
        go_wp2_with fail
        go_fit (HLr.out _)
        rintro e w2 ⟨rfl, rfl⟩
        clear HLr
        go_wp2_with fail
        go_fit (HF.out _)
        rintro e w2 ⟨rfl, b2⟩
        have q := q.trans (b2.mono q.size)
        clear b2
        clear HF
        go_wp2_with fail
        go_fit (HFr.out _)
        rintro e w2 ⟨rfl, rfl⟩
        clear HFr
        go_wp2_with fail
        go_fit (HA.out _)
        rintro e w2 ⟨rfl, b2⟩
        have q := q.trans (b2.mono q.size)
        clear b2
        clear HA
        go_wp2_with fail
        go_fit (HAr.out _)
        rintro e w2 ⟨rfl, rfl⟩
        clear HAr
        go_wp2_with fail
        go_fit (HB.out _)
        rintro e w2 ⟨rfl, b2⟩
        have q := q.trans (b2.mono q.size)
        clear b2
        clear HB
        go_wp2_with fail
        go_fit (HBr.out _)
        rintro e w2 ⟨rfl, rfl⟩
        clear HBr
        go_wp2_with fail
        go_fit (HS.out _)
        rintro e w2 ⟨rfl, rfl⟩
        clear HS
        go_wp2_with fail
        go_fit (HSr.out _)
        rintro e w2 ⟨rfl, rfl⟩
        clear HSr
        go_wp2_with fail
        go_fit (HE.out _)
        rintro e w2 ⟨rfl, b2⟩
        have q := q.trans (b2.mono q.size)
        clear b2
        clear HE
        go_wp2_with fail
        go_fit (HEr.out _)
        rintro e w2 ⟨rfl, rfl⟩
        clear HEr
        go_wp2_with fail
        go_fit (HR.out _)
        rintro e w2 ⟨rfl, b2⟩
        have q := q.trans (b2.mono q.size)
        clear b2
        clear HR
        go_wp2_with fail
        go_fit (HRr.out _)
        rintro e w2 ⟨rfl, b2⟩
        have q := q.trans (b2.mono q.size)
        clear b2
        clear HRr
        go_wp2_with fail
        go_fit (HP.out _)
        rintro e w2 ⟨rfl, b2⟩
        have q := q.trans (b2.mono q.size)
        clear b2
        clear HP
        go_wp2_with fail
        go_fit (HPr.out _)
        rintro e w2 ⟨rfl, b2⟩
        have q := q.trans (b2.mono q.size)
        clear b2
        clear HPr
        go_wp2
        go_roundw
        case rel => exact ⟨k + 1, by go_num, by omega, by omega, q⟩
        case measure => simp [intOf]; omega
      · clear hii
        go_wp2_with fail
        go_fit (HL.out _)
        rintro e w2 ⟨rfl, b2⟩
        have q := q.trans (b2.mono q.size)
        clear b2
        clear HL
        go_wp2_with fail
        go_fit (HLr.out _)
        rintro e w2 ⟨rfl, rfl⟩
        clear HLr
        go_wp2_with fail
        go_fit (HF.out _)
        rintro e w2 ⟨rfl, b2⟩
        have q := q.trans (b2.mono q.size)
        clear b2
        clear HF
        go_wp2_with fail
        go_fit (HFr.out _)
        rintro e w2 ⟨rfl, rfl⟩
        clear HFr
        go_wp2_with fail
        go_fit (HA.out _)
        rintro e w2 ⟨rfl, b2⟩
        have q := q.trans (b2.mono q.size)
        clear b2
        clear HA
        go_wp2_with fail
        go_fit (HAr.out _)
        rintro e w2 ⟨rfl, rfl⟩
        clear HAr
        go_wp2_with fail
        go_fit (HB.out _)
        rintro e w2 ⟨rfl, b2⟩
        have q := q.trans (b2.mono q.size)
        clear b2
        clear HB
        go_wp2_with fail
        go_fit (HBr.out _)
        rintro e w2 ⟨rfl, rfl⟩
        clear HBr
        go_wp2_with fail
        go_fit (HS.out _)
        rintro e w2 ⟨rfl, rfl⟩
        clear HS
        go_wp2_with fail
        go_fit (HSr.out _)
        rintro e w2 ⟨rfl, rfl⟩
        clear HSr
        go_wp2_with fail
        go_fit (HE.out _)
        rintro e w2 ⟨rfl, b2⟩
        have q := q.trans (b2.mono q.size)
        clear b2
        clear HE
        go_wp2_with fail
        go_fit (HEr.out _)
        rintro e w2 ⟨rfl, rfl⟩
        clear HEr
        go_wp2_with fail
        go_fit (HR.out _)
        rintro e w2 ⟨rfl, b2⟩
        have q := q.trans (b2.mono q.size)
        clear b2
        clear HR
        go_wp2_with fail
        go_fit (HRr.out _)
        rintro e w2 ⟨rfl, b2⟩
        have q := q.trans (b2.mono q.size)
        clear b2
        clear HRr
        go_wp2_with fail
        go_fit (HP.out _)
        rintro e w2 ⟨rfl, b2⟩
        have q := q.trans (b2.mono q.size)
        clear b2
        clear HP
        go_wp2_with fail
        go_fit (HPr.out _)
        rintro e w2 ⟨rfl, b2⟩
        have q := q.trans (b2.mono q.size)
        clear b2
        clear HPr
        go_wp2
        go_roundw
        case rel => exact ⟨i + 1, by go_num, by omega, by omega, q⟩
        case measure => simp [intOf]; omega
    · go_wp2_with fail
      go_fit (HD.out _)
      rintro e w2 ⟨rfl, b2⟩
      have q := q.trans (b2.mono q.size)
      go_wp2
      go_ret
      exact ⟨rfl, q⟩
theorem placesTell_any (s : ByteArray) (n m : Int) (w : World) (_l0 : -9223372036854775808 ≤ n) (u0 : n ≤ 9223372036854775807) (_l1 : -9223372036854775808 ≤ m) (_u1 : m ≤ 9223372036854775807) :
    Calls Try.prog 3 #[.string s, .int .i64 n, .int .i64 m] w fun e w' => e = .returned (.bool true) ∧ Below w.heap.size w w' := by
  by_cases h : s.size ≤ 300
  · exact placesTell_near s n m w h u0
  · exact placesTell_far s n m w (by omega)
-- FRAME
theorem placesTell_own : ownKnob Try.prog.godebug = none := by kernel_rfl

set_option maxRecDepth 100000 in
theorem placesTell_lifted (os : Os) (started : os.Started) (H : Type) (enc : TypeId × Value → H) :
    ReturnsInHanded {} Try.checked os 3 .any (Rows.placesTellSpec.pre6 enc Try.prog Try.f3 Rows.placesTellRow.domain false) (Rows.placesTellSpec.post enc Try.prog Try.f3 false true false false) := by
  refine returnsInHanded_of_change (C := Try.checked) placesTell_own started (by kernel_rfl) Try.func3
    (ChangeSpec.witness6 (enc := enc) (C := Try.checked) false ⟨#[], #[.string ⟨#[]⟩, .int .i64 0, .int .i64 0], []⟩ 8 (by kernel_rfl) (by kernel_rfl) (by kernel_rfl) (by kernel_rfl)) ?_
  intro W base args ds gs before hval0 hW hcnd _
  have hval : ∀ (j : Nat) t v, Try.f3.params[j]? = some t → args[j]? = some v → Value.okWide Try.prog W .any base t v := hval0
  have hW' := hW
  obtain ⟨p, q, hA0, hV, rfl, hfz, hnd⟩ := hW
  have hA : DataW.TrodAll enc Try.prog W 0 (fun _ => true) true Try.f3.params.toList args.toList ds p := hA0
  rw [Try.params3] at hA hval
  obtain ⟨v0, v1, v2, d0, d1, d2, p0, p1, p2, rfl, rfl, rfl, h0, h1, h2⟩ := trodAll_three hA
  obtain ⟨rfl, rfl⟩ := trodVars_none hV
  obtain ⟨x0, rfl, rfl, rfl, wr0⟩ := open_string Try.underlying9 (hval 0 9 v0 rfl rfl) h0
  obtain ⟨x1, rfl, rfl, rfl, wr1⟩ := open_int Try.underlying3 (hval 1 3 v1 rfl rfl) h1
  obtain ⟨x2, rfl, rfl, rfl, wr2⟩ := open_int Try.underlying3 (hval 2 3 v2 rfl rfl) h2
  clear hA0 hval0
  simp only [List.append_nil] at hW'
  have rg1 : (-9223372036854775808 : Int) ≤ x1 ∧ x1 ≤ 9223372036854775807 := by
    have h := wr1
    simp only [Lit.wf, Bool.and_eq_true, decide_eq_true_eq] at h
    rwa [show IntKind.i64.min = -9223372036854775808 by decide, show IntKind.i64.max = 9223372036854775807 by decide] at h
  have rg2 : (-9223372036854775808 : Int) ≤ x2 ∧ x2 ≤ 9223372036854775807 := by
    have h := wr2
    simp only [Lit.wf, Bool.and_eq_true, decide_eq_true_eq] at h
    rwa [show IntKind.i64.min = -9223372036854775808 by decide, show IntKind.i64.max = 9223372036854775807 by decide] at h
  refine (placesTell_any x0 x1 x2 W rg1.1 rg1.2 rg2.1 rg2.2).mono fun e W' ⟨he, hw⟩ => ?_
  subst he
  exact ⟨_, rfl, _, _, _, [], [], [], hW', trodAll_mk1 (shut_bool Try.underlying4 _), trodAll_mk3 (shut_string Try.underlying9 wr0) (shut_int Try.underlying3 wr1) (shut_int Try.underlying3 wr2), rfl, hw.frame _, fun h => by cases h⟩

theorem placesTell_holds : Rows.PlacesTellSaid :=
  OpenClaim.holds_of_wide 3 Try.f3 rfl rfl rfl rfl rfl rfl rfl ⟨rfl, rfl, rfl, rfl, rfl⟩ rfl rfl rfl rfl rfl (by kernel_rfl) Try.func3 (by kernel_rfl)
    (of_decide_eq_true (by kernel_rfl)) (by unfold Func.isWrapper; first | (rw [if_pos (by decide +kernel)]; kernel_rfl) | (rw [if_neg (by decide +kernel)]; exact ⟨rfl, rfl⟩))
    (fun os started H enc _ => placesTell_lifted os started H enc)
end Go.Proofs.Ytdkoonnimfildaa
