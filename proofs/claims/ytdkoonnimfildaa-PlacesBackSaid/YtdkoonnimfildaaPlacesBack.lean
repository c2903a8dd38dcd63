/-
  For every text of at most 1000 bytes and every number: of the place that the number stands for, its line and its column lead back to that place; the line begins where First says, not behind the place, and ends not ahead of it; from its end one comes back to its front, and from its front to its end; so the law returns true. Longer texts: the examples alone, as the law says. No condition.
-/
import Derived.Test.YtdkoonnimfildaaPlPut
import Derived.Lib.Hide
namespace Go.Proofs.Ytdkoonnimfildaa
open Go.ChangeShapes Go.WideShapes Go.ChangeAt Go.RowKit
open Go.ChangeMaps (open_string shut_string)

theorem placesBack_far (s : ByteArray) (z : Int) (w : World) (h : 1000 < s.size) :
    Calls Try.prog 4 #[.string s, .int .u16 z] w fun e w' => e = .returned (.bool true) ∧ Below w.heap.size w w' := by
  have HP := Lib.hid placed_any
  go_enter Try.func4, Try.ntmps4
  go_wp2_with fail
  go_fit (HP.out _)
  rintro e w1 ⟨rfl, b1⟩
  go_wp2
  go_ret
  exact ⟨rfl, b1⟩

theorem atI_back (b : List UInt8) (k : Nat) (h : k ≤ b.length) : atI b (lineN b k : Nat) ((k : Int) - (startF b k : Nat)) = k := by
  have h1 := startF_le b k
  have h2 := at_back b k h
  unfold atI
  rw [Int.toNat_natCast, show ((k : Int) - (startF b k : Nat)).toNat = k - startF b k by omega]
  exact h2

set_option maxRecDepth 100000 in
set_option maxHeartbeats 2000000 in
theorem placesBack_near (s : ByteArray) (z : Int) (K : Nat) (w : World) (h : s.size ≤ 1000) (l0 : 0 ≤ z) (u0 : z ≤ 65535) (hK : z % ((s.size : Int) + 1) = (K : Int)) (hk : K ≤ s.size) :
    Calls Try.prog 4 #[.string s, .int .u16 z] w fun e w' => e = .returned (.bool true) ∧ Below w.heap.size w w' := by
  have hl := len_bytes s
  have HD := Lib.hid placed_any
  have n1 : ∀ a : Nat, a ≤ s.size → nearN s.size (a : Int) = a := fun a h => by unfold nearN; omega
  have h1 := startF_le s.data.toList K
  have h2 := endN_ge s.data.toList K
  have h3 := endN_le s.data.toList K (by omega)
  have H1 := fun W => line_in s K W (by omega) hk
  have H2 : ∀ W, _ := fun W => start_any s (K : Int) W (by omega)
  have H3 : ∀ W, _ := fun W => end_any s (K : Int) W (by omega)
  have H4 : ∀ W, _ := fun W => at_any s (lineN s.data.toList K : Nat) ((K : Int) - (startF s.data.toList K : Nat)) W (by omega)
  have H5 : ∀ W, _ := fun W => first_any s (lineN s.data.toList K : Nat) W (by omega)
  have H6 : ∀ W, _ := fun W => start_any s (endN s.data.toList K : Nat) W (by omega)
  have H7 : ∀ W, _ := fun W => end_any s (startF s.data.toList K : Nat) W (by omega)
  rw [n1 K hk] at H2 H3
  rw [atI_back _ K (by omega)] at H4
  rw [Int.toNat_natCast, first_line _ K (by omega)] at H5
  rw [n1 _ (by omega), start_endN] at H6
  rw [n1 _ (by omega), endN_start _ K (by omega)] at H7
  obtain ⟨A, hA⟩ : ∃ A, startF s.data.toList K = A := ⟨_, rfl⟩
  obtain ⟨B, hB⟩ : ∃ B, endN s.data.toList K = B := ⟨_, rfl⟩
  obtain ⟨L, hL⟩ : ∃ L, lineN s.data.toList K = L := ⟨_, rfl⟩
  rw [hA] at H1 H2 H4 H5 H6 H7 h1
  rw [hB] at H3 H6 H7 h2 h3
  rw [hL] at H1 H4 H5
  have G1 := Lib.hid H1
  have G2 := Lib.hid H2
  have G3 := Lib.hid H3
  have G4 := Lib.hid H4
  have G5 := Lib.hid H5
  have G6 := Lib.hid H6
  have G7 := Lib.hid H7
  have a1 : (K : Int) ≤ (s.size : Int) := by omega
  have a2 : (s.size : Int) ≤ 1000 := by omega
  have a3 : (A : Int) ≤ (K : Int) := by omega
  have a4 : (K : Int) ≤ (B : Int) := by omega
  have a5 : (B : Int) ≤ (s.size : Int) := by omega
  clear H1 H2 H3 H4 H5 H6 H7 hA hB hL n1 h1 h2 h3
  go_enter Try.func4, Try.ntmps4
  go_wp2_with fail
  go_fit (G1.out _)
  rintro e w1 ⟨rfl, b1⟩
  have k := b1
  clear G1 b1
  go_wp2_with fail
  go_fit (G2.out _)
  rintro e w2 ⟨rfl, rfl⟩
  clear G2
  go_wp2_with fail
  go_fit (G3.out _)
  rintro e w3 ⟨rfl, b3⟩
  have k := k.trans (b3.mono k.size)
  clear G3 b3
  go_wp2_with fail
  go_fit (G4.out _)
  rintro e w4 ⟨rfl, b4⟩
  have k := k.trans (b4.mono k.size)
  clear G4 b4
  go_wp2_with fail
  go_fit (G5.out _)
  rintro e w5 ⟨rfl, b5⟩
  have k := k.trans (b5.mono k.size)
  clear G5 b5
  go_wp2_with fail
  go_fit (G6.out _)
  rintro e w6 ⟨rfl, rfl⟩
  clear G6
  go_wp2_with fail
  go_fit (G7.out _)
  rintro e w7 ⟨rfl, b7⟩
  have k := k.trans (b7.mono k.size)
  clear G7 b7
  go_wp2_with fail
  go_fit (HD.out _)
  rintro e w8 ⟨rfl, b8⟩
  have k := k.trans (b8.mono k.size)
  clear b8
  go_wp2
  go_ret
  exact ⟨rfl, k⟩
theorem placesBack_any (s : ByteArray) (z : Int) (w : World) (l0 : 0 ≤ z) (u0 : z ≤ 65535) :
    Calls Try.prog 4 #[.string s, .int .u16 z] w fun e w' => e = .returned (.bool true) ∧ Below w.heap.size w w' := by
  by_cases h : s.size ≤ 1000
  · have h1 : 0 ≤ z % ((s.size : Int) + 1) := Int.emod_nonneg _ (by omega)
    have h2 : z % ((s.size : Int) + 1) < (s.size : Int) + 1 := Int.emod_lt_of_pos _ (by omega)
    exact placesBack_near s z (z % ((s.size : Int) + 1)).toNat w h l0 u0 (by omega) (by omega)
  · exact placesBack_far s z w (by omega)
-- FRAME
theorem placesBack_own : ownKnob Try.prog.godebug = none := by kernel_rfl

set_option maxRecDepth 100000 in
theorem placesBack_lifted (os : Os) (started : os.Started) (H : Type) (enc : TypeId × Value → H) :
    ReturnsInHanded {} Try.checked os 4 .any (Rows.placesBackSpec.pre6 enc Try.prog Try.f4 Rows.placesBackRow.domain false) (Rows.placesBackSpec.post enc Try.prog Try.f4 false true false false) := by
  refine returnsInHanded_of_change (C := Try.checked) placesBack_own started (by kernel_rfl) Try.func4
    (ChangeSpec.witness6 (enc := enc) (C := Try.checked) false ⟨#[], #[.string ⟨#[]⟩, .int .u16 0], []⟩ 8 (by kernel_rfl) (by kernel_rfl) (by kernel_rfl) (by kernel_rfl)) ?_
  intro W base args ds gs before hval0 hW hcnd _
  have hval : ∀ (j : Nat) t v, Try.f4.params[j]? = some t → args[j]? = some v → Value.okWide Try.prog W .any base t v := hval0
  have hW' := hW
  obtain ⟨p, q, hA0, hV, rfl, hfz, hnd⟩ := hW
  have hA : DataW.TrodAll enc Try.prog W 0 (fun _ => true) true Try.f4.params.toList args.toList ds p := hA0
  rw [Try.params4] at hA hval
  obtain ⟨v0, v1, d0, d1, p0, p1, rfl, rfl, rfl, h0, h1⟩ := trodAll_two hA
  obtain ⟨rfl, rfl⟩ := trodVars_none hV
  obtain ⟨x0, rfl, rfl, rfl, wr0⟩ := open_string Try.underlying9 (hval 0 9 v0 rfl rfl) h0
  obtain ⟨x1, rfl, rfl, rfl, wr1⟩ := open_int Try.underlying28 (hval 1 28 v1 rfl rfl) h1
  clear hA0 hval0
  simp only [List.append_nil] at hW'
  have rg1 : (0 : Int) ≤ x1 ∧ x1 ≤ 65535 := by
    have h := wr1
    simp only [Lit.wf, Bool.and_eq_true, decide_eq_true_eq] at h
    rwa [show IntKind.u16.min = 0 by decide, show IntKind.u16.max = 65535 by decide] at h
  refine (placesBack_any x0 x1 W rg1.1 rg1.2).mono fun e W' ⟨he, hw⟩ => ?_
  subst he
  exact ⟨_, rfl, _, _, _, [], [], [], hW', trodAll_mk1 (shut_bool Try.underlying4 _), trodAll_mk2 (shut_string Try.underlying9 wr0) (shut_int Try.underlying28 wr1), rfl, hw.frame _, fun h => by cases h⟩

theorem placesBack_holds : Rows.PlacesBackSaid :=
  OpenClaim.holds_of_wide 4 Try.f4 rfl rfl rfl rfl rfl rfl rfl ⟨rfl, rfl, rfl, rfl, rfl⟩ rfl rfl rfl rfl rfl (by kernel_rfl) Try.func4 (by kernel_rfl)
    (of_decide_eq_true (by kernel_rfl)) (by unfold Func.isWrapper; first | (rw [if_pos (by decide +kernel)]; kernel_rfl) | (rw [if_neg (by decide +kernel)]; exact ⟨rfl, rfl⟩))
    (fun os started H enc _ => placesBack_lifted os started H enc)
end Go.Proofs.Ytdkoonnimfildaa
