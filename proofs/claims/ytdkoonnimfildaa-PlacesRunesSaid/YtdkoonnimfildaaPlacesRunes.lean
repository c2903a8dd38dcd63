/-
  For every text of at most 1000 bytes: the place of a rune's number is where that rune stands, and as many runes are ahead of it as its number says; as many as there are stand ahead of the text's end; so the law returns true. Longer texts: the examples alone, as the law says. No condition.
-/
import Derived.Test.YtdkoonnimfildaaPlPut
import Derived.Deep.RegionHeld3
import Derived.Lib.Hide
namespace Go.Proofs.Ytdkoonnimfildaa
open Go.ChangeShapes Go.WideShapes Go.ChangeAt Go.RowKit
open Go.ChangeMaps (open_string shut_string)

theorem placesRunes_far (s : ByteArray) (w : World) (h : 1000 < s.size) :
    Calls Try.prog 5 #[.string s] w fun e w' => e = .returned (.bool true) ∧ Below w.heap.size w w' := by
  have HP := Lib.hid placed_any
  go_enter Try.func5, Try.ntmps5
  go_wp2_with fail
  go_fit (HP.out _)
  rintro e w1 ⟨rfl, b1⟩
  go_wp2
  go_ret
  exact ⟨rfl, b1⟩

set_option maxRecDepth 100000 in
set_option maxHeartbeats 2000000 in
theorem placesRunes_near (s : ByteArray) (w : World) (h : s.size ≤ 1000) :
    Calls Try.prog 5 #[.string s] w fun e w' => e = .returned (.bool true) ∧ Below w.heap.size w w' := by
  have hl := stA_length s
  have HS := Lib.hid (starts_any s w (by omega))
  have HD := Lib.hid placed_any
  have HP : Hid (∀ i, i < (stA s).length → ∀ W, Calls Try.prog 20 #[.string s, .int .i64 (i : Int)] W fun e w' => e = .returned (.int .i64 ((stA s).getD i 0 : Nat)) ∧ Below W.heap.size W w') := fun i hi W => by
    have := place_any s (i : Int) W (by omega)
    rwa [Int.toNat_natCast, place_at s i ((stA s).getD i 0) (by rw [List.getD_eq_getElem?_getD, List.getElem?_eq_getElem hi]; rfl)] at this
  have HR : Hid (∀ i, i < (stA s).length → ∀ W, Calls Try.prog 18 #[.string s, .int .i64 ((stA s).getD i 0 : Nat)] W fun e w' => e = .returned (.int .i64 (i : Int)) ∧ Below W.heap.size W w') := fun i hi W => by
    have := runes_any s ((stA s).getD i 0 : Nat) W (by omega)
    rwa [Int.toNat_natCast, runes_at s i ((stA s).getD i 0) (by rw [List.getD_eq_getElem?_getD, List.getElem?_eq_getElem hi]; rfl)] at this
  have HPe : Hid (∀ W, Calls Try.prog 20 #[.string s, .int .i64 ((stA s).length : Int)] W fun e w' => e = .returned (.int .i64 (s.size : Nat)) ∧ Below W.heap.size W w') := fun W => by
    have := place_any s ((stA s).length : Int) W (by omega)
    rwa [Int.toNat_natCast, place_end s _ (Nat.le_refl _)] at this
  have HRe : Hid (∀ W, Calls Try.prog 18 #[.string s, .int .i64 (s.size : Int)] W fun e w' => e = .returned (.int .i64 ((stA s).length : Nat)) ∧ Below W.heap.size W w') := fun W => by
    have := runes_any s (s.size : Int) W (by omega)
    rwa [Int.toNat_natCast, runes_end s] at this
  obtain ⟨l, hll⟩ : ∃ l, stA s = l := ⟨_, rfl⟩
  rw [hll] at HS HP HR HPe HRe hl
  clear hll
  go_enter Try.func5, Try.ntmps5
  go_wp2_with fail
  go_fit HS.out
  rintro e w1 ⟨v, rfl, hown, b1⟩
  obtain ⟨A, ca, rfl, hv⟩ := slice_of hown
  obtain ⟨n, hn⟩ : ∃ n, l.length = n := ⟨_, rfl⟩
  rw [hn] at hv hl HP HR HPe HRe ⊢
  have HV := Lib.hid hv
  have hsz := b1.size
  clear hown hv hn HS
  go_wp2
  go_loopw [4] (fun s4 wr => ∃ i : Nat, s4 = .int .i64 (i : Int) ∧ i ≤ n ∧ Below w1.heap.size w1 wr) (fun s4 _ => n - (intOf s4).toNat)
  case atStart => exact ⟨0, rfl, Nat.zero_le _, Below.refl _ _⟩
  case round =>
    obtain ⟨i, rfl, hi, hbw⟩ := hrel
    by_cases hlt : i < n
    · obtain ⟨g, rfl, hg, hca, hcm, hc⟩ := HV.out.resolve_left (by omega)
      have hP := HP.out i hlt
      have hR := HR.out i hlt
      have hcell := hc i hlt
      obtain ⟨x, hx⟩ : ∃ x, l.getD i 0 = x := ⟨_, rfl⟩
      rw [hx] at hP hR hcell
      have HP1 := Lib.hid hP
      have HR1 := Lib.hid hR
      have HK : Hid (∀ W, Below wr.heap.size wr W → W.cell? ⟨g, i, none⟩ = some (.int .i64 (x : Int))) := fun W hW => by
        rw [(hbw.trans (hW.mono hbw.size)).cell (p := ⟨g, i, none⟩) hg]; exact hcell
      have hcw := HK.out wr (Below.refl _ _)
      have hix0 : (0 : Int) ≤ (i : Int) := by omega
      have hix1 : (i : Int) < (n : Int) := by omega
      clear hP hR hc hx HP HR HPe HRe HD HV hcell
      go_wp2
      go_region_held3 (fun W => W.cell? ⟨g, i, none⟩ = some (.int .i64 (x : Int))) (first | go_keep | exact HK.out _ ⟨hb.os, hb.tape, hb.output, hb.size, hb.block⟩ | exact HK.out _ (Below.trans ⟨hb.os, hb.tape, hb.output, hb.size, hb.block⟩ (hb2.mono hb.size)))
        (first | (go_at_call 20; go_must (go_fit (HP1.out _)); rintro e w' ⟨rfl, hb⟩) | (go_at_call 18; go_must (go_fit (HR1.out _)); rintro e w' ⟨rfl, hb2⟩))
      have hw : Below wr.heap.size wr w' := Below.trans ⟨hb.os, hb.tape, hb.output, hb.size, hb.block⟩ (hb2.mono hb.size)
      have hk := hbw.trans (hw.mono hbw.size)
      clear hb hb2 hw HP1 HR1 HK
      go_wp2
      go_roundw
      case rel => exact ⟨i + 1, by go_num, by omega, hk⟩
      case measure => simp [intOf]; omega
    · obtain rfl : i = n := by omega
      clear HP HR HV
      go_wp2_with fail
      go_fit (HPe.out _)
      rintro e w2 ⟨rfl, b2⟩
      have k := hbw.trans (b2.mono hbw.size)
      clear b2
      go_wp2_with fail
      go_fit (HRe.out _)
      rintro e w3 ⟨rfl, b3⟩
      have k := k.trans (b3.mono k.size)
      clear b3
      go_wp2_with fail
      go_fit (HD.out _)
      rintro e w4 ⟨rfl, b4⟩
      have k := k.trans (b4.mono k.size)
      clear b4
      go_wp2
      go_ret
      exact ⟨rfl, b1.trans (k.mono hsz)⟩
theorem placesRunes_any (s : ByteArray) (w : World) :
    Calls Try.prog 5 #[.string s] w fun e w' => e = .returned (.bool true) ∧ Below w.heap.size w w' := by
  by_cases h : s.size ≤ 1000
  · exact placesRunes_near s w h
  · exact placesRunes_far s w (by omega)
-- FRAME
theorem placesRunes_own : ownKnob Try.prog.godebug = none := by kernel_rfl

set_option maxRecDepth 100000 in
theorem placesRunes_lifted (os : Os) (started : os.Started) (H : Type) (enc : TypeId × Value → H) :
    ReturnsInHanded {} Try.checked os 5 .any (Rows.placesRunesSpec.pre6 enc Try.prog Try.f5 Rows.placesRunesRow.domain false) (Rows.placesRunesSpec.post enc Try.prog Try.f5 false true false false) := by
  refine returnsInHanded_of_change (C := Try.checked) placesRunes_own started (by kernel_rfl) Try.func5
    (ChangeSpec.witness6 (enc := enc) (C := Try.checked) false ⟨#[], #[.string ⟨#[]⟩], []⟩ 8 (by kernel_rfl) (by kernel_rfl) (by kernel_rfl) (by kernel_rfl)) ?_
  intro W base args ds gs before hval0 hW hcnd _
  have hval : ∀ (j : Nat) t v, Try.f5.params[j]? = some t → args[j]? = some v → Value.okWide Try.prog W .any base t v := hval0
  have hW' := hW
  obtain ⟨p, q, hA0, hV, rfl, hfz, hnd⟩ := hW
  have hA : DataW.TrodAll enc Try.prog W 0 (fun _ => true) true Try.f5.params.toList args.toList ds p := hA0
  rw [Try.params5] at hA hval
  obtain ⟨v0, d0, rfl, rfl, h0⟩ := trodAll_one hA
  obtain ⟨rfl, rfl⟩ := trodVars_none hV
  obtain ⟨x0, rfl, rfl, rfl, wr0⟩ := open_string Try.underlying9 (hval 0 9 v0 rfl rfl) h0
  clear hA0 hval0
  simp only [List.append_nil] at hW'
  refine (placesRunes_any x0 W).mono fun e W' ⟨he, hw⟩ => ?_
  subst he
  exact ⟨_, rfl, _, _, _, [], [], [], hW', trodAll_mk1 (shut_bool Try.underlying4 _), trodAll_mk1 (shut_string Try.underlying9 wr0), rfl, hw.frame _, fun h => by cases h⟩

theorem placesRunes_holds : Rows.PlacesRunesSaid :=
  OpenClaim.holds_of_wide 5 Try.f5 rfl rfl rfl rfl rfl rfl rfl ⟨rfl, rfl, rfl, rfl, rfl⟩ rfl rfl rfl rfl rfl (by kernel_rfl) Try.func5 (by kernel_rfl)
    (of_decide_eq_true (by kernel_rfl)) (by unfold Func.isWrapper; first | (rw [if_pos (by decide +kernel)]; kernel_rfl) | (rw [if_neg (by decide +kernel)]; exact ⟨rfl, rfl⟩))
    (fun os started H enc _ => placesRunes_lifted os started H enc)
end Go.Proofs.Ytdkoonnimfildaa
