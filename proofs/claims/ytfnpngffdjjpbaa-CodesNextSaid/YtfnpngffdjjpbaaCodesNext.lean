/-
  For every text and every place, which rune stands there, and which one ahead of it, is the document's; the chapter's examples hold: limnerlaw01.CodesNext returns true. No condition (a text of more than 300 bytes: the examples alone, as the law says).
-/
import Derived.Test.YtfnpngffdjjpbaaRefList
import Derived.Test.YtfnpngffdjjpbaaChain
import Derived.Test.YtfnpngffdjjpbaaRead
import Derived.ProofKit
namespace Go.Proofs.Ytfnpngffdjjpbaa
open Go.ChangeShapes Go.WideShapes Go.ChangeAt Go.RowKit
open Go.ChangeMaps (open_string shut_string)

/-- What Next tells, whatever the place. -/
def nxR (s : ByteArray) (i : Int) : Int := if 0 ≤ i ∧ i < s.size then ((Utf8.decode s i.toNat).1 : Int) else 0
def nxW (s : ByteArray) (i : Int) : Int := if 0 ≤ i ∧ i < s.size then ((Utf8.decode s i.toNat).2 : Int) else 0
def nxO (s : ByteArray) (i : Int) : Bool := if 0 ≤ i ∧ i < s.size then okAt s i.toNat else false
/-- What Back tells, whatever the place. -/
def bkU (s : ByteArray) (i : Int) : ByteArray := s.extract 0 i.toNat
def bkR (s : ByteArray) (i : Int) : Int := if 0 < i ∧ i ≤ s.size then ((Utf8.decode (bkU s i) (lastA (bkU s i))).1 : Int) else 0
def bkW (s : ByteArray) (i : Int) : Int := if 0 < i ∧ i ≤ s.size then ((Utf8.decode (bkU s i) (lastA (bkU s i))).2 : Int) else 0
def bkO (s : ByteArray) (i : Int) : Bool := if 0 < i ∧ i ≤ s.size then okAt (bkU s i) (lastA (bkU s i)) else false

theorem next_all (s : ByteArray) (i : Int) (w : World) (hs : s.size ≤ maxLen) :
    Calls Try.prog 10 #[.string s, .int .i64 i] w fun e w' => e = .returned (.tuple #[.int .i32 (nxR s i), .int .i64 (nxW s i), .bool (nxO s i)]) ∧ Below w.heap.size w w' := by
  unfold nxR nxW nxO
  by_cases h : 0 ≤ i ∧ i < s.size
  · rw [if_pos h, if_pos h, if_pos h]; exact next_in s i w h.1 h.2 hs
  · rw [if_neg h, if_neg h, if_neg h]; exact (next_out s i w (by omega)).mono fun _ _ ⟨a, b⟩ => ⟨a, b ▸ Below.refl _ _⟩
theorem refNext_all (s : ByteArray) (i : Int) (w : World) (hs : s.size ≤ maxLen) :
    Calls Try.prog 11 #[.string s, .int .i64 i] w fun e w' => e = .returned (.tuple #[.int .i32 (nxR s i), .int .i64 (nxW s i), .bool (nxO s i)]) ∧ Below w.heap.size w w' := by
  unfold nxR nxW nxO
  by_cases h : 0 ≤ i ∧ i < s.size
  · rw [if_pos h, if_pos h, if_pos h]
    obtain ⟨k, rfl⟩ := Int.eq_ofNat_of_zero_le h.1
    exact refNext_in s k w (by omega) hs
  · rw [if_neg h, if_neg h, if_neg h]; exact (refNext_out s i w (by omega)).mono fun _ _ ⟨a, b⟩ => ⟨a, b ▸ Below.refl _ _⟩
theorem back_all (s : ByteArray) (i : Int) (w : World) (hs : s.size ≤ maxLen) :
    Calls Try.prog 12 #[.string s, .int .i64 i] w fun e w' => e = .returned (.tuple #[.int .i32 (bkR s i), .int .i64 (bkW s i), .bool (bkO s i)]) ∧ Below w.heap.size w w' := by
  unfold bkR bkW bkO
  by_cases h : 0 < i ∧ i ≤ s.size
  · rw [if_pos h, if_pos h, if_pos h]
    obtain ⟨k, rfl⟩ := Int.eq_ofNat_of_zero_le (a := i) (by omega)
    have hb := back_four s k (by omega) (by omega)
    have := back_in s k w (by omega) (by omega) hs _ rfl
    rw [hb.1, hb.2] at this
    exact this
  · rw [if_neg h, if_neg h, if_neg h]; exact (back_out s i w (by omega)).mono fun _ _ ⟨a, b⟩ => ⟨a, b ▸ Below.refl _ _⟩
theorem refBack_all (s : ByteArray) (i : Int) (w : World) (hs : s.size ≤ 1000000) :
    Calls Try.prog 13 #[.string s, .int .i64 i] w fun e w' => e = .returned (.tuple #[.int .i32 (bkR s i), .int .i64 (bkW s i), .bool (bkO s i)]) ∧ Below w.heap.size w w' := by
  unfold bkR bkW bkO
  by_cases h : 0 < i ∧ i ≤ s.size
  · rw [if_pos h, if_pos h, if_pos h]
    obtain ⟨k, rfl⟩ := Int.eq_ofNat_of_zero_le (a := i) (by omega)
    exact refBack_in s k w (by omega) (by omega) hs _ rfl
  · rw [if_neg h, if_neg h, if_neg h]; exact (refBack_out s i w (by omega)).mono fun _ _ ⟨a, b⟩ => ⟨a, b ▸ Below.refl _ _⟩

set_option maxRecDepth 100000 in
set_option maxHeartbeats 4000000 in
theorem codesNext_any (s : ByteArray) (at' : Int) (w : World) :
    Calls Try.prog 3 #[.string s, .int .i64 at'] w fun e w' => e = .returned (.bool true) ∧ Below w.heap.size w w' := by
  by_cases h : 300 < s.size
  · go_enter Try.func3, Try.ntmps3
    go_wp2_with fail
    refine (read_any _).mono ?_
    rintro e w3 ⟨rfl, hb3⟩
    go_wp2_with fail
    go_ret
    exact ⟨rfl, hb3⟩
  · have h1 := Lib.hid (fun i w => next_all s i w (by unfold maxLen; omega))
    have h2 := Lib.hid (fun i w => refNext_all s i w (by unfold maxLen; omega))
    have h3 := Lib.hid (fun i w => back_all s i w (by unfold maxLen; omega))
    have h4 := Lib.hid (fun i w => refBack_all s i w (by omega))
    go_enter Try.func3, Try.ntmps3
    go_wp2_with fail
    go_loopw [5] (fun k wr => ∃ n : Int, k = .int .i64 n ∧ -1 ≤ n ∧ n ≤ s.size + 2 ∧ Below w.heap.size w wr) (fun k _ => (s.size + 2 - intOf k).toNat)
    case atStart => exact ⟨-1, rfl, by omega, by omega, Below.refl _ _⟩
    case round =>
      obtain ⟨n, rfl, hn1, hn2, hbw⟩ := hrel
      have hsz := hbw.size
      by_cases hlt : n ≤ s.size + 1
      · have hend : ∃ I : Int, I = (if n = s.size + 1 then at' else n) := ⟨_, rfl⟩
        obtain ⟨I, hI⟩ := hend
        by_cases he : n = s.size + 1
        all_goals
          clear hI
          go_wp2_with fail
          refine (h1.out _ _).mono ?_
          rintro e w1 ⟨rfl, hb1⟩
          go_wp2_with fail
          refine (h2.out _ _).mono ?_
          rintro e w2 ⟨rfl, hb2⟩
          go_wp2_with fail
          refine (h3.out _ _).mono ?_
          rintro e w3 ⟨rfl, hb3⟩
          go_wp2_with fail
          refine (h4.out _ _).mono ?_
          rintro e w4 ⟨rfl, hb4⟩
          have g1 := hbw.trans (hb1.mono hsz)
          have g2 := g1.trans (hb2.mono g1.size)
          have g3 := g2.trans (hb3.mono g2.size)
          have g4 := g3.trans (hb4.mono g3.size)
          clear hb1 hb2 hb3 hb4 g1 g2 g3 hbw hsz
          go_wp2_with fail
          go_roundw
          case rel => exact ⟨_, rfl, by omega, by omega, g4⟩
          case measure => simp [intOf]; omega
      · go_wp2_with fail
        refine (read_any _).mono ?_
        rintro e w3 ⟨rfl, hb3⟩
        go_wp2_with fail
        go_ret
        exact ⟨rfl, hbw.trans (hb3.mono hsz)⟩

theorem nextOwn : ownKnob Try.prog.godebug = none := by kernel_rfl

set_option maxRecDepth 100000 in
theorem codesNext_lifted (os : Os) (started : os.Started) (H : Type) (enc : TypeId × Value → H) :
    ReturnsInHanded {} Try.checked os 3 .any (Rows.codesNextSpec.pre6 enc Try.prog Try.f3 Rows.codesNextRow.domain false) (Rows.codesNextSpec.post enc Try.prog Try.f3 false true false false) := by
  refine returnsInHanded_of_change (C := Try.checked) nextOwn started (by kernel_rfl) Try.func3
    (ChangeSpec.witness6 (enc := enc) (C := Try.checked) false ⟨#[], #[.string ⟨#[]⟩, .int .i64 0], []⟩ 8 (by kernel_rfl) (by kernel_rfl) (by kernel_rfl) (by kernel_rfl)) ?_
  intro W base args ds gs before hval0 hW hcnd _
  have hval : ∀ (j : Nat) t v, Try.f3.params[j]? = some t → args[j]? = some v → Value.okWide Try.prog W .any base t v := hval0
  have hW' := hW
  obtain ⟨p, q, hA0, hV, rfl, hfz, hnd⟩ := hW
  have hA : DataW.TrodAll enc Try.prog W 0 (fun _ => true) true Try.f3.params.toList args.toList ds p := hA0
  rw [Try.params3] at hA hval
  obtain ⟨v0, v1, d0, d1, p0, p1, rfl, rfl, rfl, h0, h1⟩ := trodAll_two hA
  obtain ⟨rfl, rfl⟩ := trodVars_none hV
  obtain ⟨s, rfl, rfl, rfl, ws⟩ := open_string Try.underlying9 (hval 0 9 v0 rfl rfl) h0
  obtain ⟨r, rfl, rfl, rfl, wr⟩ := open_int Try.underlying3 (hval 1 3 v1 rfl rfl) h1
  clear hA0 hval0
  simp only [List.append_nil] at hW'
  refine (codesNext_any s r W).mono fun e W' ⟨he, hw⟩ => ?_
  subst he
  exact ⟨_, rfl, _, _, _, [], [], [], hW', trodAll_mk1 (shut_bool Try.underlying4 _), trodAll_mk2 (shut_string Try.underlying9 ws) (shut_int Try.underlying3 wr), rfl, hw.frame _, fun h => by cases h⟩

theorem codesNext_holds : Rows.CodesNextSaid :=
  OpenClaim.holds_of_wide 3 Try.f3 rfl rfl rfl rfl rfl rfl rfl ⟨rfl, rfl, rfl, rfl, rfl⟩ rfl rfl rfl rfl rfl (by kernel_rfl) Try.func3 (by kernel_rfl)
    (of_decide_eq_true (by kernel_rfl)) (by unfold Func.isWrapper; first | (rw [if_pos (by decide +kernel)]; kernel_rfl) | (rw [if_neg (by decide +kernel)]; exact ⟨rfl, rfl⟩))
    (fun os started H enc _ => codesNext_lifted os started H enc)
end Go.Proofs.Ytfnpngffdjjpbaa
