/-
  A text is taken apart just once: its parts, one behind the other, are its bytes, and from its end they are the same; the chapter's examples hold: limnerlaw01.CodesParts returns true. No condition (a text of more than 1000 bytes: the examples alone, as the law says).
-/
import Derived.Test.YtfnpngffdjjpbaaRefList
import Derived.Test.YtfnpngffdjjpbaaJoin
import Derived.Test.YtfnpngffdjjpbaaRead
import Derived.ProofKit
namespace Go.Proofs.Ytfnpngffdjjpbaa
open Go.ChangeShapes Go.WideShapes Go.ChangeAt Go.RowKit
open Go.ChangeMaps (open_string shut_string)

/-- Back from the end of part j: that part. -/
theorem back_part (s : ByteArray) (j : Nat) (w : World) (hj : posN s j < s.size) (hs : s.size ≤ maxLen) :
    Calls Try.prog 12 #[.string s, .int .i64 (posN s (j + 1) : Int)] w fun e w' => e = .returned (.tuple #[.int .i32 ((Utf8.decode s (posN s j)).1 : Int), .int .i64 ((Utf8.decode s (posN s j)).2 : Int), .bool (okAt s (posN s j))]) ∧ Below w.heap.size w w' := by
  have hle := posN_le s (j + 1)
  have e := posN_succ s j hj
  have hw := decW s _ hj
  obtain ⟨h1, h2⟩ := head_last s j hj
  have hb := back_four s (posN s (j + 1)) (by omega) hle
  have hk := back_in s (posN s (j + 1)) w (by omega) hle hs _ rfl
  rw [hb.1, hb.2, h1, h2, okAt_of _ _ _ _ h2] at hk
  exact hk

set_option maxRecDepth 100000 in
set_option maxHeartbeats 4000000 in
theorem codesParts_any (s : ByteArray) (w : World) :
    Calls Try.prog 7 #[.string s] w fun e w' => e = .returned (.bool true) ∧ Below w.heap.size w w' := by
  by_cases h : 1000 < s.size
  · go_enter Try.func7, Try.ntmps7
    go_wp2_with fail
    refine (read_any _).mono ?_
    rintro e w3 ⟨rfl, hb3⟩
    go_wp2_with fail
    go_ret
    exact ⟨rfl, hb3⟩
  · have hmx : s.size ≤ maxLen := by unfold maxLen; omega
    have hl := stA_length s
    have H1 := Lib.hid (fun w => starts_any s w (by omega))
    have HG := Lib.hid (fun j hj => stA_getD s j hj)
    have HL := Lib.hid (fun j => (posN_lt s j).1)
    have HE := Lib.hid (posN_len s)
    have HN := Lib.hid (fun j w (hj : posN s j < s.size) => next_in s (posN s j : Int) w (by omega) (by omega) hmx)
    have HB := Lib.hid (fun j w (hj : posN s j < s.size) => back_part s j w hj hmx)
    have HS := Lib.hid (fun j hj => posN_succ s j hj)
    have HW := Lib.hid (fun j (hj : posN s j < s.size) => decW s _ hj)
    obtain ⟨l, hle⟩ : ∃ l, stA s = l := ⟨_, rfl⟩
    rw [hle] at H1 HG HL HE hl
    clear hle
    go_enter Try.func7, Try.ntmps7
    go_wp2_with fail
    refine (H1.out _).mono ?_
    rintro e w1 ⟨v, rfl, hown, hb1⟩
    obtain ⟨A, ca, rfl, hv⟩ := slice_of hown
    clear H1 hown
    obtain ⟨n, hn⟩ : ∃ n, l.length = n := ⟨_, rfl⟩
    rw [hn] at hv HG HL HE hl
    have HV := Lib.hid hv
    have hsz := hb1.size
    rw [hn]
    clear hn hv
    go_wp2_with fail
    go_loopw [4, 5] (fun a i wr => ∃ j : Nat, i = .int .i64 (j : Int) ∧ a = .int .i64 (posN s j : Int) ∧ j ≤ n ∧ Below w1.heap.size w1 wr) (fun _ i _ => n - (intOf i).toNat)
    case atStart => exact ⟨0, rfl, rfl, Nat.zero_le _, Below.refl _ _⟩
    case round =>
      obtain ⟨j, rfl, rfl, hj, hbw⟩ := hrel
      by_cases hp : j < n
      · rcases HV.out with h | ⟨g, rfl, hg, hca, hcm, hcell⟩
        · omega
        have hlt := HL.out j hp
        have hw := HW.out j hlt
        have hs1 := HS.out j hlt
        have hN := HN.out j
        have hcl := hcell j hp
        rw [HG.out j hp] at hcl
        rw [Int.toNat_natCast] at hN
        obtain ⟨x, hx⟩ : ∃ x, posN s j = x := ⟨_, rfl⟩
        rw [hx] at hlt hw hs1 hN hcl ⊢
        obtain ⟨K, hK⟩ : ∃ K, (Utf8.decode s x).2 = K := ⟨_, rfl⟩
        rw [hK] at hw hs1 hN
        have HX := Lib.hid hs1
        have HNX := Lib.hid hN
        obtain ⟨hw1, hw2⟩ := hw
        have hc2 : ∀ W, Below wr.heap.size wr W → W.cell? ⟨g, j, none⟩ = some (.int .i64 (x : Int)) := fun W hW => by
          rw [(hbw.trans (hW.mono hbw.size)).cell (p := ⟨g, j, none⟩) hg]; exact hcl
        have HC := Lib.hid hc2
        clear hx hK hs1 hN hcl hcell hc2
        go_wp2_with fail
        refine (HNX.out _ hlt).mono ?_
        rintro e w2 ⟨rfl, hb2⟩
        have hc3 := HC.out w2 hb2
        have hbw2 := hbw.trans (hb2.mono hbw.size)
        clear hb2 hbw
        go_wp2_with fail
        go_roundw
        case rel => exact ⟨j + 1, by go_num, by rw [HX.out]; go_num, by omega, hbw2⟩
        case measure => simp [intOf]; omega
      · obtain rfl : j = n := by omega
        rw [HE.out]
        go_wp2_with fail
        go_loopw [4, 9] (fun a i wr => ∃ (k : Nat) (z : Int), i = .int .i64 z ∧ z + 1 = (k : Int) ∧ a = .int .i64 (posN s k : Int) ∧ k ≤ j ∧ Below w1.heap.size w1 wr) (fun _ i _ => (intOf i + 1).toNat)
        case atStart => exact ⟨j, _, rfl, by omega, by rw [HE.out], Nat.le_refl _, hbw⟩
        case round =>
          obtain ⟨k, z, rfl, hz, rfl, hk, hbw⟩ := hrel
          have hszr := hbw.size
          cases k with
          | zero =>
            obtain rfl : z = -1 := by omega
            rw [show (posN s 0 : Int) = 0 from rfl]
            go_wp2_with fail
            refine (read_any _).mono ?_
            rintro e w3 ⟨rfl, hb3⟩
            go_wp2_with fail
            go_ret
            exact ⟨rfl, hb1.trans ((hbw.trans (hb3.mono hszr)).mono hsz)⟩
          | succ m =>
            obtain rfl : z = (m : Int) := by omega
            clear hz
            rcases HV.out with h | ⟨g, rfl, hg, hca, hcm, hcell⟩
            · omega
            have hlt := HL.out m (by omega)
            have hw := HW.out m hlt
            have hs1 := HS.out m hlt
            have hB := HB.out m
            have hcl := hcell m (by omega)
            rw [HG.out m (by omega)] at hcl
            obtain ⟨x, hx⟩ : ∃ x, posN s m = x := ⟨_, rfl⟩
            obtain ⟨y, hy⟩ : ∃ y, posN s (m + 1) = y := ⟨_, rfl⟩
            rw [hx] at hlt hw hs1 hB hcl
            rw [hy] at hs1 hB ⊢
            obtain ⟨K, hK⟩ : ∃ K, (Utf8.decode s x).2 = K := ⟨_, rfl⟩
            rw [hK] at hw hs1 hB
            have HX := Lib.hid hx
            have HNX := Lib.hid hB
            obtain ⟨hw1, hw2⟩ := hw
            have hyx : (y : Int) - (K : Int) = (x : Int) := by omega
            have HYX := Lib.hid hyx
            have hc2 : ∀ W, Below wr.heap.size wr W → W.cell? ⟨g, m, none⟩ = some (.int .i64 (x : Int)) := fun W hW => by
              rw [(hbw.trans (hW.mono hbw.size)).cell (p := ⟨g, m, none⟩) hg]; exact hcl
            have HC := Lib.hid hc2
            have hy1 : y ≤ 1000 := by omega
            have hy2 : K ≤ y := by omega
            clear hx hy hK hs1 hB hcl hcell hc2
            go_wp2_with fail
            refine (HNX.out _ hlt).mono ?_
            rintro e w2 ⟨rfl, hb2⟩
            have hc3 := HC.out w2 hb2
            have hbw2 := hbw.trans (hb2.mono hbw.size)
            clear hb2 hbw
            go_wp2_with fail
            go_roundw
            case rel => exact ⟨m, _, rfl, by omega, by rw [HX.out], by omega, hbw2⟩
            case measure => simp [intOf]

theorem partsOwn : ownKnob Try.prog.godebug = none := by kernel_rfl

set_option maxRecDepth 100000 in
theorem codesParts_lifted (os : Os) (started : os.Started) (H : Type) (enc : TypeId × Value → H) :
    ReturnsInHanded {} Try.checked os 7 .any (Rows.codesPartsSpec.pre6 enc Try.prog Try.f7 Rows.codesPartsRow.domain false) (Rows.codesPartsSpec.post enc Try.prog Try.f7 false true false false) := by
  refine returnsInHanded_of_change (C := Try.checked) partsOwn started (by kernel_rfl) Try.func7
    (ChangeSpec.witness6 (enc := enc) (C := Try.checked) false ⟨#[], #[.string ⟨#[]⟩], []⟩ 8 (by kernel_rfl) (by kernel_rfl) (by kernel_rfl) (by kernel_rfl)) ?_
  intro W base args ds gs before hval0 hW hcnd _
  have hval : ∀ (j : Nat) t v, Try.f7.params[j]? = some t → args[j]? = some v → Value.okWide Try.prog W .any base t v := hval0
  have hW' := hW
  obtain ⟨p, q, hA0, hV, rfl, hfz, hnd⟩ := hW
  have hA : DataW.TrodAll enc Try.prog W 0 (fun _ => true) true Try.f7.params.toList args.toList ds p := hA0
  rw [Try.params7] at hA hval
  obtain ⟨v0, d0, rfl, rfl, h0⟩ := trodAll_one hA
  obtain ⟨rfl, rfl⟩ := trodVars_none hV
  obtain ⟨s, rfl, rfl, rfl, ws⟩ := open_string Try.underlying9 (hval 0 9 v0 rfl rfl) h0
  clear hA0 hval0
  simp only [List.append_nil] at hW'
  refine (codesParts_any s W).mono fun e W' ⟨he, hw⟩ => ?_
  subst he
  exact ⟨_, rfl, _, _, _, [], [], [], hW', trodAll_mk1 (shut_bool Try.underlying4 _), trodAll_mk1 (shut_string Try.underlying9 ws), rfl, hw.frame _, fun h => by cases h⟩

theorem codesParts_holds : Rows.CodesPartsSaid :=
  OpenClaim.holds_of_wide 7 Try.f7 rfl rfl rfl rfl rfl rfl rfl ⟨rfl, rfl, rfl, rfl, rfl⟩ rfl rfl rfl rfl rfl (by kernel_rfl) Try.func7 (by kernel_rfl)
    (of_decide_eq_true (by kernel_rfl)) (by unfold Func.isWrapper; first | (rw [if_pos (by decide +kernel)]; kernel_rfl) | (rw [if_neg (by decide +kernel)]; exact ⟨rfl, rfl⟩))
    (fun os started H enc _ => codesParts_lifted os started H enc)
end Go.Proofs.Ytfnpngffdjjpbaa
