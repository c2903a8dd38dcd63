/-
  limnerref07.whole, Begins: what each call returns: for every text.
-/
import Derived.Deep.DeepFit
import Derived.Test.YtdnldfgolbcjiaaDoorBe16
import Derived.Test.YtdnldfgolbcjiaaDoorBe3
import Derived.Test.YtdnldfgolbcjiaaDoorBe38
namespace Go.Proofs.YtdnldfgolbcjiaaDoor
open Go.RowKit

set_option maxHeartbeats 2000000 in
theorem whole_any (s : ByteArray) (w : World) (h0 : 0 < s.size) (hs : s.size ≤ maxLen) :
    Calls Tryd.prog 48 #[.string s] w fun e w' => e = .returned (.bool (wholeB s)) ∧ Below w.heap.size w w' := by
  have H := Lib.hid (refNext_in s 0 w h0 hs)
  have HR : Hid (wholeB s = (okAt s 0 && decide ((Utf8.decode s 0).2 = s.size))) := rfl
  rw [HR.out]
  obtain ⟨R, hR⟩ : ∃ R, (Utf8.decode s 0).1 = R := ⟨_, rfl⟩
  obtain ⟨K, hK⟩ : ∃ K, (Utf8.decode s 0).2 = K := ⟨_, rfl⟩
  rw [hR, hK] at H
  rw [hK]
  clear hR hK HR
  cases hb : okAt s 0 with
  | false =>
    rw [hb] at H
    clear hb
    go_enter Tryd.func48, Tryd.ntmps48
    go_wp2_with fail
    go_fit H.out
    rintro e w1 ⟨rfl, hb1⟩
    go_wp2_with fail
    go_ret
    exact ⟨rfl, hb1⟩
  | true =>
    rw [hb] at H
    clear hb
    go_enter Tryd.func48, Tryd.ntmps48
    go_wp2_with fail
    go_fit H.out
    rintro e w1 ⟨rfl, hb1⟩
    go_wp2_with fail
    go_ret
    refine ⟨?_, hb1⟩
    congr 2
    by_cases e : K = s.size
    · rw [e]; simp
    · have e1 : ((K : Int) == (s.size : Int)) = false := beq_false_of_ne (by omega)
      rw [e1]; simp [e]

/-- How long a text is. -/
def strSz : Value → Nat
  | .string s => s.size
  | _ => 0
set_option maxRecDepth 20000 in
set_option maxHeartbeats 4000000 in
theorem begins_any (s : ByteArray) (w : World) (hs : s.size ≤ 100000) (h0 : 0 < s.size) :
    Calls Tryd.prog 30 #[.string s] w fun e w' => e = .returned (.bool (begB s)) ∧ Below w.heap.size w w' := by
  have e0 : (s[0].toNat : Int) = (bt s 0 : Int) := by unfold bt; rw [show s.get! 0 = s[0] from get_at s 0 h0]
  have hl := bt_lt s 0
  have hbf := beg_first s
  have hbp := beg_pad s
  have HX := Lib.hid (fun (r : Bool) (h : r = true ↔ Beg s) => (show begB s = r by unfold begB; cases r <;> simp_all))
  have hne : s.toList.isEmpty = false := by
    cases h : s.toList with
    | nil => rw [Lib.toList_data] at h; have h2 := Lib.size_eq s; rw [h] at h2; have h3 : s.size = 0 := h2; omega
    | cons _ _ => rfl
  have hne2 : (s.toList == []) = false := by
    cases h : s.toList with
    | nil => rw [h] at hne; cases hne
    | cons _ _ => rfl
  obtain ⟨b, hb⟩ : ∃ b, bt s 0 = b := ⟨_, rfl⟩
  rw [hb] at e0 hl hbf hbp
  have HBF := Lib.hid hbf
  have HBP := Lib.hid hbp
  clear hbf hbp hb
  by_cases h1 : b < 194
  · have i1 : (b : Int) < 194 := by omega
    have HR : Hid (begB s = false) := HX.out false ⟨(fun h => by cases h), fun h => by have := (HBF.out h).2.1; omega⟩
    clear HX HBF HBP
    go_enter Tryd.func30, Tryd.ntmps30
    go_wp2_with fail
    go_ret
    exact ⟨by rw [HR.out]; rfl, Below.refl _ _⟩
  · have i1 : (194 : Int) ≤ (b : Int) := by omega
    by_cases h2 : 244 < b
    · have i2 : (244 : Int) < (b : Int) := by omega
      have HR : Hid (begB s = false) := HX.out false ⟨(fun h => by cases h), fun h => by have := (HBF.out h).2.2.1; omega⟩
      clear HX HBF HBP
      go_enter Tryd.func30, Tryd.ntmps30
      go_wp2_with fail
      go_ret
      exact ⟨by rw [HR.out]; rfl, Below.refl _ _⟩
    · have i2 : (b : Int) ≤ 244 := by omega
      by_cases k1 : b < 224
      · have j1 : (b : Int) < 224 := by omega
        have j2 : (b : Int) < 240 := by omega
        have hlen : lenN b = 2 := by
          unfold lenN
          rw [if_pos (by omega)]
        rw [hlen] at HBP HBF
        by_cases hn : s.size < 2
        · have hni : (s.size : Int) < 2 := by omega
          have HPB := Lib.hid (HBP.out (by omega) (by omega) h0 hn)
          have WA := Lib.hid (fun c W => whole_any (padB s c 2) W (by rw [pad_size _ _ _ (by omega)]; decide) (by rw [pad_size _ _ _ (by omega)]; decide))
          have PZ := Lib.hid (fun c => pad_zero s c s.size (Nat.le_refl _))
          have PT := Lib.hid (fun t c (h1 : t = padB s c t.size) (h2 : s.size ≤ t.size) (h3 : t.size < 2) => pad_step s t c 2 h3 h1 h2)
          clear HBF HBP hlen
          go_enter Tryd.func30, Tryd.ntmps30
          go_wp2_with fail
          go_loop [4, 5] (fun lo hi => ∃ L H : ByteArray, lo = .string L ∧ hi = .string H ∧ L.size = H.size ∧ s.size ≤ L.size ∧ L.size ≤ 2 ∧ Hid (L = padB s 128 L.size) ∧ Hid (H = padB s 191 H.size)) (fun lo _ => 2 - strSz lo)
          case atStart => exact ⟨s, s, rfl, rfl, rfl, Nat.le_refl _, by omega, (PZ.out 128).symm, (PZ.out 191).symm⟩
          case round =>
            obtain ⟨L, H, rfl, rfl, hLH, hsL, hLn, HL, HH⟩ := hrel
            by_cases hr : L.size < 2
            · have hri : (L.size : Int) < 2 := by omega
              have q1 := PT.out L 128 HL.out hsL hr
              have q2 := PT.out H 191 HH.out (by omega) (by omega)
              have z1 : (L ++ ⟨#[128]⟩).size = L.size + 1 := by rw [app_size]; rfl
              have z2 : (H ++ ⟨#[191]⟩).size = H.size + 1 := by rw [app_size]; rfl
              have HL2 : Hid (L ++ ⟨#[128]⟩ = padB s 128 (L ++ ⟨#[128]⟩).size) := by show _ = _; rw [z1]; exact q1
              have HH2 : Hid (H ++ ⟨#[191]⟩ = padB s 191 (H ++ ⟨#[191]⟩).size) := by show _ = _; rw [z2]; exact q2
              clear q1 q2 PT
              go_wp2_with fail
              go_round
              case rel => exact ⟨_, _, rfl, rfl, by rw [z1, z2, hLH], by rw [z1]; omega, by rw [z1]; omega, HL2, HH2⟩
              case measure => show 2 - (L ++ _).size < 2 - L.size; rw [z1]; omega
            · have e1 : L.size = 2 := by omega
              have HL2 : Hid (L = padB s 128 2) := by show _ = _; have := HL.out; rw [e1] at this; exact this
              have HH2 : Hid (H = padB s 191 2) := by show _ = _; have := HH.out; rw [← hLH, e1] at this; exact this
              have W1 := Lib.hid (fun W => WA.out 128 W)
              have W2 := Lib.hid (fun W => WA.out 191 W)
              have P0 := HPB.out
              rw [← HL2.out] at W1 P0
              rw [← HH2.out] at W2 P0
              clear HL HH WA PT PZ HPB HL2 HH2
              cases c1 : wholeB L with
              | true =>
                have HR : Hid (begB s = true) := HX.out true ⟨fun _ => P0.1 (.inl c1), fun _ => rfl⟩
                rw [c1] at W1
                clear P0 HX c1
                go_wp2_with fail
                go_fit (W1.out _)
                rintro e w1 ⟨rfl, hb1⟩
                go_wp2_with fail
                go_ret
                exact ⟨by rw [HR.out]; rfl, hb1⟩
              | false =>
                rw [c1] at W1
                cases c2 : wholeB H with
                | true =>
                  have HR : Hid (begB s = true) := HX.out true ⟨fun _ => P0.1 (.inr (.inl c2)), fun _ => rfl⟩
                  rw [c2] at W2
                  clear P0 HX c1 c2
                  go_wp2_with fail
                  go_fit (W1.out _)
                  rintro e w1 ⟨rfl, hb1⟩
                  go_wp2_with fail
                  go_fit (W2.out _)
                  rintro e w2 ⟨rfl, hb2⟩
                  go_wp2_with fail
                  go_ret
                  exact ⟨by rw [HR.out]; rfl, hb1.trans (hb2.mono hb1.size)⟩
                | false =>
                  rw [c2] at W2
                  have HR : Hid (begB s = false) := HX.out false ⟨(fun h => by cases h), fun h => absurd (P0.2 h) (by rintro (h | h | h) <;> first | (rw [c1] at h; cases h) | (rw [c2] at h; cases h) | omega)⟩
                  clear P0 HX c1 c2
                  go_wp2_with fail
                  go_fit (W1.out _)
                  rintro e w1 ⟨rfl, hb1⟩
                  go_wp2_with fail
                  go_fit (W2.out _)
                  rintro e w2 ⟨rfl, hb2⟩
                  go_wp2_with fail
                  go_ret
                  exact ⟨by rw [HR.out]; rfl, hb1.trans (hb2.mono hb1.size)⟩
        · have hni : (2 : Int) ≤ (s.size : Int) := by omega
          have HR : Hid (begB s = false) := HX.out false ⟨(fun h => by cases h), fun h => by have := (HBF.out h).2.2.2; omega⟩
          clear HX HBF HBP hlen
          go_enter Tryd.func30, Tryd.ntmps30
          go_wp2_with fail
          go_ret
          exact ⟨by rw [HR.out]; rfl, Below.refl _ _⟩
      · by_cases k2 : b < 240
        · have j1 : (224 : Int) ≤ (b : Int) := by omega
          have j2 : (b : Int) < 240 := by omega
          have hlen : lenN b = 3 := by
            unfold lenN
            rw [if_neg (by omega), if_pos (by omega)]
          rw [hlen] at HBP HBF
          by_cases hn : s.size < 3
          · have hni : (s.size : Int) < 3 := by omega
            have HPB := Lib.hid (HBP.out (by omega) (by omega) h0 hn)
            have WA := Lib.hid (fun c W => whole_any (padB s c 3) W (by rw [pad_size _ _ _ (by omega)]; decide) (by rw [pad_size _ _ _ (by omega)]; decide))
            have PZ := Lib.hid (fun c => pad_zero s c s.size (Nat.le_refl _))
            have PT := Lib.hid (fun t c (h1 : t = padB s c t.size) (h2 : s.size ≤ t.size) (h3 : t.size < 3) => pad_step s t c 3 h3 h1 h2)
            clear HBF HBP hlen
            go_enter Tryd.func30, Tryd.ntmps30
            go_wp2_with fail
            go_loop [4, 5] (fun lo hi => ∃ L H : ByteArray, lo = .string L ∧ hi = .string H ∧ L.size = H.size ∧ s.size ≤ L.size ∧ L.size ≤ 3 ∧ Hid (L = padB s 128 L.size) ∧ Hid (H = padB s 191 H.size)) (fun lo _ => 3 - strSz lo)
            case atStart => exact ⟨s, s, rfl, rfl, rfl, Nat.le_refl _, by omega, (PZ.out 128).symm, (PZ.out 191).symm⟩
            case round =>
              obtain ⟨L, H, rfl, rfl, hLH, hsL, hLn, HL, HH⟩ := hrel
              by_cases hr : L.size < 3
              · have hri : (L.size : Int) < 3 := by omega
                have q1 := PT.out L 128 HL.out hsL hr
                have q2 := PT.out H 191 HH.out (by omega) (by omega)
                have z1 : (L ++ ⟨#[128]⟩).size = L.size + 1 := by rw [app_size]; rfl
                have z2 : (H ++ ⟨#[191]⟩).size = H.size + 1 := by rw [app_size]; rfl
                have HL2 : Hid (L ++ ⟨#[128]⟩ = padB s 128 (L ++ ⟨#[128]⟩).size) := by show _ = _; rw [z1]; exact q1
                have HH2 : Hid (H ++ ⟨#[191]⟩ = padB s 191 (H ++ ⟨#[191]⟩).size) := by show _ = _; rw [z2]; exact q2
                clear q1 q2 PT
                go_wp2_with fail
                go_round
                case rel => exact ⟨_, _, rfl, rfl, by rw [z1, z2, hLH], by rw [z1]; omega, by rw [z1]; omega, HL2, HH2⟩
                case measure => show 3 - (L ++ _).size < 3 - L.size; rw [z1]; omega
              · have e1 : L.size = 3 := by omega
                have HL2 : Hid (L = padB s 128 3) := by show _ = _; have := HL.out; rw [e1] at this; exact this
                have HH2 : Hid (H = padB s 191 3) := by show _ = _; have := HH.out; rw [← hLH, e1] at this; exact this
                have W1 := Lib.hid (fun W => WA.out 128 W)
                have W2 := Lib.hid (fun W => WA.out 191 W)
                have P0 := HPB.out
                rw [← HL2.out] at W1 P0
                rw [← HH2.out] at W2 P0
                clear HL HH WA PT PZ HPB HL2 HH2
                cases c1 : wholeB L with
                | true =>
                  have HR : Hid (begB s = true) := HX.out true ⟨fun _ => P0.1 (.inl c1), fun _ => rfl⟩
                  rw [c1] at W1
                  clear P0 HX c1
                  go_wp2_with fail
                  go_fit (W1.out _)
                  rintro e w1 ⟨rfl, hb1⟩
                  go_wp2_with fail
                  go_ret
                  exact ⟨by rw [HR.out]; rfl, hb1⟩
                | false =>
                  rw [c1] at W1
                  cases c2 : wholeB H with
                  | true =>
                    have HR : Hid (begB s = true) := HX.out true ⟨fun _ => P0.1 (.inr (.inl c2)), fun _ => rfl⟩
                    rw [c2] at W2
                    clear P0 HX c1 c2
                    go_wp2_with fail
                    go_fit (W1.out _)
                    rintro e w1 ⟨rfl, hb1⟩
                    go_wp2_with fail
                    go_fit (W2.out _)
                    rintro e w2 ⟨rfl, hb2⟩
                    go_wp2_with fail
                    go_ret
                    exact ⟨by rw [HR.out]; rfl, hb1.trans (hb2.mono hb1.size)⟩
                  | false =>
                    rw [c2] at W2
                    by_cases m1 : s.size = 1
                    · have HR : Hid (begB s = true) := HX.out true ⟨fun _ => P0.1 (.inr (.inr ⟨by omega, m1⟩)), fun _ => rfl⟩
                      clear P0 HX c1 c2
                      go_wp2_with fail
                      go_fit (W1.out _)
                      rintro e w1 ⟨rfl, hb1⟩
                      go_wp2_with fail
                      go_fit (W2.out _)
                      rintro e w2 ⟨rfl, hb2⟩
                      go_wp2_with fail
                      go_ret
                      exact ⟨by rw [HR.out]; first | rfl | (rw [m1]; rfl) | simp [m1], hb1.trans (hb2.mono hb1.size)⟩
                    · have HR : Hid (begB s = false) := HX.out false ⟨(fun h => by cases h), fun h => absurd (P0.2 h) (by rintro (h | h | h) <;> first | (rw [c1] at h; cases h) | (rw [c2] at h; cases h) | exact m1 h.2)⟩
                      have m1i : ((s.size : Int) == 1) = false := beq_false_of_ne (by omega)
                      clear P0 HX c1 c2
                      go_wp2_with fail
                      go_fit (W1.out _)
                      rintro e w1 ⟨rfl, hb1⟩
                      go_wp2_with fail
                      go_fit (W2.out _)
                      rintro e w2 ⟨rfl, hb2⟩
                      go_wp2_with fail
                      go_ret
                      exact ⟨by rw [HR.out]; first | rfl | (rw [m1i]; rfl) | simp [m1], hb1.trans (hb2.mono hb1.size)⟩
          · have hni : (3 : Int) ≤ (s.size : Int) := by omega
            have HR : Hid (begB s = false) := HX.out false ⟨(fun h => by cases h), fun h => by have := (HBF.out h).2.2.2; omega⟩
            clear HX HBF HBP hlen
            go_enter Tryd.func30, Tryd.ntmps30
            go_wp2_with fail
            go_ret
            exact ⟨by rw [HR.out]; rfl, Below.refl _ _⟩
        · have j1 : (224 : Int) ≤ (b : Int) := by omega
          have j2 : (240 : Int) ≤ (b : Int) := by omega
          have hlen : lenN b = 4 := by
            unfold lenN
            rw [if_neg (by omega), if_neg (by omega)]
          rw [hlen] at HBP HBF
          by_cases hn : s.size < 4
          · have hni : (s.size : Int) < 4 := by omega
            have HPB := Lib.hid (HBP.out (by omega) (by omega) h0 hn)
            have WA := Lib.hid (fun c W => whole_any (padB s c 4) W (by rw [pad_size _ _ _ (by omega)]; decide) (by rw [pad_size _ _ _ (by omega)]; decide))
            have PZ := Lib.hid (fun c => pad_zero s c s.size (Nat.le_refl _))
            have PT := Lib.hid (fun t c (h1 : t = padB s c t.size) (h2 : s.size ≤ t.size) (h3 : t.size < 4) => pad_step s t c 4 h3 h1 h2)
            clear HBF HBP hlen
            go_enter Tryd.func30, Tryd.ntmps30
            go_wp2_with fail
            go_loop [4, 5] (fun lo hi => ∃ L H : ByteArray, lo = .string L ∧ hi = .string H ∧ L.size = H.size ∧ s.size ≤ L.size ∧ L.size ≤ 4 ∧ Hid (L = padB s 128 L.size) ∧ Hid (H = padB s 191 H.size)) (fun lo _ => 4 - strSz lo)
            case atStart => exact ⟨s, s, rfl, rfl, rfl, Nat.le_refl _, by omega, (PZ.out 128).symm, (PZ.out 191).symm⟩
            case round =>
              obtain ⟨L, H, rfl, rfl, hLH, hsL, hLn, HL, HH⟩ := hrel
              by_cases hr : L.size < 4
              · have hri : (L.size : Int) < 4 := by omega
                have q1 := PT.out L 128 HL.out hsL hr
                have q2 := PT.out H 191 HH.out (by omega) (by omega)
                have z1 : (L ++ ⟨#[128]⟩).size = L.size + 1 := by rw [app_size]; rfl
                have z2 : (H ++ ⟨#[191]⟩).size = H.size + 1 := by rw [app_size]; rfl
                have HL2 : Hid (L ++ ⟨#[128]⟩ = padB s 128 (L ++ ⟨#[128]⟩).size) := by show _ = _; rw [z1]; exact q1
                have HH2 : Hid (H ++ ⟨#[191]⟩ = padB s 191 (H ++ ⟨#[191]⟩).size) := by show _ = _; rw [z2]; exact q2
                clear q1 q2 PT
                go_wp2_with fail
                go_round
                case rel => exact ⟨_, _, rfl, rfl, by rw [z1, z2, hLH], by rw [z1]; omega, by rw [z1]; omega, HL2, HH2⟩
                case measure => show 4 - (L ++ _).size < 4 - L.size; rw [z1]; omega
              · have e1 : L.size = 4 := by omega
                have HL2 : Hid (L = padB s 128 4) := by show _ = _; have := HL.out; rw [e1] at this; exact this
                have HH2 : Hid (H = padB s 191 4) := by show _ = _; have := HH.out; rw [← hLH, e1] at this; exact this
                have W1 := Lib.hid (fun W => WA.out 128 W)
                have W2 := Lib.hid (fun W => WA.out 191 W)
                have P0 := HPB.out
                rw [← HL2.out] at W1 P0
                rw [← HH2.out] at W2 P0
                clear HL HH WA PT PZ HPB HL2 HH2
                cases c1 : wholeB L with
                | true =>
                  have HR : Hid (begB s = true) := HX.out true ⟨fun _ => P0.1 (.inl c1), fun _ => rfl⟩
                  rw [c1] at W1
                  clear P0 HX c1
                  go_wp2_with fail
                  go_fit (W1.out _)
                  rintro e w1 ⟨rfl, hb1⟩
                  go_wp2_with fail
                  go_ret
                  exact ⟨by rw [HR.out]; rfl, hb1⟩
                | false =>
                  rw [c1] at W1
                  cases c2 : wholeB H with
                  | true =>
                    have HR : Hid (begB s = true) := HX.out true ⟨fun _ => P0.1 (.inr (.inl c2)), fun _ => rfl⟩
                    rw [c2] at W2
                    clear P0 HX c1 c2
                    go_wp2_with fail
                    go_fit (W1.out _)
                    rintro e w1 ⟨rfl, hb1⟩
                    go_wp2_with fail
                    go_fit (W2.out _)
                    rintro e w2 ⟨rfl, hb2⟩
                    go_wp2_with fail
                    go_ret
                    exact ⟨by rw [HR.out]; rfl, hb1.trans (hb2.mono hb1.size)⟩
                  | false =>
                    rw [c2] at W2
                    by_cases m1 : s.size = 1
                    · have HR : Hid (begB s = true) := HX.out true ⟨fun _ => P0.1 (.inr (.inr ⟨by omega, m1⟩)), fun _ => rfl⟩
                      clear P0 HX c1 c2
                      go_wp2_with fail
                      go_fit (W1.out _)
                      rintro e w1 ⟨rfl, hb1⟩
                      go_wp2_with fail
                      go_fit (W2.out _)
                      rintro e w2 ⟨rfl, hb2⟩
                      go_wp2_with fail
                      go_ret
                      exact ⟨by rw [HR.out]; first | rfl | (rw [m1]; rfl) | simp [m1], hb1.trans (hb2.mono hb1.size)⟩
                    · have HR : Hid (begB s = false) := HX.out false ⟨(fun h => by cases h), fun h => absurd (P0.2 h) (by rintro (h | h | h) <;> first | (rw [c1] at h; cases h) | (rw [c2] at h; cases h) | exact m1 h.2)⟩
                      have m1i : ((s.size : Int) == 1) = false := beq_false_of_ne (by omega)
                      clear P0 HX c1 c2
                      go_wp2_with fail
                      go_fit (W1.out _)
                      rintro e w1 ⟨rfl, hb1⟩
                      go_wp2_with fail
                      go_fit (W2.out _)
                      rintro e w2 ⟨rfl, hb2⟩
                      go_wp2_with fail
                      go_ret
                      exact ⟨by rw [HR.out]; first | rfl | (rw [m1i]; rfl) | simp [m1], hb1.trans (hb2.mono hb1.size)⟩
          · have hni : (4 : Int) ≤ (s.size : Int) := by omega
            have HR : Hid (begB s = false) := HX.out false ⟨(fun h => by cases h), fun h => by have := (HBF.out h).2.2.2; omega⟩
            clear HX HBF HBP hlen
            go_enter Tryd.func30, Tryd.ntmps30
            go_wp2_with fail
            go_ret
            exact ⟨by rw [HR.out]; rfl, Below.refl _ _⟩
end Go.Proofs.YtdnldfgolbcjiaaDoor
