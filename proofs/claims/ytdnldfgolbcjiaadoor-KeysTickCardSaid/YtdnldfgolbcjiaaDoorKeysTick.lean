/-
  KeysTick: behind a pause, but in a paste, what follows is as from the beginning: the law's walk: it returns true.
-/
import Derived.Test.YtdnldfgolbcjiaaDoorKyPress
namespace Go.Proofs.YtdnldfgolbcjiaaDoor
open Go.RowKit

theorem tick_paste (p : Ky) (h : waitsK (tickK p).1 = true) : (tickK (tickK p).1).2 = [] := by
  cases p with
  | paste s => rfl
  | held s =>
    exfalso
    have e : tickK (.held s) = (if s.size = 0 then (Ky.held s, []) else (Ky.held noB, [if s = oneS 27 then ((5, 0, noB) : Ke) else badK s])) := rfl
    rw [e] at h
    split at h
    · rename_i h0
      have h1 : 0 < s.size := of_decide_eq_true h
      omega
    · cases h
theorem tick_new (p : Ky) (h : waitsK (tickK p).1 = false) : (tickK p).1 = .held noB := by
  cases p with
  | paste s => cases h
  | held s =>
    have e : tickK (.held s) = (if s.size = 0 then (Ky.held s, []) else (Ky.held noB, [if s = oneS 27 then ((5, 0, noB) : Ke) else badK s])) := rfl
    rw [e]
    split
    · rename_i h0
      have e0 : s = noB := by
        apply ByteArray.ext
        exact Array.eq_empty_of_size_eq_zero h0
      show Ky.held s = Ky.held noB
      rw [e0]
    · rfl

set_option maxRecDepth 4000 in
set_option maxHeartbeats 4000000 in
theorem keysTick_far (s t : ByteArray) (w : World) (hL : TabK w.heap.size w) (h : 300 < s.size ∨ 300 < t.size) :
    Calls Tryd.prog 7 #[.string s, .string t] w fun e w' => e = .returned (.bool true) ∧ Below w.heap.size w w' := by
  have HP := Lib.hid (pressed_any w hL)
  clear hL
  by_cases h1 : 300 < s.size
  · have j1 : (300 : Int) < (s.size : Int) := by omega
    go_enter Tryd.func7, Tryd.ntmps7
    go_wp2_with fail
    go_fit HP.out
    rintro e w3 ⟨rfl, hb3⟩
    go_wp2_with fail
    go_ret
    exact ⟨rfl, hb3⟩
  · have j1 : (s.size : Int) ≤ 300 := by omega
    have j2 : (300 : Int) < (t.size : Int) := by omega
    go_enter Tryd.func7, Tryd.ntmps7
    go_wp2_with fail
    go_fit HP.out
    rintro e w3 ⟨rfl, hb3⟩
    go_wp2_with fail
    go_ret
    exact ⟨rfl, hb3⟩

set_option maxRecDepth 4000 in
set_option maxHeartbeats 8000000 in
theorem keysTick_near (s t : ByteArray) (w : World) (hL : TabK w.heap.size w) (hs : s.size ≤ 300) (ht : t.size ≤ 300) :
    Calls Tryd.prog 7 #[.string s, .string t] w fun e w' => e = .returned (.bool true) ∧ Below w.heap.size w w' := by
  have HNW := Lib.hid (knew_any w.heap.size w (Nat.le_refl _))
  have HBT := Lib.hid (fun k (hk : k < s.size) => (show (s[k].toNat : Int) = (bt s k : Int) by unfold bt; rw [show s.get! k = s[k] from get_at s k hk]))
  have HBU := Lib.hid (fun k (hk : k < t.size) => (show (t[k].toNat : Int) = (bt t k : Int) by unfold bt; rw [show t.get! k = t[k] from get_at t k hk]))
  have HP := Lib.hid (fun W (h : Below w.heap.size w W) => pressed_any W ((hL.below h).up h.size))
  have HTL := Lib.hid (fun W (h : Below w.heap.size w W) => ktold_any t true W ((hL.below h).up h.size) (by omega))
  have HTD : Hid (toldK t true = (runK (.held noB) (bytesN t)).2 ++ (tickK (runK (.held noB) (bytesN t)).1).2) := by show toldK t true = _; unfold toldK; rw [if_pos rfl]
  have HT := Lib.hid hL
  have j1 : (s.size : Int) ≤ 300 := by omega
  have j2 : (t.size : Int) ≤ 300 := by omega
  clear hL
  go_enter Tryd.func7, Tryd.ntmps7
  go_wp2_with fail
  go_fit HNW.out
  rintro e w1 ⟨D, v, rfl, hD, hd, hv, hb1⟩
  have hst : TolW w.heap.size D w w1 v (.slice none 0 0) (.held noB) [] := ⟨hd, OutK.nil _ _, HT.out.below hb1, hb1, hb1.size, (fun e => by cases e), fun k e => by cases e⟩
  have HST : Hid (∃ v, TolW w.heap.size D w w1 v (.slice none 0 0) (runK (.held noB) ((bytesN s).take 0)).1 []) := ⟨v, hst⟩
  clear hst hd hv hb1
  go_wp2
  go_loopw [6] (fun s6 wr => ∃ k : Nat, s6 = .int .i64 (k : Int) ∧ k ≤ s.size ∧ Hid (∃ v, TolW w.heap.size D w wr v (.slice none 0 0) (runK (.held noB) ((bytesN s).take k)).1 [])) (fun s6 _ => s.size - (intOf s6).toNat)
  case atStart => exact ⟨0, rfl, Nat.zero_le _, HST⟩
  case round =>
    obtain ⟨k, rfl, hk, HI⟩ := hrel
    clear HST
    by_cases hlt : k < s.size
    · obtain ⟨v, hI⟩ := HI.out
      have hbt := HBT.out k hlt
      have hb256 := bt_lt s k
      have hl1 := run_size ((bytesN s).take k) (.held noB)
      have hl3 : ((bytesN s).take k).length ≤ k := by rw [List.length_take]; omega
      have hz : sizeK (.held noB) = 0 := rfl
      have hrt := runK_snoc (.held noB) ((bytesN s).take k) (bt s k)
      rw [← bytesN_take s k hlt] at hrt
      obtain ⟨b, hb⟩ : ∃ b, bt s k = b := ⟨_, rfl⟩
      rw [hb] at hrt hbt hb256
      obtain ⟨P, hP⟩ : ∃ P, runK (.held noB) ((bytesN s).take k) = P := ⟨_, rfl⟩
      rw [hP] at hI hl1 hrt
      have HF := Lib.hid (kfeed_any w.heap.size wr D b v P.1 hI.dec hI.n hI.tab hb256 (by omega))
      have HII := Lib.hid hI
      have HRT := Lib.hid hrt
      have hki : (k : Int) < (s.size : Int) := by omega
      have hk0 : (0 : Int) ≤ (k : Int) := by omega
      clear hI hP hb HI hrt hl1 hz
      go_wp2_with fail
      go_fit HF.out
      rintro e w2 ⟨u, v', rfl, hu, hd, hkk, hv⟩
      have HR3 : Hid (∃ v, TolW w.heap.size D w w2 v (.slice none 0 0) (runK (.held noB) ((bytesN s).take (k + 1))).1 []) := ⟨v', by rw [HRT.out]; exact HII.out.turn hd hkk hv⟩
      clear hu hd hkk hv HII HF HRT
      go_wp2_with fail
      go_roundw
      case rel => exact ⟨k + 1, by go_num, by omega, HR3⟩
      case measure => simp [intOf]; omega
    · have hki : (s.size : Int) ≤ (k : Int) := by omega
      have hke : k = s.size := by omega
      rw [hke, List.take_of_length_le (by rw [bytesN_len]; exact Nat.le_refl _)] at HI
      obtain ⟨P, hP⟩ : ∃ P, (runK (.held noB) (bytesN s)).1 = P := ⟨_, rfl⟩
      rw [hP] at HI
      obtain ⟨v, hI⟩ := HI.out
      have HK := Lib.hid (ktick_any w.heap.size wr D v P hI.dec hI.n)
      have HII := Lib.hid hI
      clear hI HI hP hke
      go_wp2_with fail
      go_fit HK.out
      rintro e w2 ⟨u, v', rfl, hu, hd, hkk, hv⟩
      have HI2 := Lib.hid (HII.out.turn hd hkk hv)
      have HKW := Lib.hid (kwaiting_any w.heap.size w2 D v' _ hd)
      clear hu hd hkk hv HII HK
      cases hw : waitsK (tickK P).1 with
      | true =>
        rw [hw] at HKW
        have HK2 := Lib.hid (ktick_any w.heap.size w2 D v' _ HI2.out.dec HI2.out.n)
        have HE := Lib.hid (tick_paste P hw)
        clear hw
        go_wp2_with fail
        go_fit HKW.out
        rintro e w3 ⟨rfl, rfl⟩
        go_wp2_with fail
        go_fit HK2.out
        rintro e w4 ⟨u2, v2, rfl, hu, hd, hkk, hv⟩
        rw [HE.out] at hu
        have HI4 := Lib.hid (HI2.out.turn hd hkk hv).bel
        obtain ⟨ao, cp, rfl, _⟩ := hu.form
        clear hu hd hkk hv HK2
        go_wp2_with fail
        go_fit (HP.out _ HI4.out)
        rintro e w5 ⟨rfl, hb5⟩
        go_wp2_with fail
        go_ret
        exact ⟨rfl, HI4.out.trans (hb5.mono HI4.out.size)⟩
      | false =>
        rw [hw] at HKW
        have hE := tick_new P hw
        rw [hE] at HI2
        have HST : Hid (∃ v, TolW w.heap.size D w w2 v (.slice none 0 0) (runK (.held noB) ((bytesN t).take 0)).1 (runK (.held noB) ((bytesN t).take 0)).2) := ⟨v', HI2.out⟩
        clear hw hE HI2
        go_wp2_with fail
        go_fit HKW.out
        rintro e w3 ⟨rfl, rfl⟩
        go_wp2
        go_loopw [7, 8] (fun s7 s8 wr => ∃ k : Nat, s8 = .int .i64 (k : Int) ∧ k ≤ t.size ∧ Hid (∃ v, TolW w.heap.size D w wr v s7 (runK (.held noB) ((bytesN t).take k)).1 (runK (.held noB) ((bytesN t).take k)).2)) (fun _ s8 _ => t.size - (intOf s8).toNat)
        case atStart => exact ⟨0, rfl, Nat.zero_le _, HST⟩
        case round =>
          obtain ⟨k, rfl, hk, HI⟩ := hrel
          clear HST
          by_cases hlt : k < t.size
          · obtain ⟨v, hI⟩ := HI.out
            have hbt := HBU.out k hlt
            have hb256 := bt_lt t k
            have hl1 := run_size ((bytesN t).take k) (.held noB)
            have hl2 := run_keys ((bytesN t).take k) (.held noB)
            have hl3 : ((bytesN t).take k).length ≤ k := by rw [List.length_take]; omega
            have hz : sizeK (.held noB) = 0 := rfl
            have hrt := runK_snoc (.held noB) ((bytesN t).take k) (bt t k)
            rw [← bytesN_take t k hlt] at hrt
            obtain ⟨b, hb⟩ : ∃ b, bt t k = b := ⟨_, rfl⟩
            rw [hb] at hrt hbt hb256
            obtain ⟨P, hP⟩ : ∃ P, runK (.held noB) ((bytesN t).take k) = P := ⟨_, rfl⟩
            rw [hP] at hI hl1 hl2 hrt
            have hf2 := feed_keys P.1 b
            have HF := Lib.hid (kfeed_any w.heap.size wr D b v P.1 hI.dec hI.n hI.tab hb256 (by omega))
            have HII := Lib.hid hI
            have HRT := Lib.hid hrt
            have hki : (k : Int) < (t.size : Int) := by omega
            have hk0 : (0 : Int) ≤ (k : Int) := by omega
            clear hI hP hb HI hrt hl1 hz
            go_wp2_with fail
            go_fit HF.out
            rintro e w2 ⟨u, v', rfl, hu, hd, hkk, hv⟩
            obtain ⟨o', w3, hr, hT3⟩ := HII.out.step hu hd hkk hv (by omega)
            have HR3 : Hid (∃ v, TolW w.heap.size D w w3 v o' (runK (.held noB) ((bytesN t).take (k + 1))).1 (runK (.held noB) ((bytesN t).take (k + 1))).2) := ⟨v', by rw [HRT.out]; exact hT3⟩
            clear hu hd hkk hv hT3 HII HF HRT
            go_wp2_with (at_builtin; refine wpList_run (by rfl) _ _ 34 (by rfl) (by rfl) (by rfl) hr ?_)
            go_roundw
            case rel => exact ⟨k + 1, by go_num, by omega, HR3⟩
            case measure => simp [intOf]; omega
          · have hki : (t.size : Int) ≤ (k : Int) := by omega
            have hke : k = t.size := by omega
            rw [hke, List.take_of_length_le (by rw [bytesN_len]; exact Nat.le_refl _)] at HI
            have hl2 := run_keys (bytesN t) (.held noB)
            rw [bytesN_len] at hl2
            have hf1 := tick_keys (runK (.held noB) (bytesN t)).1
            obtain ⟨Q, hQ⟩ : ∃ Q, runK (.held noB) (bytesN t) = Q := ⟨_, rfl⟩
            rw [hQ] at HI hl2 hf1 HTD
            obtain ⟨v, hI⟩ := HI.out
            have HK := Lib.hid (ktick_any w.heap.size wr D v Q.1 hI.dec hI.n)
            have HII := Lib.hid hI
            have hlen : (toldK t true).length ≤ 1000 := by rw [HTD.out, List.length_append]; omega
            have HSM := Lib.hid (fun W v v2 (h1 : KeysW (FromK w.heap.size) W v (toldK t true)) n (h2 : KeysW (FromK n) W v2 (toldK t true)) => same_any (toldK t true) (toldK t true) v v2 W h1 h2 (by omega) (by omega))
            clear hI HI hQ hke hlen
            go_wp2_with fail
            go_fit HK.out
            rintro e w4 ⟨u, v', rfl, hu, hd, hkk, hv⟩
            obtain ⟨o', w5, hr, hT5⟩ := HII.out.step hu hd hkk hv (by omega)
            rw [← HTD.out] at hT5
            have HT5 := Lib.hid hT5
            clear hu hd hkk hv hT5 HII HK
            go_wp2_with (at_builtin; refine wpList_run (by rfl) _ _ 34 (by rfl) (by rfl) (by rfl) hr ?_)
            go_fit (HTL.out _ HT5.out.bel)
            rintro e w6 ⟨u6, rfl, hu6, hb6⟩
            have HS6 := Lib.hid (HSM.out w6 o' u6 (HT5.out.out.keys.below hb6) _ hu6)
            have HB6 := Lib.hid (HT5.out.bel.trans (hb6.mono HT5.out.n))
            clear hu6 hb6
            go_wp2_with fail
            go_fit HS6.out
            rintro e w7 ⟨rfl, hb7⟩
            have HB7 := Lib.hid (HB6.out.trans (hb7.mono HB6.out.size))
            clear hb7
            go_wp2_with fail
            go_fit (HP.out _ HB7.out)
            rintro e w8 ⟨rfl, hb8⟩
            go_wp2_with fail
            go_ret
            exact ⟨rfl, HB7.out.trans (hb8.mono HB7.out.size)⟩

theorem keysTick_any (s t : ByteArray) (w : World) (hL : TabK w.heap.size w) :
    Calls Tryd.prog 7 #[.string s, .string t] w fun e w' => e = .returned (.bool true) ∧ Below w.heap.size w w' := by
  by_cases h : 300 < s.size ∨ 300 < t.size
  · exact keysTick_far s t w hL h
  · exact keysTick_near s t w hL (by omega) (by omega)
end Go.Proofs.YtdnldfgolbcjiaaDoor
