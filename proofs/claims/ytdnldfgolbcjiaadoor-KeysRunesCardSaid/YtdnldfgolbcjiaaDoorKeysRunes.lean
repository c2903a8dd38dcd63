/-
  KeysRunes: runes' bytes are KeyRune, one by one, each with its last byte; nothing waits behind them: the law's walk: it returns true.
-/
import Derived.Test.YtdnldfgolbcjiaaDoorKyPress
import Derived.Test.YtdnldfgolbcjiaaDoorKyOpen
import Derived.Test.YtdnldfgolbcjiaaDoorKyRunN
namespace Go.Proofs.YtdnldfgolbcjiaaDoor
open Go.RowKit

theorem putB_cases (r : Int) : (putB r = ⟨#[]⟩) ∨ ∃ R : Nat, r = (R : Int) ∧ (R < 55296 ∨ 57344 ≤ R ∧ R ≤ 1114111) := by
  by_cases h : 0 ≤ r ∧ r < 55296 ∨ 57343 < r ∧ r ≤ 1114111
  · right
    exact ⟨r.toNat, by omega, by omega⟩
  · exact .inl (put_no r h)
theorem put_ne (R : Nat) (h : R < 55296 ∨ 57344 ≤ R ∧ R ≤ 1114111) : ((putB (R : Int)).toList == []) = false := by
  have h1 := (dec_put R h).2.1
  rw [ba_lit]
  refine decide_eq_false fun e => ?_
  rw [e] at h1
  exact absurd h1 (by decide)

set_option maxRecDepth 4000 in
set_option maxHeartbeats 4000000 in
theorem keysRunes_far (v : Value) (l : List Int) (w : World) (hL : TabK w.heap.size w) (hS : RunesW w v l) (h : 100 < l.length) :
    Calls Tryd.prog 6 #[v] w fun e w' => e = .returned (.bool true) ∧ Below w.heap.size w w' := by
  have HP := Lib.hid (pressed_any w hL)
  obtain ⟨ao, cap, rfl, _⟩ := hS.form
  have hm := hS.2
  obtain ⟨n, hn⟩ : ∃ n, l.length = n := ⟨_, rfl⟩
  rw [hn] at h hm ⊢
  have j1 : (100 : Int) < (n : Int) := by omega
  clear hL hS hn
  go_enter Tryd.func6, Tryd.ntmps6
  go_wp2_with fail
  go_fit HP.out
  rintro e w3 ⟨rfl, hb3⟩
  go_wp2_with fail
  go_ret
  exact ⟨rfl, hb3⟩

set_option maxRecDepth 4000 in
set_option maxHeartbeats 8000000 in
theorem keysRunes_near (v : Value) (l : List Int) (w : World) (hL : TabK w.heap.size w) (hS : RunesW w v l) (h : l.length ≤ 100) :
    Calls Tryd.prog 6 #[v] w fun e w' => e = .returned (.bool true) ∧ Below w.heap.size w w' := by
  have HNW := Lib.hid (knew_any w.heap.size w (Nat.le_refl _))
  have HP := Lib.hid (fun W (h : Below w.heap.size w W) => pressed_any W ((hL.below h).up h.size))
  have HA := Lib.hid (fun i a (ha : l[i]? = some a) W (hb : Below w.heap.size w W) => RunesW.at_ (hS.below hb) ha)
  have HPB := Lib.hid (fun r W => putB_any r W)
  have HT := Lib.hid hL
  obtain ⟨ao, cap, rfl, _⟩ := hS.form
  obtain ⟨n, hn⟩ : ∃ n, l.length = n := ⟨_, rfl⟩
  rw [hn] at h HA ⊢
  have HN := Lib.hid hn
  have j1 : (n : Int) ≤ 100 := by omega
  clear hL hS hn
  go_enter Tryd.func6, Tryd.ntmps6
  go_wp2_with fail
  go_fit HNW.out
  rintro e w1 ⟨D, v, rfl, hD, hd, hv, hb1⟩
  have hst : TolW w.heap.size D w w1 v (.slice none 0 0) (.held noB) [] := ⟨hd, OutK.nil _ _, HT.out.below hb1, hb1, hb1.size, (fun e => by cases e), fun k e => by cases e⟩
  have HST : Hid (∃ v, TolW w.heap.size D w w1 v (.slice none 0 0) (.held noB) []) := ⟨v, hst⟩
  clear hst hd hv hb1
  go_wp2
  go_loopw [4] (fun s4 wr => ∃ i : Nat, s4 = .int .i64 (i : Int) ∧ i ≤ n ∧ Hid (∃ v, TolW w.heap.size D w wr v (.slice none 0 0) (.held noB) [])) (fun s4 _ => n - (intOf s4).toNat)
  case atStart => exact ⟨0, rfl, Nat.zero_le _, HST⟩
  case round =>
    obtain ⟨i, rfl, hi, HI⟩ := hrel
    clear HST
    by_cases hlt : i < n
    · obtain ⟨r, hr⟩ : ∃ r, l[i]? = some r := ⟨_, List.getElem?_eq_getElem (by rw [HN.out]; exact hlt)⟩
      obtain ⟨v, hI⟩ := HI.out
      obtain ⟨g, o, c, hf, hcc, c0⟩ := HA.out i r hr wr hI.bel
      have e1 : ao = some ⟨g, o, none⟩ := (Value.slice.inj hf).1
      subst e1
      have HC0 : Hid (∀ W, Below w.heap.size w W → W.cell? ⟨g, o + i, none⟩ = some (.int .i32 r)) := fun W hW => by
        obtain ⟨g', o', c', hf', _, c0'⟩ := HA.out i r hr W hW
        cases hf'
        exact c0'
      have k1 : (i : Int) < (n : Int) := by omega
      have k0 : (0 : Int) ≤ (i : Int) := by omega
      clear hf hr
      rcases putB_cases r with hz | ⟨R, rfl, hR⟩
      · have HPz := HPB.out r wr
        rw [hz] at HPz
        have HPz := Lib.hid HPz
        clear hz hI
        go_wp2_with fail
        go_fit HPz.out
        rintro e w2 ⟨rfl, rfl⟩
        go_wp2_with fail
        go_roundw
        case rel => exact ⟨i + 1, by go_num, by omega, HI⟩
        case measure => simp [intOf]; omega
      have hne := put_ne R hR
      have HPR := Lib.hid (HPB.out (R : Int) wr)
      have hns := put_size R
      by_cases h32 : R < 32
      · have m1 : (R : Int) < 32 := by omega
        obtain ⟨T, hT⟩ : ∃ T, putB (R : Int) = T := ⟨_, rfl⟩
        rw [hT] at HPR hne
        clear hT hns hI
        go_wp2_with fail
        go_fit HPR.out
        rintro e w2 ⟨rfl, rfl⟩
        go_wp2_with fail
        go_roundw
        case rel => exact ⟨i + 1, by go_num, by omega, HI⟩
        case measure => simp [intOf]; omega
      by_cases h127 : R = 127
      · subst h127
        obtain ⟨T, hT⟩ : ∃ T, putB ((127 : Nat) : Int) = T := ⟨_, rfl⟩
        rw [hT] at HPR hne
        clear hT hns hI
        go_wp2_with fail
        go_fit HPR.out
        rintro e w2 ⟨rfl, rfl⟩
        go_wp2_with fail
        go_roundw
        case rel => exact ⟨i + 1, by go_num, by omega, HI⟩
        case measure => simp [intOf]; omega
      have m1 : (32 : Int) ≤ (R : Int) := by omega
      have m2 : ((R : Int) == 127) = false := u8_no h127
      have HRS := Lib.hid (fun k hk => rune_step R k hR (by omega) h127 hk)
      obtain ⟨T, hT⟩ : ∃ T, putB (R : Int) = T := ⟨_, rfl⟩
      rw [hT] at HPR hne hns HRS
      obtain ⟨m, hm⟩ : ∃ m, (putN R).length = m := ⟨_, rfl⟩
      have HPE : Hid (preS R 0 = noB ∧ preS R m = noB ∧ ∀ k, 0 < k → k < m → (preS R k).size = k) := by
        refine ⟨?_, ?_, fun k h0 hk => ?_⟩
        · unfold preS
          split
          · rfl
          · refine ba_eq.2 ?_
            rw [Lib.extract_data]; rfl
        · unfold preS; rw [if_pos hm.symm]
        · unfold preS; rw [if_neg (by omega)]; exact pre_size R k (by omega)
      have HBT := Lib.hid (fun k (hk : k < T.size) => (show (T[k].toNat : Int) = (bt T k : Int) by unfold bt; rw [show T.get! k = T[k] from get_at T k hk]))
      rw [hm] at hns HRS
      have hm1 : 1 ≤ m ∧ m ≤ 4 := by
        have h1 := dec_put R hR
        rw [hT, hns] at h1
        exact ⟨h1.2.1, h1.2.2.1⟩
      have H0 : Hid (∃ v, TolW w.heap.size D w wr v (.slice none 0 0) (.held (preS R 0)) []) := ⟨v, by rw [HPE.out.1]; exact hI⟩
      have HNS := Lib.hid hns
      clear hT hI hm
      go_wp2_with fail
      go_fit HPR.out
      rintro e w2 ⟨rfl, rfl⟩
      go_wp2
      go_loopw [6] (fun s6 wr2 => ∃ k : Nat, s6 = .int .i64 (k : Int) ∧ k ≤ m ∧ Hid (∃ v, TolW w.heap.size D w wr2 v (.slice none 0 0) (.held (preS R k)) [])) (fun s6 _ => m - (intOf s6).toNat)
      case atStart => exact ⟨0, rfl, Nat.zero_le _, H0⟩
      case round =>
        obtain ⟨k, rfl, hk, HJ⟩ := hrel
        clear H0
        by_cases hkl : k < m
        · obtain ⟨v2, hJ⟩ := HJ.out
          have hbt := HBT.out k (by rw [HNS.out]; exact hkl)
          have hb256 := bt_lt T k
          have hrs := HRS.out k hkl
          obtain ⟨b, hb⟩ : ∃ b, bt T k = b := ⟨_, rfl⟩
          rw [hb] at hbt hb256 hrs
          have hsz : sizeK (.held (preS R k)) ≤ 50000 := by
            show (preS R k).size ≤ 50000
            by_cases h0 : 0 < k
            · rw [HPE.out.2.2 k h0 hkl]; omega
            · rw [show k = 0 by omega, HPE.out.1]; exact Nat.zero_le _
          have HF := Lib.hid (kfeed_any w.heap.size wr D b v2 _ hJ.dec hJ.n hJ.tab hb256 hsz)
          rw [hrs] at HF
          have HJJ := Lib.hid hJ
          have q1 : (k : Int) < (m : Int) := by omega
          have q0 : (0 : Int) ≤ (k : Int) := by omega
          by_cases hlast : k + 1 = m
          · rw [if_pos hlast] at HF
            have q2 : (m : Int) - 1 ≤ (k : Int) := by omega
            have q3 : ((k : Int) == (m : Int) - 1) = true := by rw [show (k : Int) = (m : Int) - 1 by omega]; exact beq_self_eq_true _
            have HSM := Lib.hid (fun W u n (hu : KeysW (FromK n) W u [(1, R, noB)]) (V : World) v2 (hV : KeysW (fun k => k = V.heap.size) W v2 [(1, R, noB)]) => same_any [(1, R, noB)] [(1, R, noB)] u v2 W hu hV (by simp) (by simp))
            clear hJ hb hrs hsz HJ
            go_wp2_with fail
            go_fit HF.out
            rintro e w3 ⟨u, v3, rfl, hu, hd, hkk, hv⟩
            have HT3 := Lib.hid (HJJ.out.turn hd hkk hv)
            have c1 := HC0.out w3 HT3.out.bel
            have HU := Lib.hid hu
            obtain ⟨uo, uc, rfl, _⟩ := hu.form
            have hrl : 1 = ([(1, R, noB)] : List Ke).length := rfl
            have HLK : Hid (KeysW (fun k => k = w3.heap.size) (w3.alloc (.cells #[.int .i64 1, .int .i32 (R : Int), .string ⟨#[]⟩] 40)) (.slice (some ⟨w3.heap.size, 0, none⟩) 1 1) [(1, R, noB)]) := lit_keys w3 [(1, R, noB)]
            have HS3 := Lib.hid (HSM.out _ _ _ (HU.out.below (alloc_below w3 _)) w3 _ HLK.out)
            have HB3 := Lib.hid (HT3.out.below (alloc_below w3 (.cells #[.int .i64 1, .int .i32 (R : Int), .string ⟨#[]⟩] 40)))
            clear hu hd hkk hv HF HSM HLK hrl
            go_wp2_with fail
            go_fit HS3.out
            rintro e w4 ⟨rfl, hb4⟩
            have H4 : Hid (∃ v, TolW w.heap.size D w w4 v (.slice none 0 0) (.held (preS R (k + 1))) []) := ⟨v3, HB3.out.below hb4⟩
            clear hb4 c1
            go_wp2_with fail
            go_roundw
            case rel => exact ⟨k + 1, by go_num, by omega, H4⟩
            case measure => simp [intOf]; omega
          · rw [if_neg hlast] at HF
            have q2 : (k : Int) < (m : Int) - 1 := by omega
            have q3 : ((k : Int) == (m : Int) - 1) = false := beq_eq_false_iff_ne.2 (by omega)
            have hw : waitsK (.held (preS R (k + 1))) = true := by
              show decide (0 < (preS R (k + 1)).size) = true
              rw [HPE.out.2.2 (k + 1) (by omega) (by omega)]
              exact decide_eq_true (by omega)
            have HWW := Lib.hid (fun W v (h : DecW w.heap.size W D v (.held (preS R (k + 1)))) => kwaiting_any w.heap.size W D v _ h)
            rw [hw] at HWW
            clear hJ hb hrs hsz HJ hw
            go_wp2_with fail
            go_fit HF.out
            rintro e w3 ⟨u, v3, rfl, hu, hd, hkk, hv⟩
            have HT3 := Lib.hid (HJJ.out.turn hd hkk hv)
            have HW3 := Lib.hid (HWW.out w3 v3 HT3.out.dec)
            obtain ⟨uo, uc, rfl, _⟩ := hu.form
            clear hu hd hkk hv HF HWW
            go_wp2_with fail
            go_fit HW3.out
            rintro e w4 ⟨rfl, rfl⟩
            have H4 : Hid (∃ v, TolW w.heap.size D w w4 v (.slice none 0 0) (.held (preS R (k + 1))) []) := ⟨v3, HT3.out⟩
            go_wp2_with fail
            go_roundw
            case rel => exact ⟨k + 1, by go_num, by omega, H4⟩
            case measure => simp [intOf]; omega
        · have q1 : (m : Int) ≤ (k : Int) := by omega
          have hkm : k = m := by omega
          rw [hkm, HPE.out.2.1] at HJ
          obtain ⟨v2, hJ⟩ := HJ.out
          have HWW := Lib.hid (kwaiting_any w.heap.size wr D v2 _ hJ.dec)
          have hw0 : waitsK (.held noB) = false := rfl
          rw [hw0] at HWW
          have H4 : Hid (∃ v, TolW w.heap.size D w wr v (.slice none 0 0) (.held noB) []) := ⟨v2, hJ⟩
          clear hJ HJ hw0 hkm
          go_wp2_with fail
          go_fit HWW.out
          rintro e w4 ⟨rfl, rfl⟩
          go_wp2_with fail
          go_roundw
          case rel => exact ⟨i + 1, by go_num, by omega, H4⟩
          case measure => simp [intOf]; omega
    · have k1 : (n : Int) ≤ (i : Int) := by omega
      obtain ⟨v, hI⟩ := HI.out
      have HB := Lib.hid hI.bel
      clear hI HI
      go_wp2_with fail
      go_fit (HP.out _ HB.out)
      rintro e w3 ⟨rfl, hb3⟩
      go_wp2_with fail
      go_ret
      exact ⟨rfl, HB.out.trans (hb3.mono HB.out.size)⟩

theorem keysRunes_any (v : Value) (l : List Int) (w : World) (hL : TabK w.heap.size w) (hS : RunesW w v l) :
    Calls Tryd.prog 6 #[v] w fun e w' => e = .returned (.bool true) ∧ Below w.heap.size w w' := by
  by_cases h : 100 < l.length
  · exact keysRunes_far v l w hL hS h
  · exact keysRunes_near v l w hL hS (by omega)
end Go.Proofs.YtdnldfgolbcjiaaDoor
