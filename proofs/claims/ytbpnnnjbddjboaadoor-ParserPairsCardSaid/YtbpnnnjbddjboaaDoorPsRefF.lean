/-
  limnerref07.Feed: what it returns: for every state that may be, behind whatever bytes, for every byte.
-/
import Derived.Test.YtbpnnnjbddjboaaDoorPsRefG
import Derived.Test.YtbpnnnjbddjboaaDoorPsApp
import Derived.Deep.Cut
namespace Go.Proofs.YtbpnnnjbddjboaaDoor
open Go.RowKit

theorem pre_one (t : ByteArray) (l : List UInt8) (b : Nat) (h : t.data.toList = l) : (t ++ oneB b).data.toList = l ++ [UInt8.ofNat b] := by rw [app_data, h]; rfl
theorem data_eq {a : ByteArray} {l : List UInt8} (h : a.data.toList = l) : a = ⟨l.toArray⟩ := by
  apply ByteArray.ext
  apply Array.toList_inj.1
  exact h
theorem nonempty_facts (T : ByteArray) (h : 0 < T.size) : T.toList.isEmpty = false ∧ (T.toList == []) = false := by
  have h1 : T.toList.isEmpty = false := by
    cases h2 : T.toList with
    | nil => rw [Lib.toList_data] at h2; have h3 := Lib.size_eq T; rw [h2] at h3; have h4 : T.size = 0 := h3; omega
    | cons _ _ => rfl
  refine ⟨h1, ?_⟩
  cases h2 : T.toList with
  | nil => rw [h2] at h1; cases h1
  | cons _ _ => rfl
theorem first27 (T : ByteArray) (r : List UInt8) (h : T.data.toList = 27 :: r) : ∃ h0 : 0 < T.size, (T[0].toNat : Int) = 27 := by
  have hs := Lib.size_eq T
  rw [h, List.length_cons] at hs
  refine ⟨by omega, ?_⟩
  have : T[0] = T.data.toList[0]'(by rw [h]; exact Nat.succ_pos _) := rfl
  rw [this]
  simp [h]

set_option maxHeartbeats 2000000 in
theorem rfeed_zero (b : Nat) (w : World) (hb : b < 256) :
    Calls Tryd.prog 10 #[.string ⟨#[]⟩, .int .u8 (b : Int)] w (RefW w (firstN b) 1) := by
  obtain ⟨R, hR⟩ : ∃ R, firstN b = R := ⟨_, rfl⟩
  have HG := Lib.hid (ground_any b w hb)
  rw [hR] at HG ⊢
  clear hR
  go_enter Tryd.func10, Tryd.ntmps10
  go_wp2_with fail
  go_fit HG.out
  rintro e w1 ⟨t, v, rfl, h1, h2, h3, h4⟩
  go_wp2_with fail
  go_ret2
  exact ⟨t, v, rfl, h1, h2, h3, h4⟩

set_option maxRecDepth 20000 in
set_option maxHeartbeats 8000000 in
theorem rfeed_esc (T : ByteArray) (b : Nat) (w : World) (hb : b < 256) (hT : T = ⟨#[27]⟩) :
    Calls Tryd.prog 10 #[.string T, .int .u8 (b : Int)] w (RefW w (escN b) (T.size + 1)) := by
  obtain ⟨R, hR⟩ : ∃ R, escN b = R := ⟨_, rfl⟩
  rw [hR]
  have hR := Lib.hid hR
  have HREL : Hid (RelT .esc T) := hT
  obtain ⟨h0, e0⟩ := first27 T [] (by rw [hT])
  obtain ⟨n1, n2⟩ := nonempty_facts T h0
  have hz : T.size = 1 := by rw [hT]; rfl
  have hst : Hid (RelT (.seq [] none) (T ++ oneB 91)) := ⟨[], by rw [hT]; rfl, rfl⟩
  have HP : Hid True := trivial
  clear hT
  have cv := convP_new [(b : Int)] w
  rw [str_one] at cv
  simp only [List.map_cons, List.map_nil, List.length_cons, List.length_nil] at cv
  have hb1 : Below w.heap.size w (w.alloc (.cells #[.int .u8 (b : Int)] 5)) := (Below.refl _ _).alloc (Nat.le_refl _) _
  have HB1 := Lib.hid hb1
  have HS1 : Hid (w.heap.size ≤ (w.alloc (.cells #[.int .u8 (b : Int)] 5)).heap.size) := hb1.size
  clear hb1
  have HO2 : Hid (∀ W, Calls Tryd.prog 22 #[.int .i64 2, .int .i32 (b : Int)] W fun e w' => ∃ v, e = .returned v ∧ ActsW (FromP W.heap.size) w' v [(2, b, [], 0)] ∧ (∃ a, v = .slice (some a) 1 1) ∧ Below W.heap.size W w') := fun W => rone_any 2 b W
  have HO5 : Hid (∀ W, Calls Tryd.prog 22 #[.int .i64 5, .int .i32 0] W fun e w' => ∃ v, e = .returned v ∧ ActsW (FromP W.heap.size) w' v [badA] ∧ (∃ a, v = .slice (some a) 1 1) ∧ Below W.heap.size W w') := fun W => rone_any 5 0 W
  have e4 : (oneB b).size = 1 := rfl
  by_cases h27 : b = 27
  · subst h27
    replace hR : Hid (R = (.esc, [badA])) := by
      show _ = _
      rw [← hR.out]
      unfold escN withinN
      rw [if_pos (by omega), if_pos rfl]
    clear HO2 hst HP
    rw [show ((27 : Nat) : Int) = 27 from rfl] at cv HB1 HS1 ⊢
    go_enter Tryd.func10, Tryd.ntmps10
    go_wp2_with fail
    go_fit (HO5.out _)
    rintro e w1 ⟨v, rfl, hA, _, hb2⟩
    go_wp2_with fail
    rw [hR.out]
    go_ret2
    exact ⟨⟨#[27]⟩, v, rfl, rfl, by show 1 ≤ _; omega, acts_from hA HS1.out, HB1.out.trans (hb2.mono HS1.out)⟩
  · have e27 : ((b : Int) == 27) = false := beq_false_of_ne (by omega)
    by_cases h24 : b = 24
    · subst h24
      replace hR : Hid (R = (.zero, [badA])) := by
        show _ = _
        rw [← hR.out]
        unfold escN withinN
        rw [if_pos (by omega), if_neg h27, if_pos (.inl rfl)]
      clear HO2 hst HP e27
      rw [show ((24 : Nat) : Int) = 24 from rfl] at cv HB1 HS1 ⊢
      go_enter Tryd.func10, Tryd.ntmps10
      go_wp2_with fail
      go_fit (HO5.out _)
      rintro e w1 ⟨v, rfl, hA, _, hb2⟩
      go_wp2_with fail
      rw [hR.out]
      go_ret2
      exact ⟨⟨#[]⟩, v, rfl, rfl, Nat.zero_le _, acts_from hA HS1.out, HB1.out.trans (hb2.mono HS1.out)⟩
    · have e24 : ((b : Int) == 24) = false := beq_false_of_ne (by omega)
      by_cases h26 : b = 26
      · subst h26
        replace hR : Hid (R = (.zero, [badA])) := by
          show _ = _
          rw [← hR.out]
          unfold escN withinN
          rw [if_pos (by omega), if_neg h27, if_pos (.inr rfl)]
        clear HO2 hst HP e27 e24
        rw [show ((26 : Nat) : Int) = 26 from rfl] at cv HB1 HS1 ⊢
        go_enter Tryd.func10, Tryd.ntmps10
        go_wp2_with fail
        go_fit (HO5.out _)
        rintro e w1 ⟨v, rfl, hA, _, hb2⟩
        go_wp2_with fail
        rw [hR.out]
        go_ret2
        exact ⟨⟨#[]⟩, v, rfl, rfl, Nat.zero_le _, acts_from hA HS1.out, HB1.out.trans (hb2.mono HS1.out)⟩
      · have e26 : ((b : Int) == 26) = false := beq_false_of_ne (by omega)
        by_cases h32 : b < 32
        · have i32 : (b : Int) < 32 := by omega
          replace hR : Hid (R = (.esc, [(2, b, [], 0)])) := by
            show _ = _
            rw [← hR.out]
            unfold escN withinN
            rw [if_pos h32, if_neg h27, if_neg (by omega)]
          clear HO5 hst HP
          go_enter Tryd.func10, Tryd.ntmps10
          go_wp2_with fail
          go_fit (HO2.out _)
          rintro e w1 ⟨v, rfl, hA, _, hb2⟩
          go_wp2_with fail
          rw [hR.out]
          go_ret2
          exact ⟨T, v, rfl, HREL.out, by omega, acts_from hA HS1.out, HB1.out.trans (hb2.mono HS1.out)⟩
        · have i32 : (32 : Int) ≤ (b : Int) := by omega
          by_cases h91 : b = 91
          · subst h91
            replace hR : Hid (R = (.seq [] none, [])) := by
              show _ = _
              rw [← hR.out]
              unfold escN
              rw [if_neg h32, if_pos rfl]
            clear HO2 HO5 HP e27 e24 e26 i32
            rw [show ((91 : Nat) : Int) = 91 from rfl] at cv HB1 HS1 ⊢
            go_enter Tryd.func10, Tryd.ntmps10
            go_wp2_with fail
            rw [hR.out]
            go_ret2
            exact ⟨_, _, rfl, hst.out, by rw [app_size]; exact Nat.le_refl _, ActsW.nil _ _, HB1.out⟩
          · have e91 : ((b : Int) == 91) = false := beq_false_of_ne (by omega)
            clear hst HO2
            by_cases h48 : 48 ≤ b ∧ b < 127
            · have i48 : (48 : Int) ≤ (b : Int) := by omega
              have i127 : (b : Int) ≤ 126 := by omega
              replace hR : Hid (R = (.zero, [(4, 0, [], b)])) := by
                show _ = _
                rw [← hR.out]
                unfold escN
                rw [if_neg h32, if_neg h91, if_pos h48]
              have hA : ActsW (FromP w.heap.size) ((w.alloc (.cells #[.int .u8 (b : Int)] 5)).alloc (.cells #[.int .i64 4, .int .i32 0, .slice none 0 0, .int .u8 (b : Int)] 35)) (.slice (some ⟨(w.alloc (.cells #[.int .u8 (b : Int)] 5)).heap.size, 0, none⟩) 1 1) [(4, 0, [], b)] := acts_one HS1.out (NumsW.nil _ _)
              have hbx : Below w.heap.size w ((w.alloc (.cells #[.int .u8 (b : Int)] 5)).alloc (.cells #[.int .i64 4, .int .i32 0, .slice none 0 0, .int .u8 (b : Int)] 35)) := HB1.out.alloc HS1.out _
              rw [World.size_alloc] at hA
              clear HO5
              go_enter Tryd.func10, Tryd.ntmps10
              go_wp2_with fail
              rw [hR.out]
              go_ret2
              exact ⟨_, _, rfl, rfl, Nat.zero_le _, hA, hbx⟩
            · replace hR : Hid (R = (.zero, [badA])) := by
                show _ = _
                rw [← hR.out]
                unfold escN
                rw [if_neg h32, if_neg h91, if_neg h48]
              by_cases g48 : 48 ≤ b
              · have i48 : (48 : Int) ≤ (b : Int) := by omega
                have i127 : (126 : Int) < (b : Int) := by omega
                go_enter Tryd.func10, Tryd.ntmps10
                go_wp2_with fail
                go_fit (HO5.out _)
                rintro e w1 ⟨v, rfl, hA, _, hb2⟩
                go_wp2_with fail
                rw [hR.out]
                go_ret2
                exact ⟨⟨#[]⟩, v, rfl, rfl, Nat.zero_le _, acts_from hA HS1.out, HB1.out.trans (hb2.mono HS1.out)⟩
              · have i48 : (b : Int) < 48 := by omega
                go_enter Tryd.func10, Tryd.ntmps10
                go_wp2_with fail
                go_fit (HO5.out _)
                rintro e w1 ⟨v, rfl, hA, _, hb2⟩
                go_wp2_with fail
                rw [hR.out]
                go_ret2
                exact ⟨⟨#[]⟩, v, rfl, rfl, Nat.zero_le _, acts_from hA HS1.out, HB1.out.trans (hb2.mono HS1.out)⟩
end Go.Proofs.YtbpnnnjbddjboaaDoor
