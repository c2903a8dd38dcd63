/-
  limnerref07.Feed behind a sequence: what it returns: for every byte.
-/
import Derived.Test.YtbpnnnjbddjboaaDoorPsRefF
import Derived.Test.YtbpnnnjbddjboaaDoorPsSeq
namespace Go.Proofs.YtbpnnnjbddjboaaDoor
open Go.RowKit

set_option maxRecDepth 20000 in
set_option maxHeartbeats 8000000 in
theorem rfeed_seq (pre : List (Option Nat)) (x : Option Nat) (T : ByteArray) (b : Nat) (w : World) (hb : b < 256) (hT : RelT (.seq pre x) T) (hTs : T.size ≤ 10000) :
    Calls Tryd.prog 10 #[.string T, .int .u8 (b : Int)] w (RefW w (seqN pre x b) (T.size + 1)) := by
  obtain ⟨R, hR⟩ : ∃ R, seqN pre x b = R := ⟨_, rfl⟩
  rw [hR]
  have hR := Lib.hid hR
  have HREL := Lib.hid hT
  obtain ⟨u, hu, hp⟩ := hT
  obtain ⟨h0, e0⟩ := first27 T (91 :: u) hu
  obtain ⟨n1, n2⟩ := nonempty_facts T h0
  have hsz : T.size = u.length + 2 := by rw [Lib.size_eq, hu]; rfl
  have hz : ((T.size : Int) == 1) = false := beq_false_of_ne (by omega)
  have hst : Hid (RelT (stepN pre x b) (T ++ oneB b)) := by
    have h2 : partsN (u ++ [UInt8.ofNat b]) = stepN pre x b := by
      rw [partsN_snoc, hp]
      show stepN pre x (UInt8.ofNat b).toNat = _
      rw [UInt8.toNat_ofNat', Nat.mod_eq_of_lt (by omega)]
    have h3 : (T ++ oneB b).data.toList = 27 :: 91 :: (u ++ [UInt8.ofNat b]) := by rw [pre_one T _ b hu]; rfl
    show RelT _ _
    cases hq : stepN pre x b with
    | seq q y => rw [hq] at h2; exact ⟨_, h3, h2⟩
    | bad => rw [hq] at h2; exact ⟨_, h3, h2⟩
    | zero => have := step_stN pre x b; rw [hq] at this; cases this
    | start s => have := step_stN pre x b; rw [hq] at this; cases this
    | esc => have := step_stN pre x b; rw [hq] at this; cases this
  have h2d : (T.extract 2 T.size).data.toList = u := by
    rw [Lib.extract_data, hu]
    show List.take _ u = u
    exact List.take_of_length_le (by omega)
  have HP : Hid (∀ W, Calls Tryd.prog 24 #[.string (T.extract 2 T.size)] W fun e w' => ∃ v, e = .returned (.tuple #[v, .bool true]) ∧ NumsW (FromP W.heap.size) w' v (paramsN pre x) ∧ Below W.heap.size W w') := fun W => by
    have h3 := refParams_any (T.extract 2 T.size) W (by rw [Lib.tail_size]; omega)
    rw [h2d, refPar_seq u pre x hp] at h3
    exact h3
  have s2 : (2 : Int) ≤ (T.size : Int) := by omega
  clear hu hp h2d hsz
  have cv := convP_new [(b : Int)] w
  rw [str_one] at cv
  simp only [List.map_cons, List.map_nil, List.length_cons, List.length_nil] at cv
  have hb1 : Below w.heap.size w (w.alloc (.cells #[.int .u8 (b : Int)] 5)) := (Below.refl _ _).alloc (Nat.le_refl _) _
  have HB1 := Lib.hid hb1
  have HS1 : Hid (w.heap.size ≤ (w.alloc (.cells #[.int .u8 (b : Int)] 5)).heap.size) := hb1.size
  clear hb1
  have HO2 : Hid (∀ W, Calls Tryd.prog 22 #[.int .i64 2, .int .i32 (b : Int)] W fun e w' => ∃ v, e = .returned v ∧ ActsW (FromP W.heap.size) w' v [(2, b, [], 0)] ∧ (∃ a, v = .slice (some a) 1 1) ∧ Below W.heap.size W w') := fun W => rone_any 2 b W
  have HO5 : Hid (∀ W, Calls Tryd.prog 22 #[.int .i64 5, .int .i32 0] W fun e w' => ∃ v, e = .returned v ∧ ActsW (FromP W.heap.size) w' v [badA] ∧ (∃ a, v = .slice (some a) 1 1) ∧ Below W.heap.size W w') := fun W => rone_any 5 0 W
  have e4 : (oneB b).size = 1 := rfl
  by_cases h27 : b = 27
  · subst h27
    replace hR : Hid (R = (.esc, [badA])) := by
      show _ = _
      rw [← hR.out]
      unfold seqN withinN
      rw [if_pos (by omega), if_pos rfl]
    clear HO2 hst HP
    rw [show ((27 : Nat) : Int) = 27 from rfl] at cv HB1 HS1 ⊢
    go_enter Tryd.func10, Tryd.ntmps10
    go_wp2_with fail
    go_fit (HO5.out _)
    rintro e w1 ⟨v, rfl, hA, _, hb2⟩
    go_wp2_with fail
    rw [hR.out]
    go_ret2
    exact ⟨⟨#[27]⟩, v, rfl, rfl, by show 1 ≤ _; omega, acts_from hA HS1.out, HB1.out.trans (hb2.mono HS1.out)⟩
  · have e27 : ((b : Int) == 27) = false := beq_false_of_ne (by omega)
    by_cases h24 : b = 24
    · subst h24
      replace hR : Hid (R = (.zero, [badA])) := by
        show _ = _
        rw [← hR.out]
        unfold seqN withinN
        rw [if_pos (by omega), if_neg h27, if_pos (.inl rfl)]
      clear HO2 hst HP e27
      rw [show ((24 : Nat) : Int) = 24 from rfl] at cv HB1 HS1 ⊢
      go_enter Tryd.func10, Tryd.ntmps10
      go_wp2_with fail
      go_fit (HO5.out _)
      rintro e w1 ⟨v, rfl, hA, _, hb2⟩
      go_wp2_with fail
      rw [hR.out]
      go_ret2
      exact ⟨⟨#[]⟩, v, rfl, rfl, Nat.zero_le _, acts_from hA HS1.out, HB1.out.trans (hb2.mono HS1.out)⟩
    · have e24 : ((b : Int) == 24) = false := beq_false_of_ne (by omega)
      by_cases h26 : b = 26
      · subst h26
        replace hR : Hid (R = (.zero, [badA])) := by
          show _ = _
          rw [← hR.out]
          unfold seqN withinN
          rw [if_pos (by omega), if_neg h27, if_pos (.inr rfl)]
        clear HO2 hst HP e27 e24
        rw [show ((26 : Nat) : Int) = 26 from rfl] at cv HB1 HS1 ⊢
        go_enter Tryd.func10, Tryd.ntmps10
        go_wp2_with fail
        go_fit (HO5.out _)
        rintro e w1 ⟨v, rfl, hA, _, hb2⟩
        go_wp2_with fail
        rw [hR.out]
        go_ret2
        exact ⟨⟨#[]⟩, v, rfl, rfl, Nat.zero_le _, acts_from hA HS1.out, HB1.out.trans (hb2.mono HS1.out)⟩
      · have e26 : ((b : Int) == 26) = false := beq_false_of_ne (by omega)
        by_cases h32 : b < 32
        · have i32 : (b : Int) < 32 := by omega
          replace hR : Hid (R = (.seq pre x, [(2, b, [], 0)])) := by
            show _ = _
            rw [← hR.out]
            unfold seqN withinN
            rw [if_pos h32, if_neg h27, if_neg (by omega)]
          clear HO5 hst HP
          go_enter Tryd.func10, Tryd.ntmps10
          go_wp2_with fail
          go_fit (HO2.out _)
          rintro e w1 ⟨v, rfl, hA, _, hb2⟩
          go_wp2_with fail
          rw [hR.out]
          go_ret2
          exact ⟨T, v, rfl, HREL.out, by omega, acts_from hA HS1.out, HB1.out.trans (hb2.mono HS1.out)⟩
        · have i32 : (32 : Int) ≤ (b : Int) := by omega
          by_cases h64 : b < 64
          · have i64 : (b : Int) < 64 := by omega
            replace hR : Hid (R = (stepN pre x b, [])) := by
              show _ = _
              rw [← hR.out]
              unfold seqN
              rw [if_neg h32, if_pos h64]
            clear HO2 HO5 HP
            go_enter Tryd.func10, Tryd.ntmps10
            go_wp2_with fail
            rw [hR.out]
            go_ret2
            exact ⟨_, _, rfl, hst.out, by rw [app_size]; exact Nat.le_refl _, ActsW.nil _ _, HB1.out⟩
          · have i64 : (64 : Int) ≤ (b : Int) := by omega
            clear hst HO2
            by_cases h127 : b < 127
            · have i127 : (b : Int) ≤ 126 := by omega
              replace hR : Hid (R = (.zero, [(3, 0, paramsN pre x, b)])) := by
                show _ = _
                rw [← hR.out]
                unfold seqN
                rw [if_neg h32, if_neg h64, if_pos h127]
              clear HO5
              go_enter Tryd.func10, Tryd.ntmps10
              go_wp2_with fail
              go_fit (HP.out _)
              rintro e w2 ⟨v, rfl, hN, hb2⟩
              have hbw2 := HB1.out.trans (hb2.mono HS1.out)
              have hs2 := Nat.le_trans HS1.out hb2.size
              obtain ⟨va, vn, vc, rfl⟩ : ∃ va vn vc, v = .slice va vn vc := by
                obtain ⟨va, vc, hv, _⟩ := hN.1
                exact ⟨va, _, vc, hv⟩
              have hA : ActsW (FromP w.heap.size) (w2.alloc (.cells #[.int .i64 3, .int .i32 0, .slice va vn vc, .int .u8 (b : Int)] 35)) (.slice (some ⟨w2.heap.size, 0, none⟩) 1 1) [(3, 0, paramsN pre x, b)] := acts_one hs2 (hN.mono fun k _ hk => Nat.le_trans HS1.out hk)
              have hbx : Below w.heap.size w (w2.alloc (.cells #[.int .i64 3, .int .i32 0, .slice va vn vc, .int .u8 (b : Int)] 35)) := hbw2.alloc hs2 _
              go_wp2_with fail
              rw [hR.out]
              go_ret2
              exact ⟨_, _, rfl, rfl, Nat.zero_le _, hA, hbx⟩
            · have i127 : (126 : Int) < (b : Int) := by omega
              replace hR : Hid (R = (.zero, [badA])) := by
                show _ = _
                rw [← hR.out]
                unfold seqN
                rw [if_neg h32, if_neg h64, if_neg h127]
              go_enter Tryd.func10, Tryd.ntmps10
              go_wp2_with fail
              go_fit (HP.out _)
              rintro e w2 ⟨v, rfl, hN, hb2⟩
              have hbw2 := HB1.out.trans (hb2.mono HS1.out)
              have hs2 := Nat.le_trans HS1.out hb2.size
              obtain ⟨va, vn, vc, rfl⟩ : ∃ va vn vc, v = .slice va vn vc := by
                obtain ⟨va, vc, hv, _⟩ := hN.1
                exact ⟨va, _, vc, hv⟩
              go_wp2_with fail
              go_fit (HO5.out _)
              rintro e w1 ⟨v, rfl, hA, _, hb3⟩
              go_wp2_with fail
              rw [hR.out]
              go_ret2
              exact ⟨⟨#[]⟩, v, rfl, rfl, Nat.zero_le _, acts_from hA hs2, hbw2.trans (hb3.mono hs2)⟩

set_option maxRecDepth 20000 in
set_option maxHeartbeats 8000000 in
theorem rfeed_bad (T : ByteArray) (b : Nat) (w : World) (hb : b < 256) (hT : RelT (.bad) T) (hTs : T.size ≤ 10000) :
    Calls Tryd.prog 10 #[.string T, .int .u8 (b : Int)] w (RefW w (wrongN b) (T.size + 1)) := by
  obtain ⟨R, hR⟩ : ∃ R, wrongN b = R := ⟨_, rfl⟩
  rw [hR]
  have hR := Lib.hid hR
  have HREL := Lib.hid hT
  obtain ⟨u, hu, hp⟩ := hT
  obtain ⟨h0, e0⟩ := first27 T (91 :: u) hu
  obtain ⟨n1, n2⟩ := nonempty_facts T h0
  have hsz : T.size = u.length + 2 := by rw [Lib.size_eq, hu]; rfl
  have hz : ((T.size : Int) == 1) = false := beq_false_of_ne (by omega)
  have hst : Hid (RelT (.bad) (T ++ oneB b)) := by
    have h2 : partsN (u ++ [UInt8.ofNat b]) = .bad := by
      rw [partsN_snoc, hp]
      rfl
    have h3 : (T ++ oneB b).data.toList = 27 :: 91 :: (u ++ [UInt8.ofNat b]) := by rw [pre_one T _ b hu]; rfl
    show RelT _ _
    exact ⟨_, h3, h2⟩
  have h2d : (T.extract 2 T.size).data.toList = u := by
    rw [Lib.extract_data, hu]
    show List.take _ u = u
    exact List.take_of_length_le (by omega)
  have HP : Hid (∀ W, Calls Tryd.prog 24 #[.string (T.extract 2 T.size)] W fun e w' => ∃ v, e = .returned (.tuple #[v, .bool false]) ∧ NumsW (FromP W.heap.size) w' v ([]) ∧ Below W.heap.size W w') := fun W => by
    have h3 := refParams_any (T.extract 2 T.size) W (by rw [Lib.tail_size]; omega)
    rw [h2d, refPar_bad u hp] at h3
    exact h3
  have s2 : (2 : Int) ≤ (T.size : Int) := by omega
  clear hu hp h2d hsz
  have cv := convP_new [(b : Int)] w
  rw [str_one] at cv
  simp only [List.map_cons, List.map_nil, List.length_cons, List.length_nil] at cv
  have hb1 : Below w.heap.size w (w.alloc (.cells #[.int .u8 (b : Int)] 5)) := (Below.refl _ _).alloc (Nat.le_refl _) _
  have HB1 := Lib.hid hb1
  have HS1 : Hid (w.heap.size ≤ (w.alloc (.cells #[.int .u8 (b : Int)] 5)).heap.size) := hb1.size
  clear hb1
  have HO2 : Hid (∀ W, Calls Tryd.prog 22 #[.int .i64 2, .int .i32 (b : Int)] W fun e w' => ∃ v, e = .returned v ∧ ActsW (FromP W.heap.size) w' v [(2, b, [], 0)] ∧ (∃ a, v = .slice (some a) 1 1) ∧ Below W.heap.size W w') := fun W => rone_any 2 b W
  have HO5 : Hid (∀ W, Calls Tryd.prog 22 #[.int .i64 5, .int .i32 0] W fun e w' => ∃ v, e = .returned v ∧ ActsW (FromP W.heap.size) w' v [badA] ∧ (∃ a, v = .slice (some a) 1 1) ∧ Below W.heap.size W w') := fun W => rone_any 5 0 W
  have e4 : (oneB b).size = 1 := rfl
  by_cases h27 : b = 27
  · subst h27
    replace hR : Hid (R = (.esc, [badA])) := by
      show _ = _
      rw [← hR.out]
      unfold wrongN withinN
      rw [if_pos (by omega), if_pos rfl]
    clear HO2 hst HP
    rw [show ((27 : Nat) : Int) = 27 from rfl] at cv HB1 HS1 ⊢
    go_enter Tryd.func10, Tryd.ntmps10
    go_wp2_with fail
    go_fit (HO5.out _)
    rintro e w1 ⟨v, rfl, hA, _, hb2⟩
    go_wp2_with fail
    rw [hR.out]
    go_ret2
    exact ⟨⟨#[27]⟩, v, rfl, rfl, by show 1 ≤ _; omega, acts_from hA HS1.out, HB1.out.trans (hb2.mono HS1.out)⟩
  · have e27 : ((b : Int) == 27) = false := beq_false_of_ne (by omega)
    by_cases h24 : b = 24
    · subst h24
      replace hR : Hid (R = (.zero, [badA])) := by
        show _ = _
        rw [← hR.out]
        unfold wrongN withinN
        rw [if_pos (by omega), if_neg h27, if_pos (.inl rfl)]
      clear HO2 hst HP e27
      rw [show ((24 : Nat) : Int) = 24 from rfl] at cv HB1 HS1 ⊢
      go_enter Tryd.func10, Tryd.ntmps10
      go_wp2_with fail
      go_fit (HO5.out _)
      rintro e w1 ⟨v, rfl, hA, _, hb2⟩
      go_wp2_with fail
      rw [hR.out]
      go_ret2
      exact ⟨⟨#[]⟩, v, rfl, rfl, Nat.zero_le _, acts_from hA HS1.out, HB1.out.trans (hb2.mono HS1.out)⟩
    · have e24 : ((b : Int) == 24) = false := beq_false_of_ne (by omega)
      by_cases h26 : b = 26
      · subst h26
        replace hR : Hid (R = (.zero, [badA])) := by
          show _ = _
          rw [← hR.out]
          unfold wrongN withinN
          rw [if_pos (by omega), if_neg h27, if_pos (.inr rfl)]
        clear HO2 hst HP e27 e24
        rw [show ((26 : Nat) : Int) = 26 from rfl] at cv HB1 HS1 ⊢
        go_enter Tryd.func10, Tryd.ntmps10
        go_wp2_with fail
        go_fit (HO5.out _)
        rintro e w1 ⟨v, rfl, hA, _, hb2⟩
        go_wp2_with fail
        rw [hR.out]
        go_ret2
        exact ⟨⟨#[]⟩, v, rfl, rfl, Nat.zero_le _, acts_from hA HS1.out, HB1.out.trans (hb2.mono HS1.out)⟩
      · have e26 : ((b : Int) == 26) = false := beq_false_of_ne (by omega)
        by_cases h32 : b < 32
        · have i32 : (b : Int) < 32 := by omega
          replace hR : Hid (R = (.bad, [(2, b, [], 0)])) := by
            show _ = _
            rw [← hR.out]
            unfold wrongN withinN
            rw [if_pos h32, if_neg h27, if_neg (by omega)]
          clear HO5 hst HP
          go_enter Tryd.func10, Tryd.ntmps10
          go_wp2_with fail
          go_fit (HO2.out _)
          rintro e w1 ⟨v, rfl, hA, _, hb2⟩
          go_wp2_with fail
          rw [hR.out]
          go_ret2
          exact ⟨T, v, rfl, HREL.out, by omega, acts_from hA HS1.out, HB1.out.trans (hb2.mono HS1.out)⟩
        · have i32 : (32 : Int) ≤ (b : Int) := by omega
          by_cases h64 : b < 64
          · have i64 : (b : Int) < 64 := by omega
            replace hR : Hid (R = (.bad, [])) := by
              show _ = _
              rw [← hR.out]
              unfold wrongN
              rw [if_neg h32, if_pos h64]
            clear HO2 HO5 HP
            go_enter Tryd.func10, Tryd.ntmps10
            go_wp2_with fail
            rw [hR.out]
            go_ret2
            exact ⟨_, _, rfl, hst.out, by rw [app_size]; exact Nat.le_refl _, ActsW.nil _ _, HB1.out⟩
          · have i64 : (64 : Int) ≤ (b : Int) := by omega
            clear hst HO2
            by_cases h127 : b < 127
            · have i127 : (b : Int) ≤ 126 := by omega
              replace hR : Hid (R = (.zero, [badA])) := by
                show _ = _
                rw [← hR.out]
                unfold wrongN
                rw [if_neg h32, if_neg h64]
              go_enter Tryd.func10, Tryd.ntmps10
              go_wp2_with fail
              go_fit (HP.out _)
              rintro e w2 ⟨v, rfl, hN, hb2⟩
              have hbw2 := HB1.out.trans (hb2.mono HS1.out)
              have hs2 := Nat.le_trans HS1.out hb2.size
              obtain ⟨va, vn, vc, rfl⟩ : ∃ va vn vc, v = .slice va vn vc := by
                obtain ⟨va, vc, hv, _⟩ := hN.1
                exact ⟨va, _, vc, hv⟩
              go_wp2_with fail
              go_fit (HO5.out _)
              rintro e w1 ⟨v, rfl, hA, _, hb3⟩
              go_wp2_with fail
              rw [hR.out]
              go_ret2
              exact ⟨⟨#[]⟩, v, rfl, rfl, Nat.zero_le _, acts_from hA hs2, hbw2.trans (hb3.mono hs2)⟩
            · have i127 : (126 : Int) < (b : Int) := by omega
              replace hR : Hid (R = (.zero, [badA])) := by
                show _ = _
                rw [← hR.out]
                unfold wrongN
                rw [if_neg h32, if_neg h64]
              go_enter Tryd.func10, Tryd.ntmps10
              go_wp2_with fail
              go_fit (HP.out _)
              rintro e w2 ⟨v, rfl, hN, hb2⟩
              have hbw2 := HB1.out.trans (hb2.mono HS1.out)
              have hs2 := Nat.le_trans HS1.out hb2.size
              obtain ⟨va, vn, vc, rfl⟩ : ∃ va vn vc, v = .slice va vn vc := by
                obtain ⟨va, vc, hv, _⟩ := hN.1
                exact ⟨va, _, vc, hv⟩
              go_wp2_with fail
              go_fit (HO5.out _)
              rintro e w1 ⟨v, rfl, hA, _, hb3⟩
              go_wp2_with fail
              rw [hR.out]
              go_ret2
              exact ⟨⟨#[]⟩, v, rfl, rfl, Nat.zero_le _, acts_from hA hs2, hbw2.trans (hb3.mono hs2)⟩
end Go.Proofs.YtbpnnnjbddjboaaDoor
