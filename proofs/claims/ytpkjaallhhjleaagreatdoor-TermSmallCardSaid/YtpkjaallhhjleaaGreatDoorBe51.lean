/-
  Texts of this proof, one behind the other; each begins with its own remark.
-/
import Derived.Deep.Cut
import Derived.Test.YtpkjaallhhjleaaGreatDoorBe18
import Derived.Test.YtpkjaallhhjleaaGreatDoorBe10
import Derived.Test.YtpkjaallhhjleaaGreatDoorBe8
/-
  limnerref07.ground: what it returns: for every byte. Where one stands behind which bytes.
-/
namespace Go.Proofs.YtpkjaallhhjleaaGreatDoor
open Go.RowKit

/-- Where one stands behind these bytes. -/
def RelT : Ps → ByteArray → Prop
  | .zero, t => t = ⟨#[]⟩
  | .start s, t => t = s
  | .esc, t => t = ⟨#[27]⟩
  | .seq pre x, t => ∃ u, t.data.toList = 27 :: 91 :: u ∧ partsN u = .seq pre x
  | .bad, t => ∃ u, t.data.toList = 27 :: 91 :: u ∧ partsN u = .bad
def RefW (w : World) (r : Ps × List Ac) (m : Nat) (e : Ending) (w' : World) : Prop := ∃ t v, e = .returned (.tuple #[.string t, v]) ∧ RelT r.1 t ∧ t.size ≤ m ∧ ActsW (FromP w.heap.size) w' v r.2 ∧ Below w.heap.size w w'

set_option maxRecDepth 20000 in
set_option maxHeartbeats 4000000 in
theorem ground_any (b : Nat) (w : World) (hb : b < 256) :
    Calls Tryz.prog 61 #[.int .u8 (b : Int)] w (RefW w (firstN b) 1) := by
  obtain ⟨R, hR⟩ : ∃ R, firstN b = R := ⟨_, rfl⟩
  rw [hR]
  have hR := Lib.hid hR
  have cv := convP_new [(b : Int)] w
  rw [str_one] at cv
  simp only [List.map_cons, List.map_nil, List.length_cons, List.length_nil] at cv
  have hb1 : Below w.heap.size w (w.alloc (.cells #[.int .u8 (b : Int)] 5)) := (Below.refl _ _).alloc (Nat.le_refl _) _
  have HB1 := Lib.hid hb1
  have HS1 : Hid (w.heap.size ≤ (w.alloc (.cells #[.int .u8 (b : Int)] 5)).heap.size) := hb1.size
  clear hb1
  have HO1 : Hid (∀ W, Calls Tryz.prog 64 #[.int .i64 1, .int .i32 (b : Int)] W fun e w' => ∃ v, e = .returned v ∧ ActsW (FromP W.heap.size) w' v [(1, b, [], 0)] ∧ (∃ a, v = .slice (some a) 1 1) ∧ Below W.heap.size W w') := fun W => rone_any 1 b W
  have HO2 : Hid (∀ W, Calls Tryz.prog 64 #[.int .i64 2, .int .i32 (b : Int)] W fun e w' => ∃ v, e = .returned v ∧ ActsW (FromP W.heap.size) w' v [(2, b, [], 0)] ∧ (∃ a, v = .slice (some a) 1 1) ∧ Below W.heap.size W w') := fun W => rone_any 2 b W
  have HO5 : Hid (∀ W, Calls Tryz.prog 64 #[.int .i64 5, .int .i32 0] W fun e w' => ∃ v, e = .returned v ∧ ActsW (FromP W.heap.size) w' v [badA] ∧ (∃ a, v = .slice (some a) 1 1) ∧ Below W.heap.size W w') := fun W => rone_any 5 0 W
  have HBE := Lib.hid (fun W => begins_any (oneS b) W (by rw [one_size]; decide) (by rw [one_size]; decide))
  by_cases h27 : b = 27
  · subst h27
    replace hR : Hid (R = (.esc, [])) := by
      show _ = _
      rw [← hR.out]
      unfold firstN
      rw [if_pos rfl]
    clear HO1 HO2 HO5 HBE
    rw [show ((27 : Nat) : Int) = 27 from rfl] at cv HB1 HS1 ⊢
    go_enter Tryz.func61, Tryz.ntmps61
    go_wp2_with fail
    rw [hR.out]
    go_ret2
    exact ⟨oneS 27, _, rfl, (by show oneS 27 = _; rfl), Nat.le_refl _, ActsW.nil _ _, HB1.out⟩
  · have e27 : ((b : Int) == 27) = false := beq_false_of_ne (by omega)
    by_cases h32 : b < 32
    · have i32 : (b : Int) < 32 := by omega
      replace hR : Hid (R = (.zero, [(2, b, [], 0)])) := by
        show _ = _
        rw [← hR.out]
        unfold firstN
        rw [if_neg h27, if_pos (.inl h32)]
      clear HO1 HO5 HBE
      go_enter Tryz.func61, Tryz.ntmps61
      go_wp2_with fail
      go_fit (HO2.out _)
      rintro e w1 ⟨v, rfl, hA, _, hb2⟩
      go_wp2_with fail
      rw [hR.out]
      go_ret2
      exact ⟨⟨#[]⟩, v, rfl, rfl, Nat.zero_le _, acts_from hA HS1.out, HB1.out.trans (hb2.mono HS1.out)⟩
    · have i32 : (32 : Int) ≤ (b : Int) := by omega
      by_cases h127 : b = 127
      · subst h127
        replace hR : Hid (R = (.zero, [(2, 127, [], 0)])) := by
          show _ = _
          rw [← hR.out]
          unfold firstN
          rw [if_neg h27, if_pos (.inr rfl)]
        clear HO1 HO5 HBE e27 i32
        rw [show ((127 : Nat) : Int) = 127 from rfl] at cv HB1 HS1 HO2 ⊢
        go_enter Tryz.func61, Tryz.ntmps61
        go_wp2_with fail
        go_fit (HO2.out _)
        rintro e w1 ⟨v, rfl, hA, _, hb2⟩
        go_wp2_with fail
        rw [hR.out]
        go_ret2
        exact ⟨⟨#[]⟩, v, rfl, rfl, Nat.zero_le _, acts_from hA HS1.out, HB1.out.trans (hb2.mono HS1.out)⟩
      · have e127 : ((b : Int) == 127) = false := beq_false_of_ne (by omega)
        by_cases h128 : b < 128
        · have i128 : (b : Int) < 128 := by omega
          replace hR : Hid (R = (.zero, [(1, b, [], 0)])) := by
            show _ = _
            rw [← hR.out]
            unfold firstN
            rw [if_neg h27, if_neg (by omega), if_pos h128]
          clear HO2 HO5 HBE
          go_enter Tryz.func61, Tryz.ntmps61
          go_wp2_with fail
          go_fit (HO1.out _)
          rintro e w1 ⟨v, rfl, hA, _, hb2⟩
          go_wp2_with fail
          rw [hR.out]
          go_ret2
          exact ⟨⟨#[]⟩, v, rfl, rfl, Nat.zero_le _, acts_from hA HS1.out, HB1.out.trans (hb2.mono HS1.out)⟩
        · have i128 : (128 : Int) ≤ (b : Int) := by omega
          by_cases hst : begB (oneS b) = true
          · replace hR : Hid (R = (.start (oneS b), [])) := by
              show _ = _
              rw [← hR.out]
              unfold firstN
              rw [if_neg h27, if_neg (by omega), if_neg h128, if_pos hst]
            rw [hst] at HBE
            clear HO1 HO2 HO5
            go_enter Tryz.func61, Tryz.ntmps61
            go_wp2_with fail
            go_fit (HBE.out _)
            rintro e w2 ⟨rfl, hb3⟩
            go_wp2_with fail
            rw [hR.out]
            go_ret2
            exact ⟨oneS b, _, rfl, rfl, Nat.le_refl _, ActsW.nil _ _, HB1.out.trans (hb3.mono HS1.out)⟩
          · have hsf : begB (oneS b) = false := by cases h : begB (oneS b) <;> simp_all
            replace hR : Hid (R = (.zero, [badA])) := by
              show _ = _
              rw [← hR.out]
              unfold firstN
              rw [if_neg h27, if_neg (by omega), if_neg h128, if_neg hst]
            rw [hsf] at HBE
            clear HO1 HO2
            go_enter Tryz.func61, Tryz.ntmps61
            go_wp2_with fail
            go_fit (HBE.out _)
            rintro e w2 ⟨rfl, hb3⟩
            go_wp2_with fail
            go_fit (HO5.out _)
            rintro e w1 ⟨v, rfl, hA, _, hb2⟩
            go_wp2_with fail
            rw [hR.out]
            go_ret2
            exact ⟨⟨#[]⟩, v, rfl, rfl, Nat.zero_le _, acts_from hA (Nat.le_trans HS1.out hb3.size), (HB1.out.trans (hb3.mono HS1.out)).trans (hb2.mono (Nat.le_trans HS1.out hb3.size))⟩
end Go.Proofs.YtpkjaallhhjleaaGreatDoor

/-
  limnerref07.Feed: what it returns: for every state that may be, behind whatever bytes, for every byte.
-/
namespace Go.Proofs.YtpkjaallhhjleaaGreatDoor
open Go.RowKit

theorem pre_one (t : ByteArray) (l : List UInt8) (b : Nat) (h : t.data.toList = l) : (t ++ oneS b).data.toList = l ++ [UInt8.ofNat b] := by rw [app_data, h]; rfl
theorem data_eq {a : ByteArray} {l : List UInt8} (h : a.data.toList = l) : a = ⟨l.toArray⟩ := by
  apply ByteArray.ext
  apply Array.toList_inj.1
  exact h
theorem nonempty_facts (T : ByteArray) (h : 0 < T.size) : T.toList.isEmpty = false ∧ (T.toList == []) = false := by
  have h1 : T.toList.isEmpty = false := by
    cases h2 : T.toList with
    | nil => rw [Lib.toList_data] at h2; have h3 := Lib.size_eq T; rw [h2] at h3; have h4 : T.size = 0 := h3; omega
    | cons _ _ => rfl
  refine ⟨h1, ?_⟩
  cases h2 : T.toList with
  | nil => rw [h2] at h1; cases h1
  | cons _ _ => rfl
theorem first27 (T : ByteArray) (r : List UInt8) (h : T.data.toList = 27 :: r) : ∃ h0 : 0 < T.size, (T[0].toNat : Int) = 27 := by
  have hs := Lib.size_eq T
  rw [h, List.length_cons] at hs
  refine ⟨by omega, ?_⟩
  have : T[0] = T.data.toList[0]'(by rw [h]; exact Nat.succ_pos _) := rfl
  rw [this]
  simp [h]

set_option maxHeartbeats 2000000 in
theorem rfeed_zero (b : Nat) (w : World) (hb : b < 256) :
    Calls Tryz.prog 31 #[.string ⟨#[]⟩, .int .u8 (b : Int)] w (RefW w (firstN b) 1) := by
  obtain ⟨R, hR⟩ : ∃ R, firstN b = R := ⟨_, rfl⟩
  have HG := Lib.hid (ground_any b w hb)
  rw [hR] at HG ⊢
  clear hR
  go_enter Tryz.func31, Tryz.ntmps31
  go_wp2_with fail
  go_fit HG.out
  rintro e w1 ⟨t, v, rfl, h1, h2, h3, h4⟩
  go_wp2_with fail
  go_ret2
  exact ⟨t, v, rfl, h1, h2, h3, h4⟩

set_option maxRecDepth 20000 in
set_option maxHeartbeats 8000000 in
theorem rfeed_esc (T : ByteArray) (b : Nat) (w : World) (hb : b < 256) (hT : T = ⟨#[27]⟩) :
    Calls Tryz.prog 31 #[.string T, .int .u8 (b : Int)] w (RefW w (escN b) (T.size + 1)) := by
  obtain ⟨R, hR⟩ : ∃ R, escN b = R := ⟨_, rfl⟩
  rw [hR]
  have hR := Lib.hid hR
  have HREL : Hid (RelT .esc T) := hT
  obtain ⟨h0, e0⟩ := first27 T [] (by rw [hT])
  obtain ⟨n1, n2⟩ := nonempty_facts T h0
  have hz : T.size = 1 := by rw [hT]; rfl
  have hst : Hid (RelT (.seq [] none) (T ++ oneS 91)) := ⟨[], by rw [hT]; rfl, rfl⟩
  have HP : Hid True := trivial
  clear hT
  have cv := convP_new [(b : Int)] w
  rw [str_one] at cv
  simp only [List.map_cons, List.map_nil, List.length_cons, List.length_nil] at cv
  have hb1 : Below w.heap.size w (w.alloc (.cells #[.int .u8 (b : Int)] 5)) := (Below.refl _ _).alloc (Nat.le_refl _) _
  have HB1 := Lib.hid hb1
  have HS1 : Hid (w.heap.size ≤ (w.alloc (.cells #[.int .u8 (b : Int)] 5)).heap.size) := hb1.size
  clear hb1
  have HO2 : Hid (∀ W, Calls Tryz.prog 64 #[.int .i64 2, .int .i32 (b : Int)] W fun e w' => ∃ v, e = .returned v ∧ ActsW (FromP W.heap.size) w' v [(2, b, [], 0)] ∧ (∃ a, v = .slice (some a) 1 1) ∧ Below W.heap.size W w') := fun W => rone_any 2 b W
  have HO5 : Hid (∀ W, Calls Tryz.prog 64 #[.int .i64 5, .int .i32 0] W fun e w' => ∃ v, e = .returned v ∧ ActsW (FromP W.heap.size) w' v [badA] ∧ (∃ a, v = .slice (some a) 1 1) ∧ Below W.heap.size W w') := fun W => rone_any 5 0 W
  have e4 : (oneS b).size = 1 := rfl
  by_cases h27 : b = 27
  · subst h27
    replace hR : Hid (R = (.esc, [badA])) := by
      show _ = _
      rw [← hR.out]
      unfold escN withinN
      rw [if_pos (by omega), if_pos rfl]
    clear HO2 hst HP
    rw [show ((27 : Nat) : Int) = 27 from rfl] at cv HB1 HS1 ⊢
    go_enter Tryz.func31, Tryz.ntmps31
    go_wp2_with fail
    go_fit (HO5.out _)
    rintro e w1 ⟨v, rfl, hA, _, hb2⟩
    go_wp2_with fail
    rw [hR.out]
    go_ret2
    exact ⟨⟨#[27]⟩, v, rfl, rfl, by show 1 ≤ _; omega, acts_from hA HS1.out, HB1.out.trans (hb2.mono HS1.out)⟩
  · have e27 : ((b : Int) == 27) = false := beq_false_of_ne (by omega)
    by_cases h24 : b = 24
    · subst h24
      replace hR : Hid (R = (.zero, [badA])) := by
        show _ = _
        rw [← hR.out]
        unfold escN withinN
        rw [if_pos (by omega), if_neg h27, if_pos (.inl rfl)]
      clear HO2 hst HP e27
      rw [show ((24 : Nat) : Int) = 24 from rfl] at cv HB1 HS1 ⊢
      go_enter Tryz.func31, Tryz.ntmps31
      go_wp2_with fail
      go_fit (HO5.out _)
      rintro e w1 ⟨v, rfl, hA, _, hb2⟩
      go_wp2_with fail
      rw [hR.out]
      go_ret2
      exact ⟨⟨#[]⟩, v, rfl, rfl, Nat.zero_le _, acts_from hA HS1.out, HB1.out.trans (hb2.mono HS1.out)⟩
    · have e24 : ((b : Int) == 24) = false := beq_false_of_ne (by omega)
      by_cases h26 : b = 26
      · subst h26
        replace hR : Hid (R = (.zero, [badA])) := by
          show _ = _
          rw [← hR.out]
          unfold escN withinN
          rw [if_pos (by omega), if_neg h27, if_pos (.inr rfl)]
        clear HO2 hst HP e27 e24
        rw [show ((26 : Nat) : Int) = 26 from rfl] at cv HB1 HS1 ⊢
        go_enter Tryz.func31, Tryz.ntmps31
        go_wp2_with fail
        go_fit (HO5.out _)
        rintro e w1 ⟨v, rfl, hA, _, hb2⟩
        go_wp2_with fail
        rw [hR.out]
        go_ret2
        exact ⟨⟨#[]⟩, v, rfl, rfl, Nat.zero_le _, acts_from hA HS1.out, HB1.out.trans (hb2.mono HS1.out)⟩
      · have e26 : ((b : Int) == 26) = false := beq_false_of_ne (by omega)
        by_cases h32 : b < 32
        · have i32 : (b : Int) < 32 := by omega
          replace hR : Hid (R = (.esc, [(2, b, [], 0)])) := by
            show _ = _
            rw [← hR.out]
            unfold escN withinN
            rw [if_pos h32, if_neg h27, if_neg (by omega)]
          clear HO5 hst HP
          go_enter Tryz.func31, Tryz.ntmps31
          go_wp2_with fail
          go_fit (HO2.out _)
          rintro e w1 ⟨v, rfl, hA, _, hb2⟩
          go_wp2_with fail
          rw [hR.out]
          go_ret2
          exact ⟨T, v, rfl, HREL.out, by omega, acts_from hA HS1.out, HB1.out.trans (hb2.mono HS1.out)⟩
        · have i32 : (32 : Int) ≤ (b : Int) := by omega
          by_cases h91 : b = 91
          · subst h91
            replace hR : Hid (R = (.seq [] none, [])) := by
              show _ = _
              rw [← hR.out]
              unfold escN
              rw [if_neg h32, if_pos rfl]
            clear HO2 HO5 HP e27 e24 e26 i32
            rw [show ((91 : Nat) : Int) = 91 from rfl] at cv HB1 HS1 ⊢
            go_enter Tryz.func31, Tryz.ntmps31
            go_wp2_with fail
            rw [hR.out]
            go_ret2
            exact ⟨_, _, rfl, hst.out, by rw [app_size]; exact Nat.le_refl _, ActsW.nil _ _, HB1.out⟩
          · have e91 : ((b : Int) == 91) = false := beq_false_of_ne (by omega)
            clear hst HO2
            by_cases h48 : 48 ≤ b ∧ b < 127
            · have i48 : (48 : Int) ≤ (b : Int) := by omega
              have i127 : (b : Int) ≤ 126 := by omega
              replace hR : Hid (R = (.zero, [(4, 0, [], b)])) := by
                show _ = _
                rw [← hR.out]
                unfold escN
                rw [if_neg h32, if_neg h91, if_pos h48]
              have hA : ActsW (FromP w.heap.size) ((w.alloc (.cells #[.int .u8 (b : Int)] 5)).alloc (.cells #[.int .i64 4, .int .i32 0, .slice none 0 0, .int .u8 (b : Int)] 77)) (.slice (some ⟨(w.alloc (.cells #[.int .u8 (b : Int)] 5)).heap.size, 0, none⟩) 1 1) [(4, 0, [], b)] := acts_one HS1.out (NumsW.nil _ _)
              have hbx : Below w.heap.size w ((w.alloc (.cells #[.int .u8 (b : Int)] 5)).alloc (.cells #[.int .i64 4, .int .i32 0, .slice none 0 0, .int .u8 (b : Int)] 77)) := HB1.out.alloc HS1.out _
              rw [World.size_alloc] at hA
              clear HO5
              go_enter Tryz.func31, Tryz.ntmps31
              go_wp2_with fail
              rw [hR.out]
              go_ret2
              exact ⟨_, _, rfl, rfl, Nat.zero_le _, hA, hbx⟩
            · replace hR : Hid (R = (.zero, [badA])) := by
                show _ = _
                rw [← hR.out]
                unfold escN
                rw [if_neg h32, if_neg h91, if_neg h48]
              by_cases g48 : 48 ≤ b
              · have i48 : (48 : Int) ≤ (b : Int) := by omega
                have i127 : (126 : Int) < (b : Int) := by omega
                go_enter Tryz.func31, Tryz.ntmps31
                go_wp2_with fail
                go_fit (HO5.out _)
                rintro e w1 ⟨v, rfl, hA, _, hb2⟩
                go_wp2_with fail
                rw [hR.out]
                go_ret2
                exact ⟨⟨#[]⟩, v, rfl, rfl, Nat.zero_le _, acts_from hA HS1.out, HB1.out.trans (hb2.mono HS1.out)⟩
              · have i48 : (b : Int) < 48 := by omega
                go_enter Tryz.func31, Tryz.ntmps31
                go_wp2_with fail
                go_fit (HO5.out _)
                rintro e w1 ⟨v, rfl, hA, _, hb2⟩
                go_wp2_with fail
                rw [hR.out]
                go_ret2
                exact ⟨⟨#[]⟩, v, rfl, rfl, Nat.zero_le _, acts_from hA HS1.out, HB1.out.trans (hb2.mono HS1.out)⟩
end Go.Proofs.YtpkjaallhhjleaaGreatDoor

/-
  limnerref07.Feed behind a sequence: what it returns: for every byte.
-/
namespace Go.Proofs.YtpkjaallhhjleaaGreatDoor
open Go.RowKit

set_option maxRecDepth 20000 in
set_option maxHeartbeats 8000000 in
theorem rfeed_seq (pre : List (Option Nat)) (x : Option Nat) (T : ByteArray) (b : Nat) (w : World) (hb : b < 256) (hT : RelT (.seq pre x) T) (hTs : T.size ≤ 10000) :
    Calls Tryz.prog 31 #[.string T, .int .u8 (b : Int)] w (RefW w (seqN pre x b) (T.size + 1)) := by
  obtain ⟨R, hR⟩ : ∃ R, seqN pre x b = R := ⟨_, rfl⟩
  rw [hR]
  have hR := Lib.hid hR
  have HREL := Lib.hid hT
  obtain ⟨u, hu, hp⟩ := hT
  obtain ⟨h0, e0⟩ := first27 T (91 :: u) hu
  obtain ⟨n1, n2⟩ := nonempty_facts T h0
  have hsz : T.size = u.length + 2 := by rw [Lib.size_eq, hu]; rfl
  have hz : ((T.size : Int) == 1) = false := beq_false_of_ne (by omega)
  have hst : Hid (RelT (stepN pre x b) (T ++ oneS b)) := by
    have h2 : partsN (u ++ [UInt8.ofNat b]) = stepN pre x b := by
      rw [partsN_snoc, hp]
      show stepN pre x (UInt8.ofNat b).toNat = _
      rw [UInt8.toNat_ofNat', Nat.mod_eq_of_lt (by omega)]
    have h3 : (T ++ oneS b).data.toList = 27 :: 91 :: (u ++ [UInt8.ofNat b]) := by rw [pre_one T _ b hu]; rfl
    show RelT _ _
    cases hq : stepN pre x b with
    | seq q y => rw [hq] at h2; exact ⟨_, h3, h2⟩
    | bad => rw [hq] at h2; exact ⟨_, h3, h2⟩
    | zero => have := step_stN pre x b; rw [hq] at this; cases this
    | start s => have := step_stN pre x b; rw [hq] at this; cases this
    | esc => have := step_stN pre x b; rw [hq] at this; cases this
  have h2d : (T.extract 2 T.size).data.toList = u := by
    rw [Lib.extract_data, hu]
    show List.take _ u = u
    exact List.take_of_length_le (by omega)
  have HP : Hid (∀ W, Calls Tryz.prog 66 #[.string (T.extract 2 T.size)] W fun e w' => ∃ v, e = .returned (.tuple #[v, .bool true]) ∧ NumsW (FromP W.heap.size) w' v (paramsN pre x) ∧ Below W.heap.size W w') := fun W => by
    have h3 := refParams_any (T.extract 2 T.size) W (by rw [Lib.tail_size]; omega)
    rw [h2d, refPar_seq u pre x hp] at h3
    exact h3
  have s2 : (2 : Int) ≤ (T.size : Int) := by omega
  clear hu hp h2d hsz
  have cv := convP_new [(b : Int)] w
  rw [str_one] at cv
  simp only [List.map_cons, List.map_nil, List.length_cons, List.length_nil] at cv
  have hb1 : Below w.heap.size w (w.alloc (.cells #[.int .u8 (b : Int)] 5)) := (Below.refl _ _).alloc (Nat.le_refl _) _
  have HB1 := Lib.hid hb1
  have HS1 : Hid (w.heap.size ≤ (w.alloc (.cells #[.int .u8 (b : Int)] 5)).heap.size) := hb1.size
  clear hb1
  have HO2 : Hid (∀ W, Calls Tryz.prog 64 #[.int .i64 2, .int .i32 (b : Int)] W fun e w' => ∃ v, e = .returned v ∧ ActsW (FromP W.heap.size) w' v [(2, b, [], 0)] ∧ (∃ a, v = .slice (some a) 1 1) ∧ Below W.heap.size W w') := fun W => rone_any 2 b W
  have HO5 : Hid (∀ W, Calls Tryz.prog 64 #[.int .i64 5, .int .i32 0] W fun e w' => ∃ v, e = .returned v ∧ ActsW (FromP W.heap.size) w' v [badA] ∧ (∃ a, v = .slice (some a) 1 1) ∧ Below W.heap.size W w') := fun W => rone_any 5 0 W
  have e4 : (oneS b).size = 1 := rfl
  by_cases h27 : b = 27
  · subst h27
    replace hR : Hid (R = (.esc, [badA])) := by
      show _ = _
      rw [← hR.out]
      unfold seqN withinN
      rw [if_pos (by omega), if_pos rfl]
    clear HO2 hst HP
    rw [show ((27 : Nat) : Int) = 27 from rfl] at cv HB1 HS1 ⊢
    go_enter Tryz.func31, Tryz.ntmps31
    go_wp2_with fail
    go_fit (HO5.out _)
    rintro e w1 ⟨v, rfl, hA, _, hb2⟩
    go_wp2_with fail
    rw [hR.out]
    go_ret2
    exact ⟨⟨#[27]⟩, v, rfl, rfl, by show 1 ≤ _; omega, acts_from hA HS1.out, HB1.out.trans (hb2.mono HS1.out)⟩
  · have e27 : ((b : Int) == 27) = false := beq_false_of_ne (by omega)
    by_cases h24 : b = 24
    · subst h24
      replace hR : Hid (R = (.zero, [badA])) := by
        show _ = _
        rw [← hR.out]
        unfold seqN withinN
        rw [if_pos (by omega), if_neg h27, if_pos (.inl rfl)]
      clear HO2 hst HP e27
      rw [show ((24 : Nat) : Int) = 24 from rfl] at cv HB1 HS1 ⊢
      go_enter Tryz.func31, Tryz.ntmps31
      go_wp2_with fail
      go_fit (HO5.out _)
      rintro e w1 ⟨v, rfl, hA, _, hb2⟩
      go_wp2_with fail
      rw [hR.out]
      go_ret2
      exact ⟨⟨#[]⟩, v, rfl, rfl, Nat.zero_le _, acts_from hA HS1.out, HB1.out.trans (hb2.mono HS1.out)⟩
    · have e24 : ((b : Int) == 24) = false := beq_false_of_ne (by omega)
      by_cases h26 : b = 26
      · subst h26
        replace hR : Hid (R = (.zero, [badA])) := by
          show _ = _
          rw [← hR.out]
          unfold seqN withinN
          rw [if_pos (by omega), if_neg h27, if_pos (.inr rfl)]
        clear HO2 hst HP e27 e24
        rw [show ((26 : Nat) : Int) = 26 from rfl] at cv HB1 HS1 ⊢
        go_enter Tryz.func31, Tryz.ntmps31
        go_wp2_with fail
        go_fit (HO5.out _)
        rintro e w1 ⟨v, rfl, hA, _, hb2⟩
        go_wp2_with fail
        rw [hR.out]
        go_ret2
        exact ⟨⟨#[]⟩, v, rfl, rfl, Nat.zero_le _, acts_from hA HS1.out, HB1.out.trans (hb2.mono HS1.out)⟩
      · have e26 : ((b : Int) == 26) = false := beq_false_of_ne (by omega)
        by_cases h32 : b < 32
        · have i32 : (b : Int) < 32 := by omega
          replace hR : Hid (R = (.seq pre x, [(2, b, [], 0)])) := by
            show _ = _
            rw [← hR.out]
            unfold seqN withinN
            rw [if_pos h32, if_neg h27, if_neg (by omega)]
          clear HO5 hst HP
          go_enter Tryz.func31, Tryz.ntmps31
          go_wp2_with fail
          go_fit (HO2.out _)
          rintro e w1 ⟨v, rfl, hA, _, hb2⟩
          go_wp2_with fail
          rw [hR.out]
          go_ret2
          exact ⟨T, v, rfl, HREL.out, by omega, acts_from hA HS1.out, HB1.out.trans (hb2.mono HS1.out)⟩
        · have i32 : (32 : Int) ≤ (b : Int) := by omega
          by_cases h64 : b < 64
          · have i64 : (b : Int) < 64 := by omega
            replace hR : Hid (R = (stepN pre x b, [])) := by
              show _ = _
              rw [← hR.out]
              unfold seqN
              rw [if_neg h32, if_pos h64]
            clear HO2 HO5 HP
            go_enter Tryz.func31, Tryz.ntmps31
            go_wp2_with fail
            rw [hR.out]
            go_ret2
            exact ⟨_, _, rfl, hst.out, by rw [app_size]; exact Nat.le_refl _, ActsW.nil _ _, HB1.out⟩
          · have i64 : (64 : Int) ≤ (b : Int) := by omega
            clear hst HO2
            by_cases h127 : b < 127
            · have i127 : (b : Int) ≤ 126 := by omega
              replace hR : Hid (R = (.zero, [(3, 0, paramsN pre x, b)])) := by
                show _ = _
                rw [← hR.out]
                unfold seqN
                rw [if_neg h32, if_neg h64, if_pos h127]
              clear HO5
              go_enter Tryz.func31, Tryz.ntmps31
              go_wp2_with fail
              go_fit (HP.out _)
              rintro e w2 ⟨v, rfl, hN, hb2⟩
              have hbw2 := HB1.out.trans (hb2.mono HS1.out)
              have hs2 := Nat.le_trans HS1.out hb2.size
              obtain ⟨va, vn, vc, rfl⟩ : ∃ va vn vc, v = .slice va vn vc := by
                obtain ⟨va, vc, hv, _⟩ := hN.1
                exact ⟨va, _, vc, hv⟩
              have hA : ActsW (FromP w.heap.size) (w2.alloc (.cells #[.int .i64 3, .int .i32 0, .slice va vn vc, .int .u8 (b : Int)] 77)) (.slice (some ⟨w2.heap.size, 0, none⟩) 1 1) [(3, 0, paramsN pre x, b)] := acts_one hs2 (hN.mono fun k _ hk => Nat.le_trans HS1.out hk)
              have hbx : Below w.heap.size w (w2.alloc (.cells #[.int .i64 3, .int .i32 0, .slice va vn vc, .int .u8 (b : Int)] 77)) := hbw2.alloc hs2 _
              go_wp2_with fail
              rw [hR.out]
              go_ret2
              exact ⟨_, _, rfl, rfl, Nat.zero_le _, hA, hbx⟩
            · have i127 : (126 : Int) < (b : Int) := by omega
              replace hR : Hid (R = (.zero, [badA])) := by
                show _ = _
                rw [← hR.out]
                unfold seqN
                rw [if_neg h32, if_neg h64, if_neg h127]
              go_enter Tryz.func31, Tryz.ntmps31
              go_wp2_with fail
              go_fit (HP.out _)
              rintro e w2 ⟨v, rfl, hN, hb2⟩
              have hbw2 := HB1.out.trans (hb2.mono HS1.out)
              have hs2 := Nat.le_trans HS1.out hb2.size
              obtain ⟨va, vn, vc, rfl⟩ : ∃ va vn vc, v = .slice va vn vc := by
                obtain ⟨va, vc, hv, _⟩ := hN.1
                exact ⟨va, _, vc, hv⟩
              go_wp2_with fail
              go_fit (HO5.out _)
              rintro e w1 ⟨v, rfl, hA, _, hb3⟩
              go_wp2_with fail
              rw [hR.out]
              go_ret2
              exact ⟨⟨#[]⟩, v, rfl, rfl, Nat.zero_le _, acts_from hA hs2, hbw2.trans (hb3.mono hs2)⟩

set_option maxRecDepth 20000 in
set_option maxHeartbeats 8000000 in
theorem rfeed_bad (T : ByteArray) (b : Nat) (w : World) (hb : b < 256) (hT : RelT (.bad) T) (hTs : T.size ≤ 10000) :
    Calls Tryz.prog 31 #[.string T, .int .u8 (b : Int)] w (RefW w (wrongN b) (T.size + 1)) := by
  obtain ⟨R, hR⟩ : ∃ R, wrongN b = R := ⟨_, rfl⟩
  rw [hR]
  have hR := Lib.hid hR
  have HREL := Lib.hid hT
  obtain ⟨u, hu, hp⟩ := hT
  obtain ⟨h0, e0⟩ := first27 T (91 :: u) hu
  obtain ⟨n1, n2⟩ := nonempty_facts T h0
  have hsz : T.size = u.length + 2 := by rw [Lib.size_eq, hu]; rfl
  have hz : ((T.size : Int) == 1) = false := beq_false_of_ne (by omega)
  have hst : Hid (RelT (.bad) (T ++ oneS b)) := by
    have h2 : partsN (u ++ [UInt8.ofNat b]) = .bad := by
      rw [partsN_snoc, hp]
      rfl
    have h3 : (T ++ oneS b).data.toList = 27 :: 91 :: (u ++ [UInt8.ofNat b]) := by rw [pre_one T _ b hu]; rfl
    show RelT _ _
    exact ⟨_, h3, h2⟩
  have h2d : (T.extract 2 T.size).data.toList = u := by
    rw [Lib.extract_data, hu]
    show List.take _ u = u
    exact List.take_of_length_le (by omega)
  have HP : Hid (∀ W, Calls Tryz.prog 66 #[.string (T.extract 2 T.size)] W fun e w' => ∃ v, e = .returned (.tuple #[v, .bool false]) ∧ NumsW (FromP W.heap.size) w' v ([]) ∧ Below W.heap.size W w') := fun W => by
    have h3 := refParams_any (T.extract 2 T.size) W (by rw [Lib.tail_size]; omega)
    rw [h2d, refPar_bad u hp] at h3
    exact h3
  have s2 : (2 : Int) ≤ (T.size : Int) := by omega
  clear hu hp h2d hsz
  have cv := convP_new [(b : Int)] w
  rw [str_one] at cv
  simp only [List.map_cons, List.map_nil, List.length_cons, List.length_nil] at cv
  have hb1 : Below w.heap.size w (w.alloc (.cells #[.int .u8 (b : Int)] 5)) := (Below.refl _ _).alloc (Nat.le_refl _) _
  have HB1 := Lib.hid hb1
  have HS1 : Hid (w.heap.size ≤ (w.alloc (.cells #[.int .u8 (b : Int)] 5)).heap.size) := hb1.size
  clear hb1
  have HO2 : Hid (∀ W, Calls Tryz.prog 64 #[.int .i64 2, .int .i32 (b : Int)] W fun e w' => ∃ v, e = .returned v ∧ ActsW (FromP W.heap.size) w' v [(2, b, [], 0)] ∧ (∃ a, v = .slice (some a) 1 1) ∧ Below W.heap.size W w') := fun W => rone_any 2 b W
  have HO5 : Hid (∀ W, Calls Tryz.prog 64 #[.int .i64 5, .int .i32 0] W fun e w' => ∃ v, e = .returned v ∧ ActsW (FromP W.heap.size) w' v [badA] ∧ (∃ a, v = .slice (some a) 1 1) ∧ Below W.heap.size W w') := fun W => rone_any 5 0 W
  have e4 : (oneS b).size = 1 := rfl
  by_cases h27 : b = 27
  · subst h27
    replace hR : Hid (R = (.esc, [badA])) := by
      show _ = _
      rw [← hR.out]
      unfold wrongN withinN
      rw [if_pos (by omega), if_pos rfl]
    clear HO2 hst HP
    rw [show ((27 : Nat) : Int) = 27 from rfl] at cv HB1 HS1 ⊢
    go_enter Tryz.func31, Tryz.ntmps31
    go_wp2_with fail
    go_fit (HO5.out _)
    rintro e w1 ⟨v, rfl, hA, _, hb2⟩
    go_wp2_with fail
    rw [hR.out]
    go_ret2
    exact ⟨⟨#[27]⟩, v, rfl, rfl, by show 1 ≤ _; omega, acts_from hA HS1.out, HB1.out.trans (hb2.mono HS1.out)⟩
  · have e27 : ((b : Int) == 27) = false := beq_false_of_ne (by omega)
    by_cases h24 : b = 24
    · subst h24
      replace hR : Hid (R = (.zero, [badA])) := by
        show _ = _
        rw [← hR.out]
        unfold wrongN withinN
        rw [if_pos (by omega), if_neg h27, if_pos (.inl rfl)]
      clear HO2 hst HP e27
      rw [show ((24 : Nat) : Int) = 24 from rfl] at cv HB1 HS1 ⊢
      go_enter Tryz.func31, Tryz.ntmps31
      go_wp2_with fail
      go_fit (HO5.out _)
      rintro e w1 ⟨v, rfl, hA, _, hb2⟩
      go_wp2_with fail
      rw [hR.out]
      go_ret2
      exact ⟨⟨#[]⟩, v, rfl, rfl, Nat.zero_le _, acts_from hA HS1.out, HB1.out.trans (hb2.mono HS1.out)⟩
    · have e24 : ((b : Int) == 24) = false := beq_false_of_ne (by omega)
      by_cases h26 : b = 26
      · subst h26
        replace hR : Hid (R = (.zero, [badA])) := by
          show _ = _
          rw [← hR.out]
          unfold wrongN withinN
          rw [if_pos (by omega), if_neg h27, if_pos (.inr rfl)]
        clear HO2 hst HP e27 e24
        rw [show ((26 : Nat) : Int) = 26 from rfl] at cv HB1 HS1 ⊢
        go_enter Tryz.func31, Tryz.ntmps31
        go_wp2_with fail
        go_fit (HO5.out _)
        rintro e w1 ⟨v, rfl, hA, _, hb2⟩
        go_wp2_with fail
        rw [hR.out]
        go_ret2
        exact ⟨⟨#[]⟩, v, rfl, rfl, Nat.zero_le _, acts_from hA HS1.out, HB1.out.trans (hb2.mono HS1.out)⟩
      · have e26 : ((b : Int) == 26) = false := beq_false_of_ne (by omega)
        by_cases h32 : b < 32
        · have i32 : (b : Int) < 32 := by omega
          replace hR : Hid (R = (.bad, [(2, b, [], 0)])) := by
            show _ = _
            rw [← hR.out]
            unfold wrongN withinN
            rw [if_pos h32, if_neg h27, if_neg (by omega)]
          clear HO5 hst HP
          go_enter Tryz.func31, Tryz.ntmps31
          go_wp2_with fail
          go_fit (HO2.out _)
          rintro e w1 ⟨v, rfl, hA, _, hb2⟩
          go_wp2_with fail
          rw [hR.out]
          go_ret2
          exact ⟨T, v, rfl, HREL.out, by omega, acts_from hA HS1.out, HB1.out.trans (hb2.mono HS1.out)⟩
        · have i32 : (32 : Int) ≤ (b : Int) := by omega
          by_cases h64 : b < 64
          · have i64 : (b : Int) < 64 := by omega
            replace hR : Hid (R = (.bad, [])) := by
              show _ = _
              rw [← hR.out]
              unfold wrongN
              rw [if_neg h32, if_pos h64]
            clear HO2 HO5 HP
            go_enter Tryz.func31, Tryz.ntmps31
            go_wp2_with fail
            rw [hR.out]
            go_ret2
            exact ⟨_, _, rfl, hst.out, by rw [app_size]; exact Nat.le_refl _, ActsW.nil _ _, HB1.out⟩
          · have i64 : (64 : Int) ≤ (b : Int) := by omega
            clear hst HO2
            by_cases h127 : b < 127
            · have i127 : (b : Int) ≤ 126 := by omega
              replace hR : Hid (R = (.zero, [badA])) := by
                show _ = _
                rw [← hR.out]
                unfold wrongN
                rw [if_neg h32, if_neg h64]
              go_enter Tryz.func31, Tryz.ntmps31
              go_wp2_with fail
              go_fit (HP.out _)
              rintro e w2 ⟨v, rfl, hN, hb2⟩
              have hbw2 := HB1.out.trans (hb2.mono HS1.out)
              have hs2 := Nat.le_trans HS1.out hb2.size
              obtain ⟨va, vn, vc, rfl⟩ : ∃ va vn vc, v = .slice va vn vc := by
                obtain ⟨va, vc, hv, _⟩ := hN.1
                exact ⟨va, _, vc, hv⟩
              go_wp2_with fail
              go_fit (HO5.out _)
              rintro e w1 ⟨v, rfl, hA, _, hb3⟩
              go_wp2_with fail
              rw [hR.out]
              go_ret2
              exact ⟨⟨#[]⟩, v, rfl, rfl, Nat.zero_le _, acts_from hA hs2, hbw2.trans (hb3.mono hs2)⟩
            · have i127 : (126 : Int) < (b : Int) := by omega
              replace hR : Hid (R = (.zero, [badA])) := by
                show _ = _
                rw [← hR.out]
                unfold wrongN
                rw [if_neg h32, if_neg h64]
              go_enter Tryz.func31, Tryz.ntmps31
              go_wp2_with fail
              go_fit (HP.out _)
              rintro e w2 ⟨v, rfl, hN, hb2⟩
              have hbw2 := HB1.out.trans (hb2.mono HS1.out)
              have hs2 := Nat.le_trans HS1.out hb2.size
              obtain ⟨va, vn, vc, rfl⟩ : ∃ va vn vc, v = .slice va vn vc := by
                obtain ⟨va, vc, hv, _⟩ := hN.1
                exact ⟨va, _, vc, hv⟩
              go_wp2_with fail
              go_fit (HO5.out _)
              rintro e w1 ⟨v, rfl, hA, _, hb3⟩
              go_wp2_with fail
              rw [hR.out]
              go_ret2
              exact ⟨⟨#[]⟩, v, rfl, rfl, Nat.zero_le _, acts_from hA hs2, hbw2.trans (hb3.mono hs2)⟩
end Go.Proofs.YtpkjaallhhjleaaGreatDoor

/-
  limnerref07.Feed behind a beginning of a rune: what it returns: for every byte. And for every state that may be.
-/
namespace Go.Proofs.YtpkjaallhhjleaaGreatDoor
open Go.RowKit

theorem whole_ok (s : ByteArray) (b : Nat) (h : Beg s) : wholeB (s ++ oneS b) = okAt (s ++ oneS b) 0 := by
  unfold wholeB
  cases ho : okAt (s ++ oneS b) 0 with
  | false => rfl
  | true => rw [beg_whole s b h ho]; simp

set_option maxRecDepth 20000 in
set_option maxHeartbeats 8000000 in
theorem rfeed_start (T : ByteArray) (b : Nat) (w : World) (hb : b < 256) (hT : Beg T) :
    Calls Tryz.prog 31 #[.string T, .int .u8 (b : Int)] w (RefW w (startN T b) (T.size + 1)) := by
  obtain ⟨R, hR⟩ : ∃ R, startN T b = R := ⟨_, rfl⟩
  rw [hR]
  have h3 : T.size ≤ 3 := by rcases hT with h | h | h <;> omega
  have h0 : 0 < T.size := (beg_first T hT).1
  have hbt : 194 ≤ bt T 0 := (beg_first T hT).2.1
  have e0 : (T[0].toNat : Int) = (bt T 0 : Int) := by unfold bt; rw [show T.get! 0 = T[0] from get_at T 0 h0]
  obtain ⟨q, hq⟩ : ∃ q, bt T 0 = q := ⟨_, rfl⟩
  rw [hq] at hbt e0
  have q27 : ((q : Int) == 27) = false := beq_false_of_ne (by omega)
  have q27b : ((q : Int) != 27) = true := by rw [bne_iff_ne]; omega
  obtain ⟨n1, n2⟩ := nonempty_facts T h0
  have cv := convP_new [(b : Int)] w
  rw [str_one] at cv
  simp only [List.map_cons, List.map_nil, List.length_cons, List.length_nil] at cv
  have hb1 : Below w.heap.size w (w.alloc (.cells #[.int .u8 (b : Int)] 5)) := (Below.refl _ _).alloc (Nat.le_refl _) _
  have HB1 := Lib.hid hb1
  have HS1 : Hid (w.heap.size ≤ (w.alloc (.cells #[.int .u8 (b : Int)] 5)).heap.size) := hb1.size
  have e4 : (oneS b).size = 1 := rfl
  have hsz : (T ++ oneS b).size = T.size + 1 := app_size _ _
  have HWH := Lib.hid (fun W => whole_any (T ++ oneS b) W (by omega) (by unfold maxLen; omega))
  rw [whole_ok T b hT] at HWH
  have HNX := Lib.hid (fun W => refNext_in (T ++ oneS b) 0 W (by omega) (by unfold maxLen; omega))
  have HBE := Lib.hid (fun W => begins_any (T ++ oneS b) W (by omega) (by omega))
  have HGR := Lib.hid (fun W => ground_any b W hb)
  have HO5 : Hid (∀ W, Calls Tryz.prog 64 #[.int .i64 5, .int .i32 0] W fun e w' => ∃ v, e = .returned v ∧ ActsW (FromP W.heap.size) w' v [badA] ∧ (∃ a, v = .slice (some a) 1 1) ∧ Below W.heap.size W w') := fun W => rone_any 5 0 W
  have hR2 : Hid (R = if okAt (T ++ oneS b) 0 = true then (.zero, [(1, (Utf8.decode (T ++ oneS b) 0).1, [], 0)]) else if begB (T ++ oneS b) = true then (.start (T ++ oneS b), []) else ((firstN b).1, badA :: (firstN b).2)) := by
    show _ = _
    rw [← hR]
    rfl
  obtain ⟨S, hS⟩ : ∃ S, T ++ oneS b = S := ⟨_, rfl⟩
  rw [hS] at HWH HNX HBE hR2 hsz
  obtain ⟨K, hK⟩ : ∃ K, (Utf8.decode S 0).1 = K := ⟨_, rfl⟩
  obtain ⟨K2, hK2⟩ : ∃ K2, (Utf8.decode S 0).2 = K2 := ⟨_, rfl⟩
  rw [hK] at HNX hR2
  rw [hK2] at HNX
  have HO1 : Hid (∀ W, Calls Tryz.prog 64 #[.int .i64 1, .int .i32 (K : Int)] W fun e w' => ∃ v, e = .returned v ∧ ActsW (FromP W.heap.size) w' v [(1, K, [], 0)] ∧ (∃ a, v = .slice (some a) 1 1) ∧ Below W.heap.size W w') := fun W => rone_any 1 K W
  have HSS := Lib.hid hS
  clear hR hb1 hq hT hK hK2 hS
  by_cases hok : okAt S 0 = true
  · have hR : Hid (R = (.zero, [(1, K, [], 0)])) := by
      show _ = _
      rw [hR2.out, if_pos hok]
    rw [hok] at HWH HNX
    clear hR2 HBE HGR HO5
    go_enter Tryz.func31, Tryz.ntmps31
    go_wp2_with fail
    rw [HSS.out]
    go_fit (HWH.out _)
    rintro e w2 ⟨rfl, hb2⟩
    go_wp2_with fail
    go_fit (HNX.out _)
    rintro e w3 ⟨rfl, hb3⟩
    go_wp2_with fail
    go_fit (HO1.out _)
    rintro e w4 ⟨v, rfl, hA, _, hb4⟩
    go_wp2_with fail
    rw [hR.out]
    go_ret2
    have s2 := Nat.le_trans HS1.out hb2.size
    have s3 := Nat.le_trans s2 hb3.size
    exact ⟨⟨#[]⟩, v, rfl, rfl, Nat.zero_le _, acts_from hA s3, ((HB1.out.trans (hb2.mono HS1.out)).trans (hb3.mono s2)).trans (hb4.mono s3)⟩
  · have hR3 : Hid (R = if begB S = true then (.start S, []) else ((firstN b).1, badA :: (firstN b).2)) := by
      show _ = _
      rw [hR2.out, if_neg hok]
    replace hok : okAt S 0 = false := by cases h : okAt S 0 <;> simp_all
    rw [hok] at HWH
    clear hR2 HO1 HNX
    by_cases hbg : begB S = true
    · have hR : Hid (R = (.start S, [])) := by
        show _ = _
        rw [hR3.out, if_pos hbg]
      rw [hbg] at HBE
      clear hR3 HGR HO5
      go_enter Tryz.func31, Tryz.ntmps31
      go_wp2_with fail
      rw [HSS.out]
      go_fit (HWH.out _)
      rintro e w2 ⟨rfl, hb2⟩
      go_wp2_with fail
      go_fit (HBE.out _)
      rintro e w3 ⟨rfl, hb3⟩
      go_wp2_with fail
      rw [hR.out]
      go_ret2
      have s2 := Nat.le_trans HS1.out hb2.size
      exact ⟨S, _, rfl, rfl, by omega, ActsW.nil _ _, (HB1.out.trans (hb2.mono HS1.out)).trans (hb3.mono s2)⟩
    · have hR : Hid (R = ((firstN b).1, badA :: (firstN b).2)) := by
        show _ = _
        rw [hR3.out, if_neg hbg]
      replace hbg : begB S = false := by cases h : begB S <;> simp_all
      rw [hbg] at HBE
      have HLL : Hid ([badA].length + (firstN b).2.length ≤ 1000000) := by
        have h2 := feed_two .zero b
        show 1 + (firstN b).2.length ≤ 1000000
        rw [show feedN .zero b = firstN b from rfl] at h2
        omega
      clear hR3
      go_enter Tryz.func31, Tryz.ntmps31
      go_wp2_with fail
      rw [HSS.out]
      go_fit (HWH.out _)
      rintro e w2 ⟨rfl, hb2⟩
      go_wp2_with fail
      go_fit (HBE.out _)
      rintro e w3 ⟨rfl, hb3⟩
      go_wp2_with fail
      go_fit (HGR.out _)
      rintro e w4 ⟨t, v, rfl, ht1, ht2, hA, hb4⟩
      have s2 := Nat.le_trans HS1.out hb2.size
      have s3 := Nat.le_trans s2 hb3.size
      have s4 := Nat.le_trans s3 hb4.size
      have hbw4 := ((HB1.out.trans (hb2.mono HS1.out)).trans (hb3.mono s2)).trans (hb4.mono s3)
      go_wp2_with fail
      go_fit (HO5.out _)
      rintro e w5 ⟨v5, rfl, hA5, ⟨ai, rfl⟩, hb5⟩
      have hbw5 := hbw4.trans (hb5.mono s4)
      have s5 := Nat.le_trans s4 hb5.size
      obtain ⟨v6, w6, hr6, hA6, hb6⟩ := run_acts (l := [badA]) (l2 := (firstN b).2) 74 74 77 Tryz.underlying74 Tryz.infoActR (acts_from hA5 s4) ((acts_from hA s3).below hb5) s5 HLL.out
      go_wp2_with (at_builtin; refine wpList_run (by rfl) _ _ 74 (by rfl) (by rfl) (by rfl) hr6 ?_)
      rw [hR.out]
      go_ret2
      exact ⟨t, v6, rfl, ht1, by omega, hA6, hbw5.trans (hb6.mono s5)⟩

theorem rfeed_any (p : Ps) (T : ByteArray) (b : Nat) (w : World) (hb : b < 256) (hk : OkP p) (hT : RelT p T) (hTs : T.size ≤ 10000) :
    Calls Tryz.prog 31 #[.string T, .int .u8 (b : Int)] w (RefW w (feedN p b) (T.size + 1)) := by
  cases p with
  | zero => obtain rfl : T = ⟨#[]⟩ := hT; exact rfeed_zero b w hb
  | start s => obtain rfl : T = s := hT; exact rfeed_start T b w hb hk
  | esc => exact rfeed_esc T b w hb hT
  | seq pre x => exact rfeed_seq pre x T b w hb hT hTs
  | bad => exact rfeed_bad T b w hb hT hTs
end Go.Proofs.YtpkjaallhhjleaaGreatDoor
