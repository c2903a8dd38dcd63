/-
  limnerref04: near, Start, End, Line, First, At: what each call returns. Condition: a text of at most a million bytes.
-/
import Derived.Test.YtdkoonnimfildaaPlaces
namespace Go.Proofs.Ytdkoonnimfildaa
open Go.RowKit

theorem refNear_any (s : ByteArray) (a : Int) (w : World) :
    Calls Try.prog 27 #[.string s, .int .i64 a] w fun e w' => e = .returned (.int .i64 (nearN s.size a : Nat)) ∧ w' = w := by
  have hN := nearN_eq s.size a
  obtain ⟨N, hN2⟩ : ∃ N : Int, ((nearN s.size a : Nat) : Int) = N := ⟨_, rfl⟩
  rw [hN2] at hN ⊢
  clear hN2
  by_cases h : a < 0
  · obtain rfl : N = 0 := by omega
    clear hN
    go_enter Try.func27, Try.ntmps27
    go_wp2
    go_ret
    exact ⟨rfl, rfl⟩
  · obtain rfl : N = min a (s.size : Int) := by omega
    clear hN
    go_enter Try.func27, Try.ntmps27
    go_wp2
    go_ret
    exact ⟨rfl, rfl⟩

/-- Is byte k a line feed: as the walk asks it. -/
theorem nl_asked (s : ByteArray) (k : Nat) (h : k < s.size) : (((s[k].toNat : Nat) : Int) == 10) = decide (nlAt s.data.toList k) := by
  have hb := nl_bt s k h
  by_cases hn : nlAt s.data.toList k
  · rw [decide_eq_true hn, hb.1 hn]; rfl
  · rw [decide_eq_false hn]
    have h1 : s[k] ≠ 10 := fun h => hn (hb.2 h)
    have h2 : s[k].toNat ≠ 10 := fun h => h1 (UInt8.toNat_inj.1 h)
    exact beq_false_of_ne (by omega)

theorem nl_asked2 (s : ByteArray) (k : Nat) (h : k < s.size) : (((s[k].toNat : Nat) : Int) != 10) = !decide (nlAt s.data.toList k) := by
  rw [← nl_asked s k h]; rfl

set_option maxHeartbeats 1000000 in
theorem refStart_any (s : ByteArray) (a : Int) (w : World) (hs : s.size ≤ 1000000) :
    Calls Try.prog 15 #[.string s, .int .i64 a] w fun e w' => e = .returned (.int .i64 (startF s.data.toList (nearN s.size a) : Nat)) ∧ w' = w := by
  have H := Lib.hid (refNear_any s a w)
  have hle := nearN_le s.size a
  obtain ⟨N, hN⟩ : ∃ N, nearN s.size a = N := ⟨_, rfl⟩
  rw [hN] at H hle ⊢
  obtain ⟨R, hR⟩ : ∃ R, startF s.data.toList N = R := ⟨_, rfl⟩
  rw [hR]
  have HR := Lib.hid hR
  clear hR hN
  go_enter Try.func15, Try.ntmps15
  go_wp2_with fail
  go_fit H.out
  rintro e w' ⟨rfl, rfl⟩
  go_wp2
  go_loopw [1] (fun s1 wr => ∃ i : Nat, s1 = .int .i64 (i : Int) ∧ wr = w' ∧ i ≤ s.size ∧ Hid (startF s.data.toList i = R)) (fun s1 _ => (intOf s1).toNat)
  case atStart => exact ⟨N, rfl, rfl, hle, HR⟩
  case round =>
    obtain ⟨i, rfl, rfl, hi, I⟩ := hrel
    by_cases h0 : 0 < i
    · obtain ⟨k, rfl⟩ : ∃ k, i = k + 1 := ⟨i - 1, by omega⟩
      have hk : k < s.size := by omega
      have hb := nl_asked2 s k hk
      by_cases hn : nlAt s.data.toList k
      · have E : Hid (R = k + 1) := by
          have := I.out
          unfold startF at this
          rw [if_pos hn] at this
          exact this.symm
        rw [decide_eq_true hn, Bool.not_true] at hb
        clear I hn
        go_wp2
        go_ret
        exact ⟨by rw [E.out]; rfl, rfl⟩
      · have E : Hid (startF s.data.toList k = R) := by
          have := I.out
          unfold startF at this
          rw [if_neg hn] at this
          exact this
        rw [decide_eq_false hn, Bool.not_false] at hb
        clear I hn
        go_wp2
        go_roundw
        case rel => exact ⟨k, rfl, trivial, by omega, E⟩
        case measure => simp [intOf]
    · obtain rfl : i = 0 := by omega
      have E : Hid (R = 0) := I.out.symm
      clear I
      go_wp2
      go_ret
      exact ⟨by rw [E.out]; rfl, rfl⟩

theorem endN_step (b : List UInt8) (a : Nat) (h : a < b.length) : endN b a = if nlAt b a then a else endN b (a + 1) := by
  unfold endN
  rw [show b.length - a = (b.length - (a + 1)) + 1 by omega, endF]
  by_cases hn : nlAt b a
  · rw [if_neg fun h => h.2 hn, if_pos hn]
  · rw [if_pos ⟨h, hn⟩, if_neg hn]
theorem endN_end (b : List UInt8) (a : Nat) (h : b.length ≤ a) : endN b a = a := by
  unfold endN
  rw [show b.length - a = 0 by omega, endF]
set_option maxHeartbeats 1000000 in
theorem refEnd_any (s : ByteArray) (a : Int) (w : World) (hs : s.size ≤ 1000000) :
    Calls Try.prog 17 #[.string s, .int .i64 a] w fun e w' => e = .returned (.int .i64 (endN s.data.toList (nearN s.size a) : Nat)) ∧ w' = w := by
  have H := Lib.hid (refNear_any s a w)
  have hl := len_bytes s
  have hle := nearN_le s.size a
  obtain ⟨N, hN⟩ : ∃ N, nearN s.size a = N := ⟨_, rfl⟩
  rw [hN] at H hle ⊢
  obtain ⟨R, hR⟩ : ∃ R, endN s.data.toList N = R := ⟨_, rfl⟩
  rw [hR]
  have HR := Lib.hid hR
  clear hR hN
  go_enter Try.func17, Try.ntmps17
  go_wp2_with fail
  go_fit H.out
  rintro e w' ⟨rfl, rfl⟩
  go_wp2
  go_loopw [1] (fun s1 wr => ∃ i : Nat, s1 = .int .i64 (i : Int) ∧ wr = w' ∧ i ≤ s.size ∧ Hid (endN s.data.toList i = R)) (fun s1 _ => s.size - (intOf s1).toNat)
  case atStart => exact ⟨N, rfl, rfl, hle, HR⟩
  case round =>
    obtain ⟨k, rfl, rfl, hi, I⟩ := hrel
    by_cases hk : k < s.size
    · have hb := nl_asked2 s k hk
      have hst := endN_step s.data.toList k (by omega)
      rw [I.out] at hst
      by_cases hn : nlAt s.data.toList k
      · rw [if_pos hn] at hst
        have E := Lib.hid hst
        rw [decide_eq_true hn, Bool.not_true] at hb
        clear I hn hst
        go_wp2
        go_ret
        exact ⟨by rw [E.out]; rfl, rfl⟩
      · rw [if_neg hn] at hst
        have E := Lib.hid hst.symm
        rw [decide_eq_false hn, Bool.not_false] at hb
        clear I hn hst
        go_wp2
        go_roundw
        case rel => exact ⟨k + 1, by go_num, trivial, by omega, E⟩
        case measure => simp [intOf]; omega
    · have E : Hid (R = k) := by
        have := I.out
        rw [endN_end _ _ (by omega)] at this
        exact this.symm
      clear I
      go_wp2
      go_ret
      exact ⟨by rw [E.out]; rfl, rfl⟩

set_option maxHeartbeats 1000000 in
theorem refLine_in (s : ByteArray) (a : Nat) (w : World) (hs : s.size ≤ 1000000) (ha : a ≤ s.size) :
    Calls Try.prog 9 #[.string s, .int .i64 (a : Int)] w fun e w' => e = .returned (.tuple #[.int .i64 (lineN s.data.toList a : Nat), .int .i64 ((a : Int) - (startF s.data.toList a : Nat)), .bool true]) ∧ w' = w := by
  have H := refStart_any s (a : Int) w hs
  rw [show nearN s.size (a : Int) = a by unfold nearN; omega] at H
  have hl := len_bytes s
  have hsl := startF_le s.data.toList a
  obtain ⟨M, hM⟩ : ∃ M, startF s.data.toList a = M := ⟨_, rfl⟩
  rw [hM] at H hsl ⊢
  have H1 := Lib.hid H
  have HL := Lib.hid (lineN_step s.data.toList)
  obtain ⟨R, hR⟩ : ∃ R, lineN s.data.toList a = R := ⟨_, rfl⟩
  rw [hR]
  have HR := Lib.hid hR
  clear H hM hR
  have h0 : Hid (lineN s.data.toList 0 = 0) := by show lineN _ 0 = 0; unfold lineN; simp
  go_enter Try.func9, Try.ntmps9
  go_wp2
  go_loopw [7, 8] (fun s7 s8 wr => ∃ i n : Nat, s8 = .int .i64 (i : Int) ∧ s7 = .int .i64 (n : Int) ∧ wr = w ∧ i ≤ a ∧ n ≤ i ∧ Hid (lineN s.data.toList i = n)) (fun _ s8 _ => a - (intOf s8).toNat)
  case atStart => exact ⟨0, 0, rfl, rfl, rfl, Nat.zero_le _, Nat.le_refl _, h0⟩
  case round =>
    obtain ⟨k, n, rfl, rfl, rfl, hi, hn0, I⟩ := hrel
    by_cases hk : k < a
    · have hks : k < s.size := by omega
      have hb := nl_asked s k hks
      have hst := HL.out k (by omega)
      rw [I.out] at hst
      by_cases hn : nlAt s.data.toList k
      · rw [if_pos hn] at hst
        have E := Lib.hid hst
        rw [decide_eq_true hn] at hb
        clear I hn hst
        go_wp2
        go_roundw
        case rel => exact ⟨k + 1, n + 1, by go_num, by go_num, trivial, by omega, by omega, E⟩
        case measure => simp [intOf]; omega
      · rw [if_neg hn] at hst
        have E := Lib.hid hst
        rw [decide_eq_false hn] at hb
        clear I hn hst
        go_wp2
        go_roundw
        case rel => exact ⟨k + 1, n, by go_num, rfl, trivial, by omega, by omega, E⟩
        case measure => simp [intOf]; omega
    · obtain rfl : k = a := by omega
      have E : Hid (R = n) := HR.out.symm.trans I.out
      clear I HL
      go_wp2_with fail
      go_fit H1.out
      rintro e w' ⟨rfl, rfl⟩
      go_wp2
      go_ret3
      exact ⟨by rw [E.out]; rfl, rfl⟩
theorem refLine_out (s : ByteArray) (a : Int) (w : World) (ha : a < 0 ∨ (s.size : Int) < a) :
    Calls Try.prog 9 #[.string s, .int .i64 a] w fun e w' => e = .returned (.tuple #[.int .i64 0, .int .i64 0, .bool false]) ∧ w' = w := by
  by_cases h0 : a < 0
  · go_enter Try.func9, Try.ntmps9
    go_wp2
    go_ret3
    exact ⟨rfl, rfl⟩
  · have h1 : (s.size : Int) < a := by omega
    go_enter Try.func9, Try.ntmps9
    go_wp2
    go_ret3
    exact ⟨rfl, rfl⟩

theorem firstF_stop (b : List UInt8) (f i p : Nat) : firstF b f i p 0 = p := by
  cases f with
  | zero => rfl
  | succ f => unfold firstF; rw [if_neg fun h => by omega]
set_option maxHeartbeats 1000000 in
theorem refFirst_any (s : ByteArray) (l : Int) (w : World) (hs : s.size ≤ 1000000) (hl1 : l ≤ 9223372036854775807) :
    Calls Try.prog 11 #[.string s, .int .i64 l] w fun e w' => e = .returned (.int .i64 (firstN s.data.toList l.toNat : Nat)) ∧ w' = w := by
  have hl := len_bytes s
  obtain ⟨R, hR⟩ : ∃ R, firstN s.data.toList l.toNat = R := ⟨_, rfl⟩
  rw [hR]
  have HR : Hid (firstF s.data.toList s.size 0 0 l.toNat = R) := by rw [← hl]; exact hR
  clear hR
  go_enter Try.func11, Try.ntmps11
  go_wp2
  go_loopw [1, 5, 6] (fun s1 s5 s6 wr => ∃ (i p f : Nat) (m : Int), s6 = .int .i64 (i : Int) ∧ s5 = .int .i64 (p : Int) ∧ s1 = .int .i64 m ∧ wr = w ∧ i + f = s.size ∧ m ≤ l ∧ (0 < m ∨ m = l ∨ m = 0) ∧ Hid (firstF s.data.toList f i p m.toNat = R)) (fun _ _ s6 _ => s.size - (intOf s6).toNat)
  case atStart => exact ⟨0, 0, s.size, l, rfl, rfl, rfl, rfl, by omega, Int.le_refl _, .inr (.inl rfl), HR⟩
  case round =>
    obtain ⟨i, p, f, m, rfl, rfl, rfl, rfl, hf, hm, hm0, I⟩ := hrel
    by_cases hi : i < s.size
    · obtain ⟨f, rfl⟩ : ∃ f', f = f' + 1 := ⟨f - 1, by omega⟩
      by_cases h0 : 0 < m
      · have hb := nl_asked s i hi
        have hst := I.out
        unfold firstF at hst
        rw [if_pos ⟨by omega, by omega⟩] at hst
        by_cases hn : nlAt s.data.toList i
        · rw [if_pos hn] at hst
          have E : Hid (firstF s.data.toList f (i + 1) (i + 1) (m - 1).toNat = R) := by rw [show (m - 1).toNat = m.toNat - 1 by omega]; exact hst
          rw [decide_eq_true hn] at hb
          clear I hn hst
          go_wp2
          go_roundw
          case rel => exact ⟨i + 1, i + 1, f, m - 1, by go_num, by go_num, rfl, trivial, by omega, by omega, by omega, E⟩
          case measure => simp [intOf]; omega
        · rw [if_neg hn] at hst
          have E := Lib.hid hst
          rw [decide_eq_false hn] at hb
          clear I hn hst
          go_wp2
          go_roundw
          case rel => exact ⟨i + 1, p, f, m, by go_num, rfl, rfl, trivial, by omega, hm, hm0, E⟩
          case measure => simp [intOf]; omega
      · have E : Hid (R = p) := by
          have := I.out
          rw [show m.toNat = 0 by omega, firstF_stop] at this
          exact this.symm
        clear I
        go_wp2
        go_ret
        exact ⟨by rw [E.out]; rfl, rfl⟩
    · obtain rfl : f = 0 := by omega
      have E : Hid (R = p) := I.out.symm
      clear I
      go_wp2
      go_ret
      exact ⟨by rw [E.out]; rfl, rfl⟩

set_option maxHeartbeats 1000000 in
theorem refAt_any (s : ByteArray) (l c : Int) (w : World) (hs : s.size ≤ 1000000) (hl1 : l ≤ 9223372036854775807) :
    Calls Try.prog 13 #[.string s, .int .i64 l, .int .i64 c] w fun e w' => e = .returned (.int .i64 (atI s.data.toList l c : Nat)) ∧ w' = w := by
  have H1 := refFirst_any s l w hs hl1
  have hl := len_bytes s
  have hf := firstN_le s.data.toList l.toNat
  obtain ⟨R, hR⟩ : ∃ R, atI s.data.toList l c = R := ⟨_, rfl⟩
  have hA : Hid (R = min (endN s.data.toList (firstN s.data.toList l.toNat)) (firstN s.data.toList l.toNat + c.toNat)) := by rw [← hR]; rfl
  rw [hR]
  obtain ⟨F, hF⟩ : ∃ F, firstN s.data.toList l.toNat = F := ⟨_, rfl⟩
  rw [hF] at H1 hf hA
  have hg := endN_ge s.data.toList F
  have HH := Lib.hid H1
  clear H1 hF hR
  go_enter Try.func13, Try.ntmps13
  go_wp2_with fail
  go_fit HH.out
  rintro e w' ⟨rfl, rfl⟩
  go_wp2
  go_loopw [8] (fun s8 wr => ∃ i : Nat, s8 = .int .i64 (i : Int) ∧ wr = w' ∧ F ≤ i ∧ i ≤ s.size ∧ i ≤ F + c.toNat ∧ Hid (endN s.data.toList i = endN s.data.toList F)) (fun s8 _ => s.size - (intOf s8).toNat)
  case atStart => exact ⟨F, rfl, rfl, Nat.le_refl _, by omega, by omega, rfl⟩
  case round =>
    obtain ⟨i, rfl, rfl, hFi, hi, hc, I⟩ := hrel
    have hge := endN_ge s.data.toList i
    by_cases hk : i < s.size
    · have hb := nl_asked2 s i hk
      have hst := endN_step s.data.toList i (by omega)
      rw [I.out] at hst hge
      by_cases hn : nlAt s.data.toList i
      · rw [if_pos hn] at hst
        have E : Hid (R = i) := by show R = i; rw [hA.out]; omega
        rw [decide_eq_true hn, Bool.not_true] at hb
        clear I hn hst hge hg
        go_wp2
        go_ret
        exact ⟨by rw [E.out]; rfl, rfl⟩
      · rw [if_neg hn] at hst
        rw [decide_eq_false hn, Bool.not_false] at hb
        by_cases hcc : (i : Int) - (F : Int) < c
        · have E := Lib.hid hst.symm
          clear I hn hst hge hg
          go_wp2
          go_roundw
          case rel => exact ⟨i + 1, by go_num, trivial, by omega, by omega, by omega, E⟩
          case measure => simp [intOf]; omega
        · have E : Hid (R = i) := by show R = i; rw [hA.out]; omega
          clear I hn hst hge hg
          go_wp2
          go_ret
          exact ⟨by rw [E.out]; rfl, rfl⟩
    · have E : Hid (R = i) := by
        have := I.out
        rw [endN_end _ _ (by omega)] at this
        show R = i
        rw [hA.out]; omega
      clear I hge hg
      go_wp2
      go_ret
      exact ⟨by rw [E.out]; rfl, rfl⟩
end Go.Proofs.Ytdkoonnimfildaa
