/-
  places: near, Start, End, Line, First, At: what each call returns. Condition: a text of at most a million bytes.
-/
import Derived.Test.YtdkoonnimfildaaPlSkip
namespace Go.Proofs.Ytdkoonnimfildaa
open Go.RowKit

/-- The nearest place. -/
def nearN (n : Nat) (a : Int) : Nat := min a.toNat n
theorem nearN_eq (n : Nat) (a : Int) : ((nearN n a : Nat) : Int) = min (max 0 a) (n : Int) := by unfold nearN; omega
theorem nearN_le (n : Nat) (a : Int) : nearN n a ≤ n := Nat.min_le_right _ _
theorem near_any (s : ByteArray) (a : Int) (w : World) :
    Calls Try.prog 24 #[.string s, .int .i64 a] w fun e w' => e = .returned (.int .i64 (nearN s.size a : Nat)) ∧ w' = w := by
  go_enter Try.func24, Try.ntmps24
  go_wp2
  go_ret
  exact ⟨by rw [nearN_eq]; rfl, rfl⟩

theorem lastB_take (b : List UInt8) (n : Nat) : ∀ k, k ≤ n → lastB (b.take n) k = lastB b k
  | 0, _ => rfl
  | k + 1, h => by
    have e : nlAt (b.take n) k ↔ nlAt b k := by
      unfold nlAt
      rw [List.getElem?_take_of_lt (by omega)]
    unfold lastB
    rw [lastB_take b n k (by omega)]
    by_cases hn : nlAt b k
    · rw [if_pos hn, if_pos (e.2 hn)]
    · rw [if_neg hn, if_neg fun h => hn (e.1 h)]
theorem start_any (s : ByteArray) (a : Int) (w : World) (hs : s.size ≤ 1000000) :
    Calls Try.prog 14 #[.string s, .int .i64 a] w fun e w' => e = .returned (.int .i64 (startF s.data.toList (nearN s.size a) : Nat)) ∧ w' = w := by
  have H := Lib.hid (near_any s a w)
  have hle := nearN_le s.size a
  obtain ⟨N, hN⟩ : ∃ N, nearN s.size a = N := ⟨_, rfl⟩
  rw [hN] at H hle ⊢
  have hz := ex_size s 0 N hle
  have hd : (s.extract 0 N).data.toList = s.data.toList.take N := by rw [ex_data, List.drop_zero, Nat.sub_zero]
  have H2 := lastIndex_any (s.extract 0 N) w (by omega)
  rw [hd, hz, lastB_take _ _ _ (by omega)] at H2
  have he := lastB_start s.data.toList N
  have hle2 := startF_le s.data.toList N
  obtain ⟨R, hR⟩ : ∃ R, lastB s.data.toList N = R := ⟨_, rfl⟩
  rw [show N - 0 = N from rfl, hR] at H2
  rw [hR] at he
  obtain ⟨M, hM⟩ : ∃ M, startF s.data.toList N = M := ⟨_, rfl⟩
  rw [hM] at he hle2 ⊢
  have HH2 := Lib.hid H2
  clear H2 hR hM hd hz hN
  go_enter Try.func14, Try.ntmps14
  go_wp2_with fail
  go_fit H.out
  rintro e w' ⟨rfl, rfl⟩
  go_wp2_with fail
  go_fit HH2.out
  rintro e w' ⟨rfl, rfl⟩
  go_wp2
  go_ret
  exact ⟨by rw [← he]; rfl, rfl⟩
theorem end_any (s : ByteArray) (a : Int) (w : World) (hs : s.size ≤ 1000000) :
    Calls Try.prog 16 #[.string s, .int .i64 a] w fun e w' => e = .returned (.int .i64 (endN s.data.toList (nearN s.size a) : Nat)) ∧ Below w.heap.size w w' := by
  have H := Lib.hid (near_any s a w)
  have hle := nearN_le s.size a
  obtain ⟨N, hN⟩ : ∃ N, nearN s.size a = N := ⟨_, rfl⟩
  rw [hN] at H hle ⊢
  have hz := ex_size s N s.size (Nat.le_refl _)
  have H2 := Lib.hid (cut_any (s.extract N s.size) w (by omega))
  have he := aheadS_size s N hle
  have hl := len_bytes s
  have hel := endN_le s.data.toList N (by omega)
  obtain ⟨x, hx⟩ : ∃ x, aheadS (s.extract N s.size) = x := ⟨_, rfl⟩
  rw [hx] at he H2
  obtain ⟨M, hM⟩ : ∃ M, endN s.data.toList N = M := ⟨_, rfl⟩
  rw [hM] at he hel ⊢
  have hxz : (x.size : Int) = (M : Int) - (N : Int) := by omega
  clear hx hM hz hN he
  go_enter Try.func16, Try.ntmps16
  go_wp2_with fail
  go_fit H.out
  rintro e w' ⟨rfl, rfl⟩
  go_wp2_with fail
  go_fit H2.out
  rintro e w2 ⟨⟨b, ok, rfl⟩, hb⟩
  go_wp2
  go_ret
  exact ⟨congrArg (fun x => Ending.returned (.int .i64 x)) (show (N : Int) + ((M : Int) - (N : Int)) = (M : Int) by omega), hb⟩
theorem first_any (s : ByteArray) (l : Int) (w : World) (hs : s.size ≤ 1000000) :
    Calls Try.prog 10 #[.string s, .int .i64 l] w fun e w' => e = .returned (.int .i64 (firstN s.data.toList l.toNat : Nat)) ∧ Below w.heap.size w w' := by
  have H := Lib.hid (skip_any s l w hs)
  go_enter Try.func10, Try.ntmps10
  go_wp2_with fail
  go_fit H.out
  rintro e w' ⟨⟨n, p, HD, rfl⟩, hb⟩
  go_wp2
  go_ret
  exact ⟨by rw [← HD.out.1.first HD.out.2]; rfl, hb⟩
theorem line_in (s : ByteArray) (a : Nat) (w : World) (hs : s.size ≤ 1000000) (ha : a ≤ s.size) :
    Calls Try.prog 8 #[.string s, .int .i64 (a : Int)] w fun e w' => e = .returned (.tuple #[.int .i64 (lineN s.data.toList a : Nat), .int .i64 ((a : Int) - (startF s.data.toList a : Nat)), .bool true]) ∧ Below w.heap.size w w' := by
  have H := near_any s (a : Int) w
  rw [show nearN s.size (a : Int) = a by unfold nearN; omega] at H
  have H1 := Lib.hid H
  have hz := ex_size s 0 a ha
  have hl := len_bytes s
  have hd : (s.extract 0 a).data.toList = s.data.toList.take a := by rw [ex_data, List.drop_zero, Nat.sub_zero]
  have H2 := Lib.hid (skip_any (s.extract 0 a) (a : Int) w (by omega))
  have HQ : Hid (∀ n p, DoneN (s.extract 0 a).data.toList (a : Int) n p → n = lineN s.data.toList a ∧ p = startF s.data.toList a) := by
    intro n p h
    rw [hd] at h
    have hlen : (s.data.toList.take a).length = a := by rw [List.length_take]; omega
    have h1 := AtN.last (b := s.data.toList.take a) (n := n) (p := p) (by rw [hlen]; exact h.1) (by rw [hlen]; have := h.2; rwa [hlen] at this)
    rw [hlen] at h1
    refine ⟨h1.1.trans ?_, h1.2.trans ?_⟩
    · unfold lineN; rw [List.take_take, Nat.min_self]
    · have e1 := lastB_start (s.data.toList.take a) a
      have e2 := lastB_start s.data.toList a
      rw [lastB_take _ _ _ (Nat.le_refl _)] at e1
      omega
  have hsl := startF_le s.data.toList a
  clear H hd hz
  go_enter Try.func8, Try.ntmps8
  go_wp2_with fail
  go_fit H1.out
  rintro e w' ⟨rfl, rfl⟩
  go_wp2_with fail
  go_fit H2.out
  rintro e w2 ⟨⟨n, p, HD, rfl⟩, hb⟩
  obtain ⟨e1, e2⟩ := HQ.out n p HD.out
  have hpa : (p : Int) ≤ (a : Int) := by omega
  have E1 := Lib.hid e1
  have E2 := Lib.hid e2
  clear e1 e2 HD HQ H1 H2 hsl hl
  go_wp2
  go_ret3
  exact ⟨by rw [← E1.out, ← E2.out]; rfl, hb⟩
theorem line_out (s : ByteArray) (a : Int) (w : World) (ha : a < 0 ∨ (s.size : Int) < a) :
    Calls Try.prog 8 #[.string s, .int .i64 a] w fun e w' => e = .returned (.tuple #[.int .i64 0, .int .i64 0, .bool false]) ∧ Below w.heap.size w w' := by
  have H := Lib.hid (near_any s a w)
  have hne : ¬ a = (nearN s.size a : Nat) := by rw [nearN_eq]; omega
  obtain ⟨N, hN⟩ : ∃ N : Int, ((nearN s.size a : Nat) : Int) = N := ⟨_, rfl⟩
  rw [hN] at H hne
  clear hN ha
  go_enter Try.func8, Try.ntmps8
  go_wp2_with fail
  go_fit H.out
  rintro e w' ⟨rfl, rfl⟩
  go_wp2
  go_ret3
  exact ⟨rfl, Below.refl _ _⟩
/-- A place by line and column: the nearest one of the line. -/
def atI (b : List UInt8) (l c : Int) : Nat := min (endN b (firstN b l.toNat)) (firstN b l.toNat + c.toNat)
theorem at_any (s : ByteArray) (l c : Int) (w : World) (hs : s.size ≤ 1000000) :
    Calls Try.prog 12 #[.string s, .int .i64 l, .int .i64 c] w fun e w' => e = .returned (.int .i64 (atI s.data.toList l c : Nat)) ∧ Below w.heap.size w w' := by
  have H1 := first_any s l w hs
  have hl := len_bytes s
  have hf := firstN_le s.data.toList l.toNat
  have hA : Hid ((atI s.data.toList l c : Nat) = min (endN s.data.toList (firstN s.data.toList l.toNat)) (firstN s.data.toList l.toNat + c.toNat)) := rfl
  obtain ⟨F, hF⟩ : ∃ F, firstN s.data.toList l.toNat = F := ⟨_, rfl⟩
  rw [hF] at H1 hf hA
  have he := endN_le s.data.toList F (by omega)
  have hg := endN_ge s.data.toList F
  have H2 : Hid (∀ W, Calls Try.prog 16 #[.string s, .int .i64 (F : Int)] W fun e w' => e = .returned (.int .i64 (endN s.data.toList F : Nat)) ∧ Below W.heap.size W w') := fun W => by
    have := end_any s (F : Int) W hs
    rwa [show nearN s.size (F : Int) = F by unfold nearN; omega] at this
  obtain ⟨E, hE⟩ : ∃ E, endN s.data.toList F = E := ⟨_, rfl⟩
  rw [hE] at H2 he hg hA
  have HH := Lib.hid H1
  clear H1 hF hE
  go_enter Try.func12, Try.ntmps12
  go_wp2_with fail
  go_fit HH.out
  rintro e w1 ⟨rfl, b1⟩
  go_wp2_with fail
  go_fit (H2.out _)
  rintro e w2 ⟨rfl, b2⟩
  go_wp2
  go_ret
  refine ⟨?_, b1.trans (b2.mono b1.size)⟩
  rw [hA.out]
  refine congrArg (fun x => Ending.returned (.int .i64 x)) ?_
  show _ = _
  omega
end Go.Proofs.Ytdkoonnimfildaa
