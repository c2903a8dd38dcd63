/-
  pieces: Slice, String: what each call returns.
-/
import Derived.Test.YtpkfmhggaiifgaaPcNone
import Derived.Test.YtpkfmhggaiifgaaShelf
namespace Go.Proofs.Ytpkfmhggaiifgaa
open Go.RowKit

theorem cut_step (p y : List UInt8) (a c : Nat) : ((p ++ y).take c).drop a = (p.take c).drop a ++ (y.take (c - p.length)).drop (a - p.length) := by
  rw [List.take_append, List.drop_append, List.length_take]
  by_cases h0 : p.length ≤ c
  · rw [Nat.min_eq_right h0]
  · rw [Nat.min_eq_left (by omega), show c - p.length = 0 by omega, List.take_zero, List.drop_nil, List.drop_nil]
theorem cut_near (y : List UInt8) (p q : Nat) (h : p ≤ q) : (y.drop (min y.length p)).take (min y.length q - min y.length p) = (y.take q).drop p := by
  rw [List.drop_take]
  by_cases h0 : p ≤ y.length
  · rw [Nat.min_eq_right h0]
    by_cases h1 : q ≤ y.length
    · rw [Nat.min_eq_right h1]
    · rw [Nat.min_eq_left (by omega), List.take_of_length_le (by rw [List.length_drop]; omega), List.take_of_length_le (by rw [List.length_drop]; omega)]
  · rw [Nat.min_eq_left (show y.length ≤ q by omega), Nat.min_eq_left (show y.length ≤ p by omega), List.drop_of_length_le (Nat.le_refl _), List.drop_of_length_le (show y.length ≤ p by omega), List.take_nil, List.take_nil]
theorem near_at (z a k : Nat) : nearI (z : Int) ((a : Int) - (k : Int)) = ((min z (a - k) : Nat) : Int) := by
  unfold nearI
  split
  · omega
  · split <;> omega

theorem sl_eq (s : ByteArray) (a c : Nat) : (⟨(List.drop a (List.take c s.data.toList)).toArray⟩ : ByteArray) = s.extract a c := by
  apply ba_ext
  rw [ex_data, ← List.drop_take]

def sliceS (s : ByteArray) (a c : Int) : ByteArray := if inB a c s.size then s.extract a.toNat c.toNat else ⟨#[]⟩

theorem slice_none {v : Value} (a c : Int) (w : World) (h : NoneW w v) :
    Calls Try.prog 32 #[v, .int .i64 a, .int .i64 c] w fun e w' => e = .returned (.string ⟨#[]⟩) ∧ w' = w := by
  have H := none_none w h
  go_enter Try.func32, Try.ntmps32
  go_wp2_with fail
  refine H.mono ?_
  rintro e w' ⟨rfl, rfl⟩
  go_wp2
  go_ret
  exact ⟨rfl, rfl⟩
theorem slice_arg {v : Value} {s : ByteArray} {xs : List ByteArray} (a c : Int) (w : World) (h : TextX w v s xs) (hi : inB a c s.size = false) :
    Calls Try.prog 32 #[v, .int .i64 a, .int .i64 c] w fun e w' => e = .returned (.string ⟨#[]⟩) ∧ Below w.heap.size w w' := by
  have H := none_text w h.text
  have H2 := holds_any a c w h.text
  rw [hi] at H2
  clear hi h
  go_enter Try.func32, Try.ntmps32
  go_wp2_with fail
  refine H.mono ?_
  rintro e w' ⟨rfl, rfl⟩
  go_wp2_with fail
  refine H2.mono ?_
  rintro e w' ⟨rfl, rfl⟩
  go_wp2
  go_ret
  exact ⟨rfl, Below.refl _ _⟩

set_option maxHeartbeats 4000000 in
theorem slice_ok {v : Value} {s : ByteArray} {xs : List ByteArray} (a c : Nat) (w : World) (h : TextX w v s xs) (hac : a ≤ c) (hi : c ≤ s.size) (hs : s.size ≤ 1000000) :
    Calls Try.prog 32 #[v, .int .i64 (a : Int), .int .i64 (c : Int)] w fun e w' => e = .returned (.string (s.extract a c)) ∧ Below w.heap.size w w' := by
  have H := none_text w h.text
  have H2 := holds_any (a : Int) (c : Int) w h.text
  rw [show inB (a : Int) (c : Int) (s.size : Int) = true by unfold inB; exact decide_eq_true (by omega)] at H2
  have hle := h.text.le
  have hkeep : Hid (∀ W, Below w.heap.size w W → TextX W v s xs) := fun W hW => h.below hW
  obtain ⟨b, sl, rfl, c0, c1, c2, hS, hf, hc, _⟩ := h
  have HSW : Hid (∀ W, Below w.heap.size w W → StrsW W sl xs) := fun W hW => hS.below hW
  obtain ⟨ao, cap, rfl, hcap, _⟩ := hS
  have hlen : (cat xs).length = s.size := by rw [hc, len_bytes]
  have HC := Lib.hid hc
  have HT := Lib.hid (cat_take_le xs)
  rw [hlen] at HT
  have hbA : Below w.heap.size w (w.alloc (.cells #[.pointer none, .slice none 0 0] 80)) := (Below.refl _ _).alloc (Nat.le_refl _) _
  have H4 := Lib.hid (Try.Builder_Grow_fresh w.heap.size w.heap.size (c - a) _ (Nat.le_refl _) (heap_alloc_new w (.cells #[.pointer none, .slice none 0 0] 80)) (by simp) (by omega))
  rw [Int.ofNat_sub hac] at H4
  have a1 : (a : Int) ≤ (c : Int) := by omega
  have a2 : (c : Int) ≤ 1000000 := by omega
  have hxl : xs.length ≤ 1000000 := by omega
  clear hc hkeep hlen hle c0 c1
  go_enter Try.func32, Try.ntmps32
  go_wp2_with fail
  refine H.mono ?_
  rintro e w' ⟨rfl, rfl⟩
  go_wp2_with fail
  refine H2.mono ?_
  rintro e w' ⟨rfl, rfl⟩
  go_wp2_with fail
  refine H4.out.mono ?_
  rintro e w1 ⟨rfl, hB1, hb1⟩
  have hbw1 := hbA.trans hb1
  have hI1 : Lib.IsBuilderF 80 5 w'.heap.size w'.heap.size (Lib.byteCells []) w1 := Lib.IsBuilderF.of (.inr hB1)
  have c2' : w1.cell? ⟨b, 2, none⟩ = some (.slice ao xs.length cap) := by rw [hbw1.cell (p := ⟨b, 2, none⟩) (cell_lt (p := ⟨b, 2, none⟩) c2)]; exact c2
  clear H H2 H4 hb1 hbA hB1
  go_wp2
  go_loopw [8, 29] (fun s8 s29 wr => ∃ i k : Nat, s8 = .int .i64 (k : Int) ∧ s29 = .int .i64 (i : Int) ∧ i ≤ xs.length ∧ k ≤ 1000000 ∧ Hid ((cat (xs.take i)).length = k) ∧ Below w'.heap.size w' wr ∧ Lib.IsBuilderF 80 5 w'.heap.size w'.heap.size (Lib.byteCells (((cat (xs.take i)).take c).drop a)) wr) (fun _ s29 _ => xs.length - (intOf s29).toNat)
  case atStart => exact ⟨0, 0, rfl, rfl, Nat.zero_le _, Nat.zero_le _, rfl, hbw1, by simpa [cat_nil] using hI1⟩
  case round =>
    obtain ⟨i, k, rfl, rfl, hil, hk, HK, hbw, hI⟩ := hrel
    by_cases hlt : i < xs.length
    · obtain ⟨x, hx⟩ : ∃ x, xs[i]? = some x := ⟨_, List.getElem?_eq_getElem hlt⟩
      obtain ⟨ao', cap', he, _, hcell⟩ := HSW.out wr hbw
      obtain ⟨g, o, hao, hcx⟩ := hcell i x hx
      cases he
      subst hao
      have hst := cat_step xs i x hx
      have hk2 : k + x.size ≤ 1000000 := by
        have h1 := HT.out (i + 1)
        rw [hst, List.length_append, len_bytes, HK.out] at h1
        omega
      obtain ⟨lo, hlo⟩ : ∃ lo, min x.size (a - k) = lo := ⟨_, rfl⟩
      obtain ⟨hh, hhh⟩ : ∃ hh, min x.size (c - k) = hh := ⟨_, rfl⟩
      have N1 := fun w => within_any x ((a : Int) - (k : Int)) w
      have N2 := fun w => within_any x ((c : Int) - (k : Int)) w
      rw [near_at, hlo] at N1
      rw [near_at, hhh] at N2
      obtain ⟨T, hT⟩ : ∃ T, x.extract lo hh = T := ⟨_, rfl⟩
      have e1 : (lo : Int) ≤ (hh : Int) := by omega
      have e2 : (hh : Int) ≤ (x.size : Int) := by omega
      have E2 : Hid (((cat (xs.take (i + 1))).take c).drop a = ((cat (xs.take i)).take c).drop a ++ T.data.toList) := by
        show _ = _
        rw [hst, cut_step _ _ _ _, HK.out, ← hT, ex_data, ← hlo, ← hhh, ← len_bytes, cut_near _ _ _ (by omega)]
      have K2 : Hid ((cat (xs.take (i + 1))).length = k + x.size) := by
        show _ = _
        rw [hst, List.length_append, len_bytes, HK.out]
      have HN1 := Lib.hid N1
      have HN2 := Lib.hid N2
      obtain ⟨L, hL⟩ : ∃ L, ((cat (xs.take i)).take c).drop a = L := ⟨_, rfl⟩
      rw [hL] at hI E2
      have hLl : L.length ≤ 1000000 := by
        rw [← hL, List.length_drop, List.length_take]; omega
      have hTl : T.size ≤ 1000000 := by
        have := ex_size x lo hh (by omega)
        rw [hT] at this; omega
      have H5 := Lib.hid (fun w hI hB => Try.Builder_WriteString_f w'.heap.size w'.heap.size (Lib.byteCells L) T w hI (by rw [Lib.byteCells_length]; omega) hB)
      have HX := Lib.hid hx
      clear N1 N2 hx hcell hst hL hLl hTl HK hlo hhh
      go_wp2_with fail
      refine (HN1.out _).mono ?_
      rintro e w2 ⟨rfl, rfl⟩
      go_wp2_with fail
      refine (HN2.out _).mono ?_
      rintro e w3 ⟨rfl, rfl⟩
      go_wp2_with fail
      refine (H5.out _ hI hbw.size).mono ?_
      rintro e w4 ⟨rfl, hB4, hb4⟩
      have hbw4 := hbw.trans hb4
      have hI4 : Lib.IsBuilderF 80 5 w'.heap.size w'.heap.size (Lib.byteCells (((cat (xs.take (i + 1))).take c).drop a)) w4 := by
        rw [E2.out, Lib.byteCells_append]; exact .inr hB4
      clear hI hB4 hb4 hbw E2
      go_wp2
      go_roundw
      case rel => exact ⟨i + 1, k + x.size, by go_num, by go_num, by omega, by omega, K2, hbw4, hI4⟩
      case measure => simp [intOf]; omega
    · obtain rfl : i = xs.length := by omega
      rw [List.take_length, HC.out] at hI
      have H6 := Lib.hid (Try.Builder_String_any_f w'.heap.size w'.heap.size _ wr hI hbw.size)
      clear hI HK
      go_wp2_with fail
      refine H6.out.mono ?_
      rintro e w4 ⟨rfl, _, hb4⟩
      go_wp2
      go_ret
      refine ⟨?_, hbw.trans hb4⟩
      rw [← sl_eq s a c]; rfl

theorem slice_text {v : Value} {s : ByteArray} {n : Nat} (a c : Int) (w : World) (h : TextW w v s n) (hs : s.size ≤ 1000000) :
    Calls Try.prog 32 #[v, .int .i64 a, .int .i64 c] w fun e w' => e = .returned (.string (sliceS s a c)) ∧ Below w.heap.size w w' := by
  obtain ⟨xs, hx, _⟩ := h.x
  unfold sliceS
  cases hb : inB a c s.size
  · exact slice_arg a c w hx hb
  · have hb' : 0 ≤ a ∧ a ≤ c ∧ c ≤ (s.size : Int) := of_decide_eq_true hb
    obtain ⟨a', rfl⟩ : ∃ a' : Nat, a = (a' : Int) := ⟨a.toNat, by omega⟩
    obtain ⟨c', rfl⟩ : ∃ c' : Nat, c = (c' : Int) := ⟨c.toNat, by omega⟩
    exact slice_ok a' c' w hx (by omega) (by omega) hs

theorem string_text {v : Value} {s : ByteArray} {n : Nat} (w : World) (h : TextW w v s n) (hs : s.size ≤ 1000000) :
    Calls Try.prog 26 #[v] w fun e w' => e = .returned (.string s) ∧ Below w.heap.size w w' := by
  have H := len_text w h
  have H2 := slice_text 0 (s.size : Int) w h hs
  have e : sliceS s 0 (s.size : Int) = s := by
    unfold sliceS inB
    rw [decide_eq_true (by omega), if_pos rfl]
    apply ba_ext
    rw [ex_data]
    show (s.data.toList.drop 0).take (s.size - 0) = _
    rw [List.drop_zero, Nat.sub_zero, List.take_of_length_le (by rw [len_bytes]; exact Nat.le_refl _)]
  rw [e] at H2
  have HH2 := Lib.hid H2
  clear H2 e h
  go_enter Try.func26, Try.ntmps26
  go_wp2_with fail
  refine H.mono ?_
  rintro e w' ⟨rfl, rfl⟩
  go_wp2_with fail
  refine HH2.out.mono ?_
  rintro e w2 ⟨rfl, hb⟩
  go_wp2
  go_ret
  exact ⟨rfl, hb⟩
theorem string_none {v : Value} (w : World) (h : NoneW w v) :
    Calls Try.prog 26 #[v] w fun e w' => e = .returned (.string ⟨#[]⟩) ∧ w' = w := by
  have H := len_none w h
  have H2 := slice_none 0 0 w h
  go_enter Try.func26, Try.ntmps26
  go_wp2_with fail
  refine H.mono ?_
  rintro e w' ⟨rfl, rfl⟩
  go_wp2_with fail
  refine H2.mono ?_
  rintro e w' ⟨rfl, rfl⟩
  go_wp2
  go_ret
  exact ⟨rfl, rfl⟩
end Go.Proofs.Ytpkfmhggaiifgaa
