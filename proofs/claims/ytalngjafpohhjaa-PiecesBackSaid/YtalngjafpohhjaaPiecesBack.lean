/-
  For every two texts of at most 2000 bytes and every two places: what was put in and is deleted again leaves the text, and what was deleted and is put in again, too; so the law returns true. Longer texts: the examples alone, as the law says. No condition.
-/
import Derived.Test.YtalngjafpohhjaaPcPut
import Derived.Test.YtalngjafpohhjaaPcOpen
namespace Go.Proofs.Ytalngjafpohhjaa
open Go.ChangeShapes Go.WideShapes Go.ChangeAt Go.RowKit
open Go.ChangeMaps (open_string shut_string)

theorem putS_back (s m : ByteArray) (a : Nat) (h : a ≤ s.size) : putS (putS s a a m) a (a + m.size) ⟨#[]⟩ = s := by
  apply ba_ext
  have h1 : (s.data.toList.take a).length = a := by rw [List.length_take, len_bytes]; omega
  have h2 := len_bytes m
  rw [putS_data, putS_data]
  show _ ++ [] ++ _ = _
  rw [List.append_nil, List.append_assoc, List.take_append_of_le_length (by omega), List.take_of_length_le (by omega), ← List.append_assoc, List.drop_append_of_le_length (by rw [List.length_append]; omega),
    List.drop_of_length_le (by rw [List.length_append]; omega), List.nil_append, List.take_append_drop]
theorem putS_again (s : ByteArray) (a c : Nat) (h : a ≤ c) (hc : c ≤ s.size) : putS (putS s a c ⟨#[]⟩) a a (s.extract a c) = s := by
  apply ba_ext
  have h1 : (s.data.toList.take a).length = a := by rw [List.length_take, len_bytes]; omega
  have e : (putS s a c ⟨#[]⟩).data.toList = s.data.toList.take a ++ s.data.toList.drop c := by
    rw [putS_data]
    show _ ++ [] ++ _ = _
    rw [List.append_nil]
  rw [putS_data, e, List.take_append_of_le_length (by omega), List.take_of_length_le (by omega), List.drop_append_of_le_length (by omega), List.drop_of_length_le (by omega), List.nil_append, ex_data]
  have e2 : s.data.toList.drop c = (s.data.toList.drop a).drop (c - a) := by rw [List.drop_drop]; congr 1; omega
  rw [e2, List.append_assoc, List.take_append_drop, List.take_append_drop]
theorem slice_put (s m : ByteArray) (a : Nat) (h : a ≤ s.size) : sliceS (putS s a a m) (a : Int) ((a : Int) + (m.size : Int)) = m := by
  have hz := putS_size s a a m (Nat.le_refl _) h
  have h1 : (s.data.toList.take a).length = a := by rw [List.length_take, len_bytes]; omega
  have h2 := len_bytes m
  unfold sliceS inB
  rw [decide_eq_true (by omega), if_pos rfl]
  apply ba_ext
  rw [ex_data, putS_data, List.append_assoc, List.drop_append_of_le_length (by omega), List.drop_of_length_le (by omega), List.nil_append, List.take_append_of_le_length (by omega), List.take_of_length_le (by omega)]

set_option maxRecDepth 100000 in
set_option maxHeartbeats 1000000 in
theorem piecesBack_far (s m : ByteArray) (z0 z1 : Int) (w : World) (h : 2000 < s.size ∨ 2000 < m.size) :
    Calls Try.prog 5 #[.string s, .string m, .agg #[.int .u16 z0, .int .u16 z1]] w fun e w' => e = .returned (.bool true) ∧ Below w.heap.size w w' := by
  have hb0 : Below w.heap.size w (w.alloc (.cells #[.int .u16 z0, .int .u16 z1] 48)) := (Below.refl _ _).alloc (Nat.le_refl _) _
  have HP := Lib.hid (put_any (w.alloc (.cells #[.int .u16 z0, .int .u16 z1] 48)))
  by_cases h1 : 2000 < s.size
  · clear h
    go_enter Try.func5, Try.ntmps5
    go_wp2_with fail
    refine HP.out.mono ?_
    rintro e w3 ⟨rfl, b3⟩
    go_wp2
    go_ret
    exact ⟨rfl, hb0.trans (b3.mono hb0.size)⟩
  · have h2 : 2000 < m.size := by omega
    clear h
    go_enter Try.func5, Try.ntmps5
    go_wp2_with fail
    refine HP.out.mono ?_
    rintro e w3 ⟨rfl, b3⟩
    go_wp2
    go_ret
    exact ⟨rfl, hb0.trans (b3.mono hb0.size)⟩

set_option maxRecDepth 100000 in
set_option maxHeartbeats 1000000 in
theorem piecesBack_le (s m : ByteArray) (z0 z1 : Int) (A B : Nat) (w : World) (hs : s.size ≤ 2000) (hm : m.size ≤ 2000) (l0 : 0 ≤ z0) (u0 : z0 ≤ 65535) (l1 : 0 ≤ z1) (u1 : z1 ≤ 65535)
    (hA : z0 % ((s.size : Int) + 1) = (A : Int)) (hB : z1 % ((s.size : Int) + 1) = (B : Int)) (ha : A ≤ s.size) (hb : B ≤ s.size) (hab : A ≤ B) :
    Calls Try.prog 5 #[.string s, .string m, .agg #[.int .u16 z0, .int .u16 z1]] w fun e w' => e = .returned (.bool true) ∧ Below w.heap.size w w' := by
  have hb0 : Below w.heap.size w (w.alloc (.cells #[.int .u16 z0, .int .u16 z1] 48)) := (Below.refl _ _).alloc (Nat.le_refl _) _
  have HX : Hid (∀ W, Below (w.alloc (.cells #[.int .u16 z0, .int .u16 z1] 48)).heap.size (w.alloc (.cells #[.int .u16 z0, .int .u16 z1] 48)) W → W.cell? ⟨w.heap.size, 0, none⟩ = some (.int .u16 z0) ∧ W.cell? ⟨w.heap.size, 1, none⟩ = some (.int .u16 z1)) := fun W hW =>
    ⟨by rw [hW.cell (p := ⟨w.heap.size, 0, none⟩) (by simp), cell_of_row _ _ _ _ 48 (0, 0) (heap_alloc_new w _)]; rfl,
      by rw [hW.cell (p := ⟨w.heap.size, 1, none⟩) (by simp), cell_of_row _ _ _ _ 48 (0, 0) (heap_alloc_new w _)]; rfl⟩
  have H1 := Lib.hid (new_ok s (w.alloc (.cells #[.int .u16 z0, .int .u16 z1] 48)) (by omega))
  have hz2 := putS_size s A A m (Nat.le_refl _) ha
  have hz4 := putS_size s A B ⟨#[]⟩ (by omega) (by omega)
  rw [show ByteArray.size ⟨#[]⟩ = 0 from rfl, Nat.add_zero] at hz4
  have hxe := ex_size s A B (by omega)
  have H2 : Hid (∀ xs u w, TextX w u s xs → Calls Try.prog 16 #[u, .int .i64 (A : Int), .string m] w fun e w' => (∃ u, e = .returned (.tuple #[u, .int .i64 0]) ∧ TextX w' u (putS s A A m) (insL xs A m)) ∧ Below w.heap.size w w') :=
    fun xs u w h => ins_ok A m w h (by omega) (by omega)
  have H3 : Hid (∀ xs u w, TextX w u (putS s A A m) xs → Calls Try.prog 11 #[u, .int .i64 (A : Int), .int .i64 ((A : Int) + (m.size : Int))] w fun e w' => (∃ u, e = .returned (.tuple #[u, .int .i64 0]) ∧ TextX w' u s (delL xs A (A + m.size))) ∧ Below w.heap.size w w') :=
    fun xs u w h => by
      have := del_ok A (A + m.size) w h (by omega) (by omega) (by omega)
      rwa [putS_back s m A ha, Int.natCast_add] at this
  have H4 : Hid (∀ xs u w, TextX w u s xs → Calls Try.prog 11 #[u, .int .i64 (A : Int), .int .i64 (B : Int)] w fun e w' => (∃ u, e = .returned (.tuple #[u, .int .i64 0]) ∧ TextX w' u (putS s A B ⟨#[]⟩) (delL xs A B)) ∧ Below w.heap.size w w') :=
    fun xs u w h => del_ok A B w h (by omega) (by omega) (by omega)
  have H5 : Hid (∀ xs u w, TextX w u (putS s A B ⟨#[]⟩) xs → Calls Try.prog 16 #[u, .int .i64 (A : Int), .string (s.extract A B)] w fun e w' => (∃ u, e = .returned (.tuple #[u, .int .i64 0]) ∧ TextX w' u s (insL xs A (s.extract A B))) ∧ Below w.heap.size w w') :=
    fun xs u w h => by
      have := ins_ok A (s.extract A B) w h (by omega) (by omega)
      rwa [putS_again s A B (by omega) (by omega)] at this
  have H6 : Hid (∀ xs u w, TextX w u s xs → Calls Try.prog 20 #[u] w fun e w' => e = .returned (.string s) ∧ Below w.heap.size w w') := fun xs u w h => string_text w h.text (by omega)
  have H7 : Hid (∀ xs u w, TextX w u (putS s A A m) xs → Calls Try.prog 19 #[u] w fun e w' => e = .returned (.int .i64 ((s.size : Int) + (m.size : Int))) ∧ w' = w) := fun xs u w h => by
    have := len_text w h.text
    rwa [show ((putS s A A m).size : Int) = (s.size : Int) + (m.size : Int) by omega] at this
  have H8 : Hid (∀ xs u w, TextX w u (putS s A B ⟨#[]⟩) xs → Calls Try.prog 19 #[u] w fun e w' => e = .returned (.int .i64 ((s.size : Int) - ((B : Int) - (A : Int)))) ∧ w' = w) := fun xs u w h => by
    have := len_text w h.text
    rwa [show ((putS s A B ⟨#[]⟩).size : Int) = (s.size : Int) - ((B : Int) - (A : Int)) by omega] at this
  have H9 : Hid (∀ xs u w, TextX w u (putS s A A m) xs → Calls Try.prog 14 #[u, .int .i64 (A : Int), .int .i64 ((A : Int) + (m.size : Int))] w fun e w' => e = .returned (.string m) ∧ Below w.heap.size w w') := fun xs u w h => by
    have := slice_text (A : Int) ((A : Int) + (m.size : Int)) w h.text (by omega)
    rwa [slice_put s m A ha] at this
  have a1 : (A : Int) ≤ (s.size : Int) := by omega
  have a2 : (B : Int) ≤ (s.size : Int) := by omega
  have a3 : (s.size : Int) ≤ 2000 := by omega
  have a4 : (m.size : Int) ≤ 2000 := by omega
  have a5 : (A : Int) ≤ (B : Int) := by omega
  have a6 : min (A : Int) (B : Int) = (A : Int) := by omega
  have a7 : max (A : Int) (B : Int) = (B : Int) := by omega
  clear hz2 hz4 hxe
  go_enter Try.func5, Try.ntmps5
  go_wp2_with fail
  go_fit H1.out
  rintro e w1 ⟨⟨t1, rfl, T1⟩, b1⟩
  obtain ⟨c0, c1⟩ := HX.out _ b1
  have k := b1
  go_wp2_with fail
  go_fit (H2.out _ _ _ T1)
  rintro e w2 ⟨⟨t2, rfl, T2⟩, b2⟩
  have T1 := T1.below b2
  have k := k.trans (b2.mono k.size)
  clear c0 c1 b1 b2
  obtain ⟨c0, c1⟩ := HX.out _ k
  go_wp2_with fail
  go_fit (H3.out _ _ _ T2)
  rintro e w3 ⟨⟨t3, rfl, T3⟩, b3⟩
  have T1 := T1.below b3
  have T2 := T2.below b3
  have k := k.trans (b3.mono k.size)
  clear c0 c1 b3
  obtain ⟨c0, c1⟩ := HX.out _ k
  go_wp2_with fail
  go_fit (H4.out _ _ _ T1)
  rintro e w4 ⟨⟨t4, rfl, T4⟩, b4⟩
  have T2 := T2.below b4
  have T3 := T3.below b4
  have k := k.trans (b4.mono k.size)
  clear c0 c1 b4 T1
  go_wp2_with fail
  go_fit (H5.out _ _ _ T4)
  rintro e w5 ⟨⟨t5, rfl, T5⟩, b5⟩
  have T2 := T2.below b5
  have T3 := T3.below b5
  have T4 := T4.below b5
  have k := k.trans (b5.mono k.size)
  clear b5
  go_wp2_with fail
  go_fit (H6.out _ _ _ T3)
  rintro e w6 ⟨rfl, b6⟩
  have T2 := T2.below b6
  have T4 := T4.below b6
  have T5 := T5.below b6
  have k := k.trans (b6.mono k.size)
  clear b6 T3
  go_wp2_with fail
  go_fit (H6.out _ _ _ T5)
  rintro e w7 ⟨rfl, b7⟩
  have T2 := T2.below b7
  have T4 := T4.below b7
  have k := k.trans (b7.mono k.size)
  clear b7 T5
  go_wp2_with fail
  go_fit (H7.out _ _ _ T2)
  rintro e w8 ⟨rfl, rfl⟩
  go_wp2_with fail
  go_fit (H8.out _ _ _ T4)
  rintro e w9 ⟨rfl, rfl⟩
  go_wp2_with fail
  go_fit (H9.out _ _ _ T2)
  rintro e wA ⟨rfl, bA⟩
  have k := k.trans (bA.mono k.size)
  have HP := Lib.hid (put_any wA)
  clear bA T2 T4
  go_wp2_with fail
  go_fit HP.out
  rintro e wB ⟨rfl, bB⟩
  have k := k.trans (bB.mono k.size)
  go_wp2
  go_ret
  exact ⟨rfl, hb0.trans (k.mono hb0.size)⟩

set_option maxRecDepth 100000 in
set_option maxHeartbeats 1000000 in
theorem piecesBack_gt (s m : ByteArray) (z0 z1 : Int) (A B : Nat) (w : World) (hs : s.size ≤ 2000) (hm : m.size ≤ 2000) (l0 : 0 ≤ z0) (u0 : z0 ≤ 65535) (l1 : 0 ≤ z1) (u1 : z1 ≤ 65535)
    (hA : z0 % ((s.size : Int) + 1) = (A : Int)) (hB : z1 % ((s.size : Int) + 1) = (B : Int)) (ha : A ≤ s.size) (hb : B ≤ s.size) (hab : B < A) :
    Calls Try.prog 5 #[.string s, .string m, .agg #[.int .u16 z0, .int .u16 z1]] w fun e w' => e = .returned (.bool true) ∧ Below w.heap.size w w' := by
  have hb0 : Below w.heap.size w (w.alloc (.cells #[.int .u16 z0, .int .u16 z1] 48)) := (Below.refl _ _).alloc (Nat.le_refl _) _
  have HX : Hid (∀ W, Below (w.alloc (.cells #[.int .u16 z0, .int .u16 z1] 48)).heap.size (w.alloc (.cells #[.int .u16 z0, .int .u16 z1] 48)) W → W.cell? ⟨w.heap.size, 0, none⟩ = some (.int .u16 z0) ∧ W.cell? ⟨w.heap.size, 1, none⟩ = some (.int .u16 z1)) := fun W hW =>
    ⟨by rw [hW.cell (p := ⟨w.heap.size, 0, none⟩) (by simp), cell_of_row _ _ _ _ 48 (0, 0) (heap_alloc_new w _)]; rfl,
      by rw [hW.cell (p := ⟨w.heap.size, 1, none⟩) (by simp), cell_of_row _ _ _ _ 48 (0, 0) (heap_alloc_new w _)]; rfl⟩
  have H1 := Lib.hid (new_ok s (w.alloc (.cells #[.int .u16 z0, .int .u16 z1] 48)) (by omega))
  have hz2 := putS_size s A A m (Nat.le_refl _) ha
  have hz4 := putS_size s B A ⟨#[]⟩ (by omega) (by omega)
  rw [show ByteArray.size ⟨#[]⟩ = 0 from rfl, Nat.add_zero] at hz4
  have hxe := ex_size s B A (by omega)
  have H2 : Hid (∀ xs u w, TextX w u s xs → Calls Try.prog 16 #[u, .int .i64 (A : Int), .string m] w fun e w' => (∃ u, e = .returned (.tuple #[u, .int .i64 0]) ∧ TextX w' u (putS s A A m) (insL xs A m)) ∧ Below w.heap.size w w') :=
    fun xs u w h => ins_ok A m w h (by omega) (by omega)
  have H3 : Hid (∀ xs u w, TextX w u (putS s A A m) xs → Calls Try.prog 11 #[u, .int .i64 (A : Int), .int .i64 ((A : Int) + (m.size : Int))] w fun e w' => (∃ u, e = .returned (.tuple #[u, .int .i64 0]) ∧ TextX w' u s (delL xs A (A + m.size))) ∧ Below w.heap.size w w') :=
    fun xs u w h => by
      have := del_ok A (A + m.size) w h (by omega) (by omega) (by omega)
      rwa [putS_back s m A ha, Int.natCast_add] at this
  have H4 : Hid (∀ xs u w, TextX w u s xs → Calls Try.prog 11 #[u, .int .i64 (B : Int), .int .i64 (A : Int)] w fun e w' => (∃ u, e = .returned (.tuple #[u, .int .i64 0]) ∧ TextX w' u (putS s B A ⟨#[]⟩) (delL xs B A)) ∧ Below w.heap.size w w') :=
    fun xs u w h => del_ok B A w h (by omega) (by omega) (by omega)
  have H5 : Hid (∀ xs u w, TextX w u (putS s B A ⟨#[]⟩) xs → Calls Try.prog 16 #[u, .int .i64 (B : Int), .string (s.extract B A)] w fun e w' => (∃ u, e = .returned (.tuple #[u, .int .i64 0]) ∧ TextX w' u s (insL xs B (s.extract B A))) ∧ Below w.heap.size w w') :=
    fun xs u w h => by
      have := ins_ok B (s.extract B A) w h (by omega) (by omega)
      rwa [putS_again s B A (by omega) (by omega)] at this
  have H6 : Hid (∀ xs u w, TextX w u s xs → Calls Try.prog 20 #[u] w fun e w' => e = .returned (.string s) ∧ Below w.heap.size w w') := fun xs u w h => string_text w h.text (by omega)
  have H7 : Hid (∀ xs u w, TextX w u (putS s A A m) xs → Calls Try.prog 19 #[u] w fun e w' => e = .returned (.int .i64 ((s.size : Int) + (m.size : Int))) ∧ w' = w) := fun xs u w h => by
    have := len_text w h.text
    rwa [show ((putS s A A m).size : Int) = (s.size : Int) + (m.size : Int) by omega] at this
  have H8 : Hid (∀ xs u w, TextX w u (putS s B A ⟨#[]⟩) xs → Calls Try.prog 19 #[u] w fun e w' => e = .returned (.int .i64 ((s.size : Int) - ((A : Int) - (B : Int)))) ∧ w' = w) := fun xs u w h => by
    have := len_text w h.text
    rwa [show ((putS s B A ⟨#[]⟩).size : Int) = (s.size : Int) - ((A : Int) - (B : Int)) by omega] at this
  have H9 : Hid (∀ xs u w, TextX w u (putS s A A m) xs → Calls Try.prog 14 #[u, .int .i64 (A : Int), .int .i64 ((A : Int) + (m.size : Int))] w fun e w' => e = .returned (.string m) ∧ Below w.heap.size w w') := fun xs u w h => by
    have := slice_text (A : Int) ((A : Int) + (m.size : Int)) w h.text (by omega)
    rwa [slice_put s m A ha] at this
  have a1 : (A : Int) ≤ (s.size : Int) := by omega
  have a2 : (B : Int) ≤ (s.size : Int) := by omega
  have a3 : (s.size : Int) ≤ 2000 := by omega
  have a4 : (m.size : Int) ≤ 2000 := by omega
  have a5 : (B : Int) ≤ (A : Int) := by omega
  have a6 : min (A : Int) (B : Int) = (B : Int) := by omega
  have a7 : max (A : Int) (B : Int) = (A : Int) := by omega
  clear hz2 hz4 hxe
  go_enter Try.func5, Try.ntmps5
  go_wp2_with fail
  go_fit H1.out
  rintro e w1 ⟨⟨t1, rfl, T1⟩, b1⟩
  obtain ⟨c0, c1⟩ := HX.out _ b1
  have k := b1
  go_wp2_with fail
  go_fit (H2.out _ _ _ T1)
  rintro e w2 ⟨⟨t2, rfl, T2⟩, b2⟩
  have T1 := T1.below b2
  have k := k.trans (b2.mono k.size)
  clear c0 c1 b1 b2
  obtain ⟨c0, c1⟩ := HX.out _ k
  go_wp2_with fail
  go_fit (H3.out _ _ _ T2)
  rintro e w3 ⟨⟨t3, rfl, T3⟩, b3⟩
  have T1 := T1.below b3
  have T2 := T2.below b3
  have k := k.trans (b3.mono k.size)
  clear c0 c1 b3
  obtain ⟨c0, c1⟩ := HX.out _ k
  go_wp2_with fail
  go_fit (H4.out _ _ _ T1)
  rintro e w4 ⟨⟨t4, rfl, T4⟩, b4⟩
  have T2 := T2.below b4
  have T3 := T3.below b4
  have k := k.trans (b4.mono k.size)
  clear c0 c1 b4 T1
  go_wp2_with fail
  go_fit (H5.out _ _ _ T4)
  rintro e w5 ⟨⟨t5, rfl, T5⟩, b5⟩
  have T2 := T2.below b5
  have T3 := T3.below b5
  have T4 := T4.below b5
  have k := k.trans (b5.mono k.size)
  clear b5
  go_wp2_with fail
  go_fit (H6.out _ _ _ T3)
  rintro e w6 ⟨rfl, b6⟩
  have T2 := T2.below b6
  have T4 := T4.below b6
  have T5 := T5.below b6
  have k := k.trans (b6.mono k.size)
  clear b6 T3
  go_wp2_with fail
  go_fit (H6.out _ _ _ T5)
  rintro e w7 ⟨rfl, b7⟩
  have T2 := T2.below b7
  have T4 := T4.below b7
  have k := k.trans (b7.mono k.size)
  clear b7 T5
  go_wp2_with fail
  go_fit (H7.out _ _ _ T2)
  rintro e w8 ⟨rfl, rfl⟩
  go_wp2_with fail
  go_fit (H8.out _ _ _ T4)
  rintro e w9 ⟨rfl, rfl⟩
  go_wp2_with fail
  go_fit (H9.out _ _ _ T2)
  rintro e wA ⟨rfl, bA⟩
  have k := k.trans (bA.mono k.size)
  have HP := Lib.hid (put_any wA)
  clear bA T2 T4
  go_wp2_with fail
  go_fit HP.out
  rintro e wB ⟨rfl, bB⟩
  have k := k.trans (bB.mono k.size)
  go_wp2
  go_ret
  exact ⟨rfl, hb0.trans (k.mono hb0.size)⟩

theorem piecesBack_any (s m : ByteArray) (z0 z1 : Int) (w : World) (l0 : 0 ≤ z0) (u0 : z0 ≤ 65535) (l1 : 0 ≤ z1) (u1 : z1 ≤ 65535) :
    Calls Try.prog 5 #[.string s, .string m, .agg #[.int .u16 z0, .int .u16 z1]] w fun e w' => e = .returned (.bool true) ∧ Below w.heap.size w w' := by
  by_cases h : 2000 < s.size ∨ 2000 < m.size
  · exact piecesBack_far s m z0 z1 w h
  · have p0 : (0 : Int) < (s.size : Int) + 1 := by omega
    have r0 := Int.emod_nonneg z0 (show ((s.size : Int) + 1) ≠ 0 by omega)
    have r1 := Int.emod_nonneg z1 (show ((s.size : Int) + 1) ≠ 0 by omega)
    have q0 := Int.emod_lt_of_pos z0 p0
    have q1 := Int.emod_lt_of_pos z1 p0
    obtain ⟨A, hA⟩ : ∃ A : Nat, z0 % ((s.size : Int) + 1) = (A : Int) := ⟨(z0 % ((s.size : Int) + 1)).toNat, by omega⟩
    obtain ⟨B, hB⟩ : ∃ B : Nat, z1 % ((s.size : Int) + 1) = (B : Int) := ⟨(z1 % ((s.size : Int) + 1)).toNat, by omega⟩
    rw [hA] at r0 q0
    rw [hB] at r1 q1
    by_cases hab : A ≤ B
    · exact piecesBack_le s m z0 z1 A B w (by omega) (by omega) l0 u0 l1 u1 hA hB (by omega) (by omega) hab
    · exact piecesBack_gt s m z0 z1 A B w (by omega) (by omega) l0 u0 l1 u1 hA hB (by omega) (by omega) (by omega)

-- FRAME
theorem piecesBack_own : ownKnob Try.prog.godebug = none := by kernel_rfl

set_option maxRecDepth 100000 in
theorem piecesBack_lifted (os : Os) (started : os.Started) (H : Type) (enc : TypeId × Value → H) :
    ReturnsInHanded {} Try.checked os 5 .any (Rows.piecesBackSpec.pre6 enc Try.prog Try.f5 Rows.piecesBackRow.domain false) (Rows.piecesBackSpec.post enc Try.prog Try.f5 false true false false) := by
  refine returnsInHanded_of_change (C := Try.checked) piecesBack_own started (by kernel_rfl) Try.func5
    (ChangeSpec.witness6 (enc := enc) (C := Try.checked) false ⟨#[], #[.string ⟨#[]⟩, .string ⟨#[]⟩, .agg #[.int .u16 0, .int .u16 0]], []⟩ 8 (by kernel_rfl) (by kernel_rfl) (by kernel_rfl) (by kernel_rfl)) ?_
  intro W base args ds gs before hval0 hW hcnd _
  have hval : ∀ (j : Nat) t v, Try.f5.params[j]? = some t → args[j]? = some v → Value.okWide Try.prog W .any base t v := hval0
  have hW' := hW
  obtain ⟨p, q, hA0, hV, rfl, hfz, hnd⟩ := hW
  have hA : DataW.TrodAll enc Try.prog W 0 (fun _ => true) true Try.f5.params.toList args.toList ds p := hA0
  rw [Try.params5] at hA hval
  obtain ⟨v0, v1, v2, d0, d1, d2, p0, p1, p2, rfl, rfl, rfl, h0, h1, h2⟩ := trodAll_three hA
  obtain ⟨rfl, rfl⟩ := trodVars_none hV
  obtain ⟨x0, rfl, rfl, rfl, wr0⟩ := open_string Try.underlying9 (hval 0 9 v0 rfl rfl) h0
  obtain ⟨x1, rfl, rfl, rfl, wr1⟩ := open_string Try.underlying9 (hval 1 9 v1 rfl rfl) h1
  have k2 := h2
  obtain ⟨cs2, rfl, sz2, ea2⟩ := open_arrU16 (n := 2) Try.underlying48 (by kernel_rfl) (hval 2 48 v2 rfl rfl) h2
  obtain ⟨c20, c21, rfl⟩ := Go.Joins.array2 sz2
  obtain ⟨z20, e20, l20, u20⟩ := ea2 0 (by decide)
  simp at e20
  subst e20
  obtain ⟨z21, e21, l21, u21⟩ := ea2 1 (by decide)
  simp at e21
  subst e21
  clear hA0 hval0
  simp only [List.append_nil] at hW'
  have hlt : ∀ x ∈ (p2), x.block < W.heap.size := fun x hx => hW'.lt x (by simp [hx])
  refine (piecesBack_any x0 x1 z20 z21 W l20 u20 l21 u21).mono fun e W' ⟨he, hw⟩ => ?_
  subst he
  exact ⟨_, rfl, _, _, _, [], (p2), [], hW', trodAll_mk1 (shut_bool Try.underlying4 _), trodAll_mk3 (shut_string Try.underlying9 wr0) (shut_string Try.underlying9 wr1) (Below.trod Try.laidOut (by kernel_rfl) (of_decide_eq_true (by kernel_rfl)) k2 hw (fun x hx => hlt x (by simp [hx]))), rfl, hw.frame _, fun h => by cases h⟩

theorem piecesBack_holds : Rows.PiecesBackSaid :=
  OpenClaim.holds_of_wide 5 Try.f5 rfl rfl rfl rfl rfl rfl rfl ⟨rfl, rfl, rfl, rfl, rfl⟩ rfl rfl rfl rfl rfl (by kernel_rfl) Try.func5 (by kernel_rfl)
    (of_decide_eq_true (by kernel_rfl)) (by unfold Func.isWrapper; first | (rw [if_pos (by decide +kernel)]; kernel_rfl) | (rw [if_neg (by decide +kernel)]; exact ⟨rfl, rfl⟩))
    (fun os started H enc _ => piecesBack_lifted os started H enc)
end Go.Proofs.Ytalngjafpohhjaa
