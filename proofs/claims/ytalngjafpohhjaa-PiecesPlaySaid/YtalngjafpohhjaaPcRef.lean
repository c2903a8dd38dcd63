/-
  limnerref03: New, Slice, Insert, Delete: what each call returns.
-/
import Derived.Test.YtalngjafpohhjaaPcChanged
import Derived.Test.YtalngjafpohhjaaPcSlice
namespace Go.Proofs.Ytalngjafpohhjaa
open Go.RowKit

theorem refNew_far (x : ByteArray) (w : World) (h : 16384 < x.size) :
    Calls Try.prog 10 #[.string x] w fun e w' => e = .returned (.tuple #[.string ⟨#[]⟩, .int .i64 60]) ∧ w' = w := by
  go_enter Try.func10, Try.ntmps10
  go_wp2
  go_ret2
  exact ⟨rfl, rfl⟩
theorem refNew_ok (x : ByteArray) (w : World) (h : x.size ≤ 16384) :
    Calls Try.prog 10 #[.string x] w fun e w' => e = .returned (.tuple #[.string x, .int .i64 0]) ∧ w' = w := by
  go_enter Try.func10, Try.ntmps10
  go_wp2
  go_ret2
  exact ⟨rfl, rfl⟩

theorem inB_no {a c z : Int} (h : inB a c z = false) : a < 0 ∨ z < c ∨ c < a := by
  have h' := of_decide_eq_false h
  by_cases h1 : a < 0
  · exact .inl h1
  · by_cases h2 : z < c
    · exact .inr (.inl h2)
    · exact .inr (.inr (by omega))

theorem refSlice_any (s : ByteArray) (a c : Int) (w : World) :
    Calls Try.prog 15 #[.string s, .int .i64 a, .int .i64 c] w fun e w' => e = .returned (.string (sliceS s a c)) ∧ w' = w := by
  unfold sliceS
  cases hb : inB a c s.size
  · rw [if_neg (by decide)]
    by_cases h1 : a < 0
    · clear hb
      go_enter Try.func15, Try.ntmps15
      go_wp2
      go_ret
      exact ⟨rfl, rfl⟩
    · by_cases h2 : (s.size : Int) < c
      · clear hb
        go_enter Try.func15, Try.ntmps15
        go_wp2
        go_ret
        exact ⟨rfl, rfl⟩
      · have h3 : c < a := by rcases inB_no hb with h | h | h <;> omega
        clear hb
        go_enter Try.func15, Try.ntmps15
        go_wp2
        go_ret
        exact ⟨rfl, rfl⟩
  · have hb' : 0 ≤ a ∧ a ≤ c ∧ c ≤ (s.size : Int) := of_decide_eq_true hb
    obtain ⟨h1, h2, h3⟩ := hb'
    rw [if_pos rfl]
    clear hb
    go_enter Try.func15, Try.ntmps15
    go_wp2
    go_ret
    exact ⟨rfl, rfl⟩

theorem refDel_arg (s : ByteArray) (a c : Int) (w : World) (hb : inB a c s.size = false) :
    Calls Try.prog 12 #[.string s, .int .i64 a, .int .i64 c] w fun e w' => e = .returned (.tuple #[.string ⟨#[]⟩, .int .i64 2]) ∧ Below w.heap.size w w' := by
  by_cases h1 : a < 0
  · clear hb
    go_enter Try.func12, Try.ntmps12
    go_wp2
    go_ret2
    exact ⟨rfl, Below.refl _ _⟩
  · by_cases h2 : (s.size : Int) < c
    · clear hb
      go_enter Try.func12, Try.ntmps12
      go_wp2
      go_ret2
      exact ⟨rfl, Below.refl _ _⟩
    · have h3 : c < a := by rcases inB_no hb with h | h | h <;> omega
      clear hb
      go_enter Try.func12, Try.ntmps12
      go_wp2
      go_ret2
      exact ⟨rfl, Below.refl _ _⟩

theorem put_parts (s x : ByteArray) (f t : Nat) : s.extract 0 f ++ x ++ s.extract t s.size = putS s f t x := by
  apply ba_ext
  rw [putS_data]
  show ((s.extract 0 f ++ x) ++ s.extract t s.size).data.toList = _
  rw [show ∀ a b : ByteArray, (a ++ b).data.toList = a.data.toList ++ b.data.toList from fun a b => by rw [ByteArray.data_append, Array.toList_append],
    show ∀ a b : ByteArray, (a ++ b).data.toList = a.data.toList ++ b.data.toList from fun a b => by rw [ByteArray.data_append, Array.toList_append], ex_data, ex_data, List.drop_zero, Nat.sub_zero,
    List.take_of_length_le (l := s.data.toList.drop t) (by rw [List.length_drop, len_bytes]; exact Nat.le_refl _)]
theorem cut_parts (s : ByteArray) (f t : Nat) : s.extract 0 f ++ s.extract t s.size = putS s f t ⟨#[]⟩ := by
  rw [← put_parts]
  congr 1
  apply ba_ext
  rw [show ∀ a b : ByteArray, (a ++ b).data.toList = a.data.toList ++ b.data.toList from fun a b => by rw [ByteArray.data_append, Array.toList_append]]
  exact (List.append_nil _).symm

theorem refDel_ok (s : ByteArray) (a c : Nat) (w : World) (h1 : a ≤ c) (h2 : c ≤ s.size) (hs : s.size ≤ 16384) :
    Calls Try.prog 12 #[.string s, .int .i64 (a : Int), .int .i64 (c : Int)] w fun e w' => e = .returned (.tuple #[.string (putS s a c ⟨#[]⟩), .int .i64 0]) ∧ Below w.heap.size w w' := by
  have a1 : (a : Int) ≤ (c : Int) := by omega
  have a2 : (c : Int) ≤ (s.size : Int) := by omega
  have a3 : (a : Int) ≤ (s.size : Int) := by omega
  have a4 : (s.size : Int) ≤ 16384 := by omega
  have HE := Lib.hid (cut_parts s a c)
  go_enter Try.func12, Try.ntmps12
  go_wp2
  go_quiet (fail)
  all_goals go_wp2
  all_goals go_ret2
  all_goals exact ⟨by rw [← HE.out]; rfl, below_drewN _ _⟩

theorem refIns_arg (s x : ByteArray) (a : Int) (w : World) (hb : inB a a s.size = false) :
    Calls Try.prog 17 #[.string s, .int .i64 a, .string x] w fun e w' => e = .returned (.tuple #[.string ⟨#[]⟩, .int .i64 2]) ∧ Below w.heap.size w w' := by
  by_cases h1 : a < 0
  · clear hb
    go_enter Try.func17, Try.ntmps17
    go_wp2
    go_ret2
    exact ⟨rfl, Below.refl _ _⟩
  · have h2 : (s.size : Int) < a := by rcases inB_no hb with h | h | h <;> omega
    clear hb
    go_enter Try.func17, Try.ntmps17
    go_wp2
    go_ret2
    exact ⟨rfl, Below.refl _ _⟩
theorem refIns_full (s x : ByteArray) (a : Nat) (w : World) (h1 : a ≤ s.size) (hs : s.size ≤ 16384) (hx : 16384 < s.size + x.size) (hm : x.size ≤ 1000000) :
    Calls Try.prog 17 #[.string s, .int .i64 (a : Int), .string x] w fun e w' => e = .returned (.tuple #[.string ⟨#[]⟩, .int .i64 60]) ∧ Below w.heap.size w w' := by
  have a1 : (a : Int) ≤ (s.size : Int) := by omega
  have a2 : (s.size : Int) ≤ 16384 := by omega
  have a3 : 16384 < (s.size : Int) + (x.size : Int) := by omega
  have a4 : (x.size : Int) ≤ 1000000 := by omega
  clear hs hx hm h1
  by_cases h : (16384 : Int) < (x.size : Int)
  · go_enter Try.func17, Try.ntmps17
    go_wp2
    go_ret2
    exact ⟨rfl, Below.refl _ _⟩
  · go_enter Try.func17, Try.ntmps17
    go_wp2
    go_ret2
    exact ⟨rfl, Below.refl _ _⟩
theorem refIns_ok (s x : ByteArray) (a : Nat) (w : World) (h1 : a ≤ s.size) (hx : s.size + x.size ≤ 16384) :
    Calls Try.prog 17 #[.string s, .int .i64 (a : Int), .string x] w fun e w' => e = .returned (.tuple #[.string (putS s a a x), .int .i64 0]) ∧ Below w.heap.size w w' := by
  have a1 : (a : Int) ≤ (s.size : Int) := by omega
  have a3 : (s.size : Int) + (x.size : Int) ≤ 16384 := by omega
  have a4 : (x.size : Int) ≤ 16384 := by omega
  have HE := Lib.hid (put_parts s x a a)
  clear h1 hx
  go_enter Try.func17, Try.ntmps17
  go_wp2
  go_quiet (fail)
  all_goals go_wp2
  all_goals go_ret2
  all_goals exact ⟨by rw [← HE.out]; rfl, below_drewN _ _⟩
end Go.Proofs.Ytalngjafpohhjaa
