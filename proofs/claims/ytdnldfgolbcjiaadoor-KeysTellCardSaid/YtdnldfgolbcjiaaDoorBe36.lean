/-
  limnerref01.Put: what it returns: for every number.
-/
import Derived.Test.YtdnldfgolbcjiaaDoorBe4
namespace Go.Proofs.YtdnldfgolbcjiaaDoor
open Go.RowKit

theorem conv_new (xs : List Int) (w : World) :
    (convert 28 9 (.slice (some ⟨w.heap.size, 0, none⟩) xs.length xs.length)).run Tryd.prog (w.alloc (.cells (xs.map (Value.int .u8)).toArray 5)) = .ok (.string (strOfNums xs)) (w.alloc (.cells (xs.map (Value.int .u8)).toArray 5)) :=
  run_convert_bytes_arg (P := Tryd.prog) _ 28 5 Tryd.underlying28 Tryd.underlying5 w.heap.size 0 xs.length xs.length xs rfl
    (fun i hi => by rw [cell_of_row _ _ _ (xs.map (Value.int .u8)).toArray 5 (0, 0) (heap_alloc_new w _)]; simp [List.getD, List.getElem?_map, List.getElem?_eq_getElem hi]) 9 Tryd.underlying9

set_option maxHeartbeats 1000000 in
theorem refPut_1 (r : Int) (w : World) (h0 : 0 ≤ r) (h1 : r < 128) :
    Calls Tryd.prog 50 #[.int .i32 r] w fun e w' => e = .returned (.string (putB r)) ∧ Below w.heap.size w w' := by
  have H := Lib.hid (put1 r h0 h1)
  have c1 := fun a => conv_new [a] w
  simp only [List.map_cons, List.map_nil, List.length_cons, List.length_nil] at c1
  go_enter Tryd.func50, Tryd.ntmps50
  go_wp2
  go_ret
  exact ⟨by rw [← H.out]; rfl, (Below.refl _ _).alloc (Nat.le_refl _) _⟩

set_option maxHeartbeats 1000000 in
theorem refPut_2 (r : Int) (w : World) (h0 : 128 ≤ r) (h1 : r < 2048) :
    Calls Tryd.prog 50 #[.int .i32 r] w fun e w' => e = .returned (.string (putB r)) ∧ Below w.heap.size w w' := by
  have H := Lib.hid (put2 r h0 h1)
  have cv := fun a b => conv_new [a, b] w
  simp only [List.map_cons, List.map_nil, List.length_cons, List.length_nil] at cv
  go_enter Tryd.func50, Tryd.ntmps50
  go_wp2
  go_ret
  exact ⟨by rw [← H.out]; rfl, (Below.refl _ _).alloc (Nat.le_refl _) _⟩

set_option maxHeartbeats 1000000 in
theorem refPut_3a (r : Int) (w : World) (h0 : 2048 ≤ r) (h1 : r < 55296) :
    Calls Tryd.prog 50 #[.int .i32 r] w fun e w' => e = .returned (.string (putB r)) ∧ Below w.heap.size w w' := by
  have H := Lib.hid (put3 r h0 (by omega) (.inl h1))
  have cv := fun a b c => conv_new [a, b, c] w
  simp only [List.map_cons, List.map_nil, List.length_cons, List.length_nil] at cv
  go_enter Tryd.func50, Tryd.ntmps50
  go_wp2
  go_ret
  exact ⟨by rw [← H.out]; rfl, (Below.refl _ _).alloc (Nat.le_refl _) _⟩

set_option maxHeartbeats 1000000 in
theorem refPut_3b (r : Int) (w : World) (h0 : 57343 < r) (h1 : r < 65536) :
    Calls Tryd.prog 50 #[.int .i32 r] w fun e w' => e = .returned (.string (putB r)) ∧ Below w.heap.size w w' := by
  have H := Lib.hid (put3 r (by omega) h1 (.inr (by omega)))
  have cv := fun a b c => conv_new [a, b, c] w
  simp only [List.map_cons, List.map_nil, List.length_cons, List.length_nil] at cv
  go_enter Tryd.func50, Tryd.ntmps50
  go_wp2
  go_ret
  exact ⟨by rw [← H.out]; rfl, (Below.refl _ _).alloc (Nat.le_refl _) _⟩

set_option maxHeartbeats 1000000 in
theorem refPut_4 (r : Int) (w : World) (h0 : 65536 ≤ r) (h1 : r ≤ 1114111) :
    Calls Tryd.prog 50 #[.int .i32 r] w fun e w' => e = .returned (.string (putB r)) ∧ Below w.heap.size w w' := by
  have H := Lib.hid (put4 r h0 h1)
  have cv := fun a b c d => conv_new [a, b, c, d] w
  simp only [List.map_cons, List.map_nil, List.length_cons, List.length_nil] at cv
  go_enter Tryd.func50, Tryd.ntmps50
  go_wp2
  go_ret
  exact ⟨by rw [← H.out]; rfl, (Below.refl _ _).alloc (Nat.le_refl _) _⟩

set_option maxHeartbeats 1000000 in
theorem refPut_no (r : Int) (w : World) (h : r < 0 ∨ 1114111 < r ∨ (55296 ≤ r ∧ r ≤ 57343)) :
    Calls Tryd.prog 50 #[.int .i32 r] w fun e w' => e = .returned (.string ⟨#[]⟩) ∧ Below w.heap.size w w' := by
  rcases h with h | h | ⟨h, h2⟩
  · go_enter Tryd.func50, Tryd.ntmps50
    go_wp2
    go_ret
    exact ⟨rfl, Below.refl _ _⟩
  · have h0 : 0 ≤ r := by omega
    go_enter Tryd.func50, Tryd.ntmps50
    go_wp2
    go_ret
    exact ⟨rfl, Below.refl _ _⟩
  · have h0 : 0 ≤ r := by omega
    have h3 : r ≤ 1114111 := by omega
    go_enter Tryd.func50, Tryd.ntmps50
    go_wp2
    go_ret
    exact ⟨rfl, Below.refl _ _⟩

theorem refPut_any (r : Int) (w : World) :
    Calls Tryd.prog 50 #[.int .i32 r] w fun e w' => e = .returned (.string (putB r)) ∧ Below w.heap.size w w' := by
  by_cases hv : 0 ≤ r ∧ r < 55296 ∨ 57343 < r ∧ r ≤ 1114111
  · by_cases h1 : r < 128
    · exact refPut_1 r w (by omega) h1
    by_cases h2 : r < 2048
    · exact refPut_2 r w (by omega) h2
    by_cases h3 : r < 55296
    · exact refPut_3a r w (by omega) h3
    by_cases h4 : r < 65536
    · exact refPut_3b r w (by omega) h4
    exact refPut_4 r w (by omega) (by omega)
  · rw [put_no r hv]
    exact refPut_no r w (by omega)

end Go.Proofs.YtdnldfgolbcjiaaDoor
