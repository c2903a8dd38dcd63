/-
  Texts of this proof, one behind the other; each begins with its own remark.
-/
import Derived.Deep.DeepFit
import Derived.Test.YtpkjaallhhjleaaGreatDoorBe2
import Derived.Test.YtpkjaallhhjleaaGreatDoorBe4
import Derived.Test.YtpkjaallhhjleaaGreatDoorBe1
/-
  limnerref01.Put: what it returns: for every number.
-/
namespace Go.Proofs.YtpkjaallhhjleaaGreatDoor
open Go.RowKit

theorem conv_new (xs : List Int) (w : World) :
    (convert 102 9 (.slice (some ⟨w.heap.size, 0, none⟩) xs.length xs.length)).run Tryz.prog (w.alloc (.cells (xs.map (Value.int .u8)).toArray 5)) = .ok (.string (strOfNums xs)) (w.alloc (.cells (xs.map (Value.int .u8)).toArray 5)) :=
  run_convert_bytes_arg (P := Tryz.prog) _ 102 5 Tryz.underlying102 Tryz.underlying5 w.heap.size 0 xs.length xs.length xs rfl
    (fun i hi => by rw [cell_of_row _ _ _ (xs.map (Value.int .u8)).toArray 5 (0, 0) (heap_alloc_new w _)]; simp [List.getD, List.getElem?_map, List.getElem?_eq_getElem hi]) 9 Tryz.underlying9

set_option maxHeartbeats 1000000 in
theorem refPut_1 (r : Int) (w : World) (h0 : 0 ≤ r) (h1 : r < 128) :
    Calls Tryz.prog 99 #[.int .i32 r] w fun e w' => e = .returned (.string (putB r)) ∧ Below w.heap.size w w' := by
  have H := Lib.hid (put1 r h0 h1)
  have c1 := fun a => conv_new [a] w
  simp only [List.map_cons, List.map_nil, List.length_cons, List.length_nil] at c1
  go_enter Tryz.func99, Tryz.ntmps99
  go_wp2
  go_ret
  exact ⟨by rw [← H.out]; rfl, (Below.refl _ _).alloc (Nat.le_refl _) _⟩

set_option maxHeartbeats 1000000 in
theorem refPut_2 (r : Int) (w : World) (h0 : 128 ≤ r) (h1 : r < 2048) :
    Calls Tryz.prog 99 #[.int .i32 r] w fun e w' => e = .returned (.string (putB r)) ∧ Below w.heap.size w w' := by
  have H := Lib.hid (put2 r h0 h1)
  have cv := fun a b => conv_new [a, b] w
  simp only [List.map_cons, List.map_nil, List.length_cons, List.length_nil] at cv
  go_enter Tryz.func99, Tryz.ntmps99
  go_wp2
  go_ret
  exact ⟨by rw [← H.out]; rfl, (Below.refl _ _).alloc (Nat.le_refl _) _⟩

set_option maxHeartbeats 1000000 in
theorem refPut_3a (r : Int) (w : World) (h0 : 2048 ≤ r) (h1 : r < 55296) :
    Calls Tryz.prog 99 #[.int .i32 r] w fun e w' => e = .returned (.string (putB r)) ∧ Below w.heap.size w w' := by
  have H := Lib.hid (put3 r h0 (by omega) (.inl h1))
  have cv := fun a b c => conv_new [a, b, c] w
  simp only [List.map_cons, List.map_nil, List.length_cons, List.length_nil] at cv
  go_enter Tryz.func99, Tryz.ntmps99
  go_wp2
  go_ret
  exact ⟨by rw [← H.out]; rfl, (Below.refl _ _).alloc (Nat.le_refl _) _⟩

set_option maxHeartbeats 1000000 in
theorem refPut_3b (r : Int) (w : World) (h0 : 57343 < r) (h1 : r < 65536) :
    Calls Tryz.prog 99 #[.int .i32 r] w fun e w' => e = .returned (.string (putB r)) ∧ Below w.heap.size w w' := by
  have H := Lib.hid (put3 r (by omega) h1 (.inr (by omega)))
  have cv := fun a b c => conv_new [a, b, c] w
  simp only [List.map_cons, List.map_nil, List.length_cons, List.length_nil] at cv
  go_enter Tryz.func99, Tryz.ntmps99
  go_wp2
  go_ret
  exact ⟨by rw [← H.out]; rfl, (Below.refl _ _).alloc (Nat.le_refl _) _⟩

set_option maxHeartbeats 1000000 in
theorem refPut_4 (r : Int) (w : World) (h0 : 65536 ≤ r) (h1 : r ≤ 1114111) :
    Calls Tryz.prog 99 #[.int .i32 r] w fun e w' => e = .returned (.string (putB r)) ∧ Below w.heap.size w w' := by
  have H := Lib.hid (put4 r h0 h1)
  have cv := fun a b c d => conv_new [a, b, c, d] w
  simp only [List.map_cons, List.map_nil, List.length_cons, List.length_nil] at cv
  go_enter Tryz.func99, Tryz.ntmps99
  go_wp2
  go_ret
  exact ⟨by rw [← H.out]; rfl, (Below.refl _ _).alloc (Nat.le_refl _) _⟩

set_option maxHeartbeats 1000000 in
theorem refPut_no (r : Int) (w : World) (h : r < 0 ∨ 1114111 < r ∨ (55296 ≤ r ∧ r ≤ 57343)) :
    Calls Tryz.prog 99 #[.int .i32 r] w fun e w' => e = .returned (.string ⟨#[]⟩) ∧ Below w.heap.size w w' := by
  rcases h with h | h | ⟨h, h2⟩
  · go_enter Tryz.func99, Tryz.ntmps99
    go_wp2
    go_ret
    exact ⟨rfl, Below.refl _ _⟩
  · have h0 : 0 ≤ r := by omega
    go_enter Tryz.func99, Tryz.ntmps99
    go_wp2
    go_ret
    exact ⟨rfl, Below.refl _ _⟩
  · have h0 : 0 ≤ r := by omega
    have h3 : r ≤ 1114111 := by omega
    go_enter Tryz.func99, Tryz.ntmps99
    go_wp2
    go_ret
    exact ⟨rfl, Below.refl _ _⟩

theorem refPut_any (r : Int) (w : World) :
    Calls Tryz.prog 99 #[.int .i32 r] w fun e w' => e = .returned (.string (putB r)) ∧ Below w.heap.size w w' := by
  by_cases hv : 0 ≤ r ∧ r < 55296 ∨ 57343 < r ∧ r ≤ 1114111
  · by_cases h1 : r < 128
    · exact refPut_1 r w (by omega) h1
    by_cases h2 : r < 2048
    · exact refPut_2 r w (by omega) h2
    by_cases h3 : r < 55296
    · exact refPut_3a r w (by omega) h3
    by_cases h4 : r < 65536
    · exact refPut_3b r w (by omega) h4
    exact refPut_4 r w (by omega) (by omega)
  · rw [put_no r hv]
    exact refPut_no r w (by omega)

end Go.Proofs.YtpkjaallhhjleaaGreatDoor

/-
  limnerref02.among, Of: what each call returns: for every rune and every column.
-/
namespace Go.Proofs.YtpkjaallhhjleaaGreatDoor
open Go.RowKit

theorem among_step (r : Int) (l : List Int) (j : Nat) (h : 2 * j + 1 < l.length) : amongB r (l.drop (2 * j)) = ((decide (l.getD (2 * j) 0 ≤ r) && decide (r ≤ l.getD (2 * j + 1) 0)) || amongB r (l.drop (2 * (j + 1)))) := by
  rw [List.drop_eq_getElem_cons (show 2 * j < l.length by omega), List.drop_eq_getElem_cons (show 2 * j + 1 < l.length by omega), amongB]
  simp [List.getD, List.getElem?_eq_getElem (show 2 * j < l.length by omega), List.getElem?_eq_getElem h, show 2 * (j + 1) = 2 * j + 1 + 1 by omega]

set_option maxHeartbeats 2000000 in
theorem among_any (r : Int) (g m : Nat) (l : List Int) (w : World) (hm : m ≤ 1000) (hl : l.length = 2 * m) (hc : ∀ k, k < 2 * m → w.cell? ⟨g, k, none⟩ = some (.int .i32 (l.getD k 0))) (n : Nat) (hn : n = 2 * m) :
    Calls Tryz.prog 100 #[.int .i32 r, .slice (some ⟨g, 0, none⟩) n n] w fun e w' => e = .returned (.bool (amongB r l)) ∧ w' = w := by
  have HC := Lib.hid hc
  have HS := Lib.hid (fun j h => among_step r l j h)
  have HA : Hid (amongB r (l.drop (2 * 0)) = amongB r l) := rfl
  have HL := Lib.hid hl
  obtain ⟨A, hA⟩ : ∃ A, amongB r l = A := ⟨_, rfl⟩
  rw [hA] at HA
  rw [hA]
  clear hc hl hA
  obtain ⟨n, rfl⟩ : ∃ n', n = n' := ⟨_, rfl⟩
  have hn1 := Nat.le_of_eq hn
  have hn2 := Nat.le_of_eq hn.symm
  clear hn
  go_enter Tryz.func100, Tryz.ntmps100
  go_wp2
  go_loop [5] (fun i => ∃ j : Nat, i = .int .i64 ((2 * j : Nat) : Int) ∧ j ≤ m ∧ Hid (amongB r (l.drop (2 * j)) = A)) (fun i => n - (intOf i).toNat)
  case atStart => exact ⟨0, rfl, by omega, HA⟩
  case round =>
    obtain ⟨j, rfl, hj, HR⟩ := hrel
    by_cases hp : j < m
    · have c0 : w.cell? ⟨g, 2 * j, none⟩ = some (.int .i32 (l.getD (2 * j) 0)) := HC.out _ (by omega)
      have c1 : w.cell? ⟨g, 2 * j + 1, none⟩ = some (.int .i32 (l.getD (2 * j + 1) 0)) := HC.out _ (by omega)
      have hs := HS.out j (by rw [HL.out]; omega)
      rw [HR.out] at hs
      obtain ⟨x, hx⟩ : ∃ x, l.getD (2 * j) 0 = x := ⟨_, rfl⟩
      obtain ⟨y, hy⟩ : ∃ y, l.getD (2 * j + 1) 0 = y := ⟨_, rfl⟩
      rw [hx] at c0 hs
      rw [hy] at c1 hs
      obtain ⟨k, hk⟩ : ∃ k, 2 * j = k := ⟨_, rfl⟩
      have hk1 := Nat.le_of_eq hk
      have hk2 := Nat.le_of_eq hk.symm
      have HK := Lib.hid hk
      rw [hk] at c0 c1
      rw [hk]
      clear hx hy hk HR
      by_cases h1 : x ≤ r
      · by_cases h2 : r ≤ y
        · rw [decide_eq_true h1, decide_eq_true h2] at hs
          have HE : Hid (A = true) := hs
          clear hs
          go_wp2
          go_ret
          exact ⟨by rw [HE.out]; rfl, rfl⟩
        · rw [decide_eq_false h2, Bool.and_false, Bool.false_or] at hs
          have HE := Lib.hid hs.symm
          have h2' : y < r := by omega
          clear hs h2
          go_wp2
          go_round
          case rel => exact ⟨j + 1, by rw [show 2 * (j + 1) = k + 2 by omega]; go_num, by omega, HE⟩
          case measure => simp [intOf]; omega
      · rw [decide_eq_false h1, Bool.false_and, Bool.false_or] at hs
        have HE := Lib.hid hs.symm
        have h1' : r < x := by omega
        clear hs h1
        go_wp2
        go_round
        case rel => exact ⟨j + 1, by rw [show 2 * (j + 1) = k + 2 by omega]; go_num, by omega, HE⟩
        case measure => simp [intOf]; omega
    · obtain rfl : j = m := by omega
      have HE : Hid (A = false) := by
        have := HR.out
        rw [List.drop_of_length_le (by rw [HL.out]; exact Nat.le_refl _)] at this
        exact this.symm
      clear HR
      go_wp2
      go_ret
      exact ⟨by rw [HE.out]; rfl, rfl⟩

theorem cells_row (w : World) (l : List Int) (t : TypeId) (k : Nat) (h : k < l.length) : (w.alloc (.cells (l.map (Value.int .i32)).toArray t)).cell? ⟨w.heap.size, k, none⟩ = some (.int .i32 (l.getD k 0)) := by
  rw [cell_of_row _ _ _ _ _ _ (heap_alloc_new w _)]
  simp [List.getD, List.getElem?_map, List.getElem?_eq_getElem h]

def hidT : List Int := [127, 159, 768, 879, 8203, 8207, 8232, 8238, 65024, 65039, 65279, 65279]
theorem hidT_cells (w : World) (k : Nat) (h : k < 2 * 6) : (w.alloc (.cells #[.int .i32 127, .int .i32 159, .int .i32 768, .int .i32 879, .int .i32 8203, .int .i32 8207, .int .i32 8232, .int .i32 8238, .int .i32 65024, .int .i32 65039, .int .i32 65279, .int .i32 65279] 21)).cell? ⟨w.heap.size, k, none⟩ = some (.int .i32 (hidT.getD k 0)) :=
  cells_row w hidT 21 k h
theorem widF_cells (w : World) (k : Nat) (h : k < 2 * 14) : (w.alloc (.cells #[.int .i32 4352, .int .i32 4447, .int .i32 11904, .int .i32 12350, .int .i32 12353, .int .i32 13311, .int .i32 13312, .int .i32 19903, .int .i32 19968, .int .i32 40959, .int .i32 40960, .int .i32 42191, .int .i32 44032, .int .i32 55203, .int .i32 63744, .int .i32 64255, .int .i32 65072, .int .i32 65135, .int .i32 65281, .int .i32 65376, .int .i32 65504, .int .i32 65510, .int .i32 127744, .int .i32 128591, .int .i32 129280, .int .i32 129535, .int .i32 131072, .int .i32 262141] 21)).cell? ⟨w.heap.size, k, none⟩ = some (.int .i32 (widF.getD k 0)) :=
  cells_row w widF 21 k h

set_option maxRecDepth 100000 in
set_option maxHeartbeats 2000000 in
theorem refOf_any (r : Int) (w : World) :
    Calls Tryz.prog 67 #[.int .i32 r] w fun e w' => e = .returned (.int .i64 (ofN r : Int)) ∧ Below w.heap.size w w' := by
  have hp := fun w => refPut_any r w
  have hb := hid_ref r
  have he := put_none r
  have hT := fun w => among_any r w.heap.size 6 hidT (w.alloc _) (by omega) rfl (fun k hk => hidT_cells w k hk) 12 rfl
  have hW := fun (w : World) (g : Nat) (hg : w.heap.size = g) => among_any r g 14 widF (w.alloc _) (by omega) rfl (fun k hk => hg ▸ widF_cells w k hk) 28 rfl
  rw [show hidF.drop 2 = hidT from rfl] at hb
  obtain ⟨Z, hZ⟩ : ∃ Z, putB r = Z := ⟨_, rfl⟩
  rw [hZ] at hp he
  have HP := Lib.hid hp
  clear hp hZ
  have hof : ofN r = if hidB r then 0 else if amongB r widF then 2 else 1 := rfl
  obtain ⟨O, hO⟩ : ∃ O, ofN r = O := ⟨_, rfl⟩
  obtain ⟨A, hA⟩ : ∃ A, amongB r hidT = A := ⟨_, rfl⟩
  obtain ⟨B, hB⟩ : ∃ B, amongB r widF = B := ⟨_, rfl⟩
  rw [hO]
  rw [hO, hB] at hof
  rw [hA] at hb hT
  rw [hB] at hW
  clear hO hA hB
  have HT := Lib.hid hT
  have HW := Lib.hid hW
  clear hT hW
  cases hv : Lib.validRune r
  · rw [hv] at hb he
    have HB : Hid (O = 0) := by show _ = _; rw [hof, hb]; rfl
    clear hb hv hof
    go_enter Tryz.func67, Tryz.ntmps67
    go_wp2_with fail
    refine (HP.out _).mono ?_
    rintro e w1 ⟨rfl, hb1⟩
    go_wp2_with fail
    go_ret
    exact ⟨by rw [HB.out]; rfl, hb1⟩
  rw [hv] at hb he
  rw [Bool.not_true, Bool.false_or] at hb
  rw [Bool.not_true] at he
  clear hv
  by_cases h32 : r < 32
  · rw [decide_eq_true h32, Bool.true_or] at hb
    have HB : Hid (O = 0) := by show _ = _; rw [hof, hb]; rfl
    clear hb hof
    go_enter Tryz.func67, Tryz.ntmps67
    go_wp2_with fail
    refine (HP.out _).mono ?_
    rintro e w1 ⟨rfl, hb1⟩
    go_wp2_with fail
    go_ret
    exact ⟨by rw [HB.out]; rfl, hb1⟩
  rw [decide_eq_false h32, Bool.false_or] at hb
  have h32' : 32 ≤ r := by omega
  clear h32
  rw [hb] at hof
  clear hb
  cases A
  · cases B
    all_goals
      have HB := Lib.hid hof
      clear hof
      go_enter Tryz.func67, Tryz.ntmps67
      go_wp2_with fail
      refine (HP.out _).mono ?_
      rintro e w1 ⟨rfl, hb1⟩
      go_wp2_with fail
      go_fit (HT.out _)
      rintro e w2 ⟨rfl, rfl⟩
      go_wp2_with fail
      go_fit (HW.out _ (w1.heap.size + 1) (size_alloc _ _))
      rintro e w3 ⟨rfl, rfl⟩
      go_wp2_with fail
      go_ret
      exact ⟨by rw [HB.out]; rfl, (hb1.alloc hb1.size _).alloc (by simp; have := hb1.size; omega) _⟩
  · have HB := Lib.hid hof
    clear hof
    go_enter Tryz.func67, Tryz.ntmps67
    go_wp2_with fail
    refine (HP.out _).mono ?_
    rintro e w1 ⟨rfl, hb1⟩
    go_wp2_with fail
    go_fit (HT.out _)
    rintro e w2 ⟨rfl, rfl⟩
    go_wp2_with fail
    go_ret
    exact ⟨by rw [HB.out]; rfl, hb1.alloc hb1.size _⟩
end Go.Proofs.YtpkjaallhhjleaaGreatDoor

/-
  limnerref01.Next: what it returns, for every text and every place.
-/
namespace Go.Proofs.YtpkjaallhhjleaaGreatDoor
open Go.RowKit

theorem accR_le (s : ByteArray) (k : Nat) (h : 2 ≤ bgN (bt s k)) : accR s k 0 ≤ 31 ∧ accR s k 1 ≤ 2047 ∧ accR s k 2 ≤ 131071 ∧ accR s k 3 ≤ 8388607 := by
  have h0 := bgR_le2 _ h
  unfold accR accR accR accR
  omega

theorem and63 : ∀ n : Fin 256, bits BinOp.and IntKind.u8 (n.val : Int) 63 = ((n.val % 64 : Nat) : Int) := by decide +kernel

theorem and63n (n : Nat) (h : n < 256) : bits BinOp.and IntKind.u8 (n : Int) 63 = ((n % 64 : Nat) : Int) := and63 ⟨n, h⟩

theorem ret_dec {s : ByteArray} {k R n : Nat} (h : Utf8.decode s k = (R, n)) (h2 : n = 1 → R < 128) : Ending.returned (.tuple #[.int .i32 (R : Int), .int .i64 (n : Int), .bool true]) = .returned (.tuple #[.int .i32 ((Utf8.decode s k).1 : Int), .int .i64 ((Utf8.decode s k).2 : Int), .bool (okAt s k)]) := by
  have : okAt s k = true := by
    unfold okAt
    rw [h, decide_eq_false (by intro e; have := h2 e.2; omega)]
    rfl
  rw [this, h]

theorem ret_bad {s : ByteArray} {k : Nat} (h : Utf8.decode s k = (65533, 1)) : Ending.returned (.tuple #[.int .i32 65533, .int .i64 1, .bool false]) = .returned (.tuple #[.int .i32 ((Utf8.decode s k).1 : Int), .int .i64 ((Utf8.decode s k).2 : Int), .bool (okAt s k)]) := by
  have : okAt s k = false := by
    unfold okAt
    rw [h]
    rfl
  rw [this, h]
  rfl

set_option maxHeartbeats 2000000 in
theorem refNext_in (s : ByteArray) (k : Nat) (w : World) (hk : k < s.size) (hs : s.size ≤ maxLen) :
    Calls Tryz.prog 63 #[.string s, .int .i64 (k : Int)] w fun e w' => e = .returned (.tuple #[.int .i32 ((Utf8.decode s k).1 : Int), .int .i64 ((Utf8.decode s k).2 : Int), .bool (okAt s k)]) ∧ Below w.heap.size w w' := by
  unfold maxLen at hs
  have hbt : (s[k].toNat : Int) = (bt s k : Int) := by unfold bt; rw [show s.get! k = s[k] from get_at s k hk]
  have hlt := bt_lt s k
  obtain ⟨ry, rn⟩ := read_both s k _ hk rfl
  obtain ⟨N, hN⟩ : ∃ N, bgN (bt s k) = N := ⟨_, rfl⟩
  have hN4 := bgN_le (bt s k)
  have hacc := accR_le s k
  rw [hN] at ry rn hN4 hacc
  have hB := fun w => begin_any (bt s k : Int) w (by omega) (by omega)
  rw [Int.toNat_natCast, hN] at hB
  have HB := Lib.hid hB
  have HBT := Lib.hid hbt
  have HACC := Lib.hid hacc
  have HY := Lib.hid ry
  have HN := Lib.hid rn
  have hR0 := bgR_le (bt s k)
  obtain ⟨R0, hR0e⟩ : ∃ R0, bgR (bt s k) = R0 := ⟨_, rfl⟩
  have HR0 := Lib.hid hR0e
  rw [hR0e] at HB hR0
  clear hB hbt hacc ry rn hN hR0e
  go_enter Tryz.func63, Tryz.ntmps63
  go_wp2_with fail
  rw [HBT.out]
  refine (HB.out _).mono ?_
  rintro e w1 ⟨rfl, rfl⟩
  go_wp2_with fail
  go_loop [8, 9] (fun r i => ∃ j : Nat, i = .int .i64 ((j : Int) + 1) ∧ r = .int .i32 (accR s k j : Int) ∧ (j = 0 ∨ (j + 1 ≤ N ∧ k + (j + 1) ≤ s.size)) ∧ j ≤ 3) (fun _ i => 4 - (intOf i).toNat)
  case atStart => exact ⟨0, rfl, by show _ = Value.int .i32 (bgR (bt s k) : Int); rw [HR0.out], .inl rfl, by omega⟩
  case round =>
    obtain ⟨j, rfl, rfl, hj, hj3⟩ := hrel
    by_cases hr : j + 1 < N ∧ k + (j + 1) < s.size
    · obtain ⟨hr1, hr2⟩ := hr
      have hle : accR s k j ≤ 131071 := by
        have := HACC.out (by omega)
        match j, hr1 with
        | 0, _ => omega
        | 1, _ => omega
        | 2, _ => omega
        | j + 3, h => omega
      obtain ⟨A, hA⟩ : ∃ A, accR s k j = A := ⟨_, rfl⟩
      rw [hA] at hle ⊢
      have HA := Lib.hid hA
      clear hA
      have hb1 : (s[k + (j + 1)].toNat : Int) = (bt s (k + (j + 1)) : Int) := by unfold bt; rw [show s.get! (k + (j + 1)) = s[k + (j + 1)] from get_at s (k + (j + 1)) hr2]
      have hl1 := bt_lt s (k + (j + 1))
      have HV : Hid (wrap32 ((A : Int) * 64 + wrap32 (bits BinOp.and IntKind.u8 (s[k + (j + 1)].toNat : Int) 63)) = (accR s k (j + 1) : Int)) := by
        show _ = _
        rw [hb1, and63n _ hl1, IntWalk.wrap32_in ((bt s (k + (j + 1)) % 64 : Nat) : Int) ⟨by omega, by omega⟩, IntWalk.wrap32_in _ ⟨by omega, by omega⟩]
        show _ = ((accR s k j * 64 + bt s (k + (j + 1)) % 64 : Nat) : Int)
        rw [HA.out]
        omega
      clear hb1 hl1
      go_wp2_with fail
      refine ⟨⟨j + 1, by rw [show ((j : Int) + 1 + 1) = (((j + 1 : Nat) : Int) + 1) by omega], by rw [HV.out], .inr ⟨by omega, by omega⟩, by omega⟩, by simp [intOf]; omega⟩
    · by_cases h0 : 0 < N ∧ k + N ≤ s.size
      · obtain ⟨h1, h2⟩ := h0
        have hjN : j = N - 1 := by omega
        have HP := Lib.hid (fun w => refPut_any (accR s k j : Int) w)
        by_cases he : putB (accR s k (N - 1) : Nat) = s.extract k (k + N)
        · have HD := Lib.hid (HY.out ⟨h1, h2, he⟩)
          rw [hjN, he] at HP
          clear HY HN HACC he
          go_wp2_with (go_at_call 99; refine (HP.out _).mono ?_; rintro e w' ⟨rfl, hb⟩)
          go_ret3
          exact ⟨(ret_dec HD.out.1 HD.out.2).symm ▸ rfl, hb⟩
        · have HD := Lib.hid (HN.out (fun h => he h.2.2))
          rw [← hjN] at he
          obtain ⟨Z, hZ⟩ : ∃ Z, putB (accR s k j : Nat) = Z := ⟨_, rfl⟩
          rw [hZ] at HP he
          have hq : (Z.toList == (s.extract k (k + N)).toList) = false := by
            rw [beq_eq_false_iff_ne]
            intro e
            rw [Lib.toList_data, Lib.toList_data] at e
            exact he (ByteArray.ext (Array.toList_inj.1 e))
          clear HY HN HACC hZ hjN he
          go_wp2_with (go_at_call 99; refine (HP.out _).mono ?_; rintro e w' ⟨rfl, hb⟩)
          go_ret3
          exact ⟨(ret_bad HD.out).symm ▸ rfl, hb⟩
      · have HD := Lib.hid (HN.out (fun h => h0 ⟨h.1, h.2.1⟩))
        have HP := Lib.hid (fun w => refPut_any (accR s k j : Int) w)
        clear HY HN HACC
        by_cases hN0 : N = 0
        · subst hN0
          go_wp2_with (go_at_call 99; refine (HP.out _).mono ?_; rintro e w' ⟨rfl, hb⟩)
          go_ret3
          exact ⟨(ret_bad HD.out).symm ▸ rfl, hb⟩
        · have hN1 : 0 < N := by omega
          have hN2 : s.size < k + N := by omega
          go_wp2_with (go_at_call 99; refine (HP.out _).mono ?_; rintro e w' ⟨rfl, hb⟩)
          go_ret3
          exact ⟨(ret_bad HD.out).symm ▸ rfl, hb⟩

set_option maxHeartbeats 1000000 in
theorem refNext_out (s : ByteArray) (at' : Int) (w : World) (h : at' < 0 ∨ (s.size : Int) ≤ at') :
    Calls Tryz.prog 63 #[.string s, .int .i64 at'] w fun e w' => e = .returned (.tuple #[.int .i32 0, .int .i64 0, .bool false]) ∧ w' = w := by
  by_cases h0 : at' < 0
  · go_enter Tryz.func63, Tryz.ntmps63
    go_wp2
    go_ret3
    exact ⟨rfl, rfl⟩
  · have h1 : (s.size : Int) ≤ at' := by omega
    go_enter Tryz.func63, Tryz.ntmps63
    go_wp2
    go_ret3
    exact ⟨rfl, rfl⟩

end Go.Proofs.YtpkjaallhhjleaaGreatDoor

/-
  limnerref02.Shown: what it returns: for every rune.
-/
namespace Go.Proofs.YtpkjaallhhjleaaGreatDoor
open Go.RowKit

set_option maxHeartbeats 1000000 in
theorem refShown_any (r : Int) (w : World) :
    Calls Tryz.prog 33 #[.int .i32 r] w fun e w' => e = .returned (.int .i32 (shI r)) ∧ Below w.heap.size w w' := by
  have h := fun w => refOf_any r w
  unfold shI
  unfold ofN at h
  cases hh : hidB r
  · rw [hh] at h
    cases hB : amongB r widF
    all_goals
      rw [hB] at h
      have H := Lib.hid h
      clear h hh hB
      go_enter Tryz.func33, Tryz.ntmps33
      go_wp2_with fail
      refine (H.out _).mono ?_
      rintro e w1 ⟨rfl, hb1⟩
      go_wp2_with fail
      go_ret
      exact ⟨rfl, hb1⟩
  · rw [hh] at h
    have H := Lib.hid h
    clear h hh
    go_enter Tryz.func33, Tryz.ntmps33
    go_wp2_with fail
    refine (H.out _).mono ?_
    rintro e w1 ⟨rfl, hb1⟩
    go_wp2_with fail
    go_ret
    exact ⟨rfl, hb1⟩
end Go.Proofs.YtpkjaallhhjleaaGreatDoor
