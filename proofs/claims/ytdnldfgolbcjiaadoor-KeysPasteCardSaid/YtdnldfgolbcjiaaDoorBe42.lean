/-
  limnerref02.among, Of: what each call returns: for every rune and every column.
-/
import Derived.Deep.DeepFit
import Derived.Test.YtdnldfgolbcjiaaDoorBe7
import Derived.Test.YtdnldfgolbcjiaaDoorBe36
namespace Go.Proofs.YtdnldfgolbcjiaaDoor
open Go.RowKit

theorem among_step (r : Int) (l : List Int) (j : Nat) (h : 2 * j + 1 < l.length) : amongB r (l.drop (2 * j)) = ((decide (l.getD (2 * j) 0 ≤ r) && decide (r ≤ l.getD (2 * j + 1) 0)) || amongB r (l.drop (2 * (j + 1)))) := by
  rw [List.drop_eq_getElem_cons (show 2 * j < l.length by omega), List.drop_eq_getElem_cons (show 2 * j + 1 < l.length by omega), amongB]
  simp [List.getD, List.getElem?_eq_getElem (show 2 * j < l.length by omega), List.getElem?_eq_getElem h, show 2 * (j + 1) = 2 * j + 1 + 1 by omega]

set_option maxHeartbeats 2000000 in
theorem among_any (r : Int) (g m : Nat) (l : List Int) (w : World) (hm : m ≤ 1000) (hl : l.length = 2 * m) (hc : ∀ k, k < 2 * m → w.cell? ⟨g, k, none⟩ = some (.int .i32 (l.getD k 0))) (n : Nat) (hn : n = 2 * m) :
    Calls Tryd.prog 51 #[.int .i32 r, .slice (some ⟨g, 0, none⟩) n n] w fun e w' => e = .returned (.bool (amongB r l)) ∧ w' = w := by
  have HC := Lib.hid hc
  have HS := Lib.hid (fun j h => among_step r l j h)
  have HA : Hid (amongB r (l.drop (2 * 0)) = amongB r l) := rfl
  have HL := Lib.hid hl
  obtain ⟨A, hA⟩ : ∃ A, amongB r l = A := ⟨_, rfl⟩
  rw [hA] at HA
  rw [hA]
  clear hc hl hA
  obtain ⟨n, rfl⟩ : ∃ n', n = n' := ⟨_, rfl⟩
  have hn1 := Nat.le_of_eq hn
  have hn2 := Nat.le_of_eq hn.symm
  clear hn
  go_enter Tryd.func51, Tryd.ntmps51
  go_wp2
  go_loop [5] (fun i => ∃ j : Nat, i = .int .i64 ((2 * j : Nat) : Int) ∧ j ≤ m ∧ Hid (amongB r (l.drop (2 * j)) = A)) (fun i => n - (intOf i).toNat)
  case atStart => exact ⟨0, rfl, by omega, HA⟩
  case round =>
    obtain ⟨j, rfl, hj, HR⟩ := hrel
    by_cases hp : j < m
    · have c0 : w.cell? ⟨g, 2 * j, none⟩ = some (.int .i32 (l.getD (2 * j) 0)) := HC.out _ (by omega)
      have c1 : w.cell? ⟨g, 2 * j + 1, none⟩ = some (.int .i32 (l.getD (2 * j + 1) 0)) := HC.out _ (by omega)
      have hs := HS.out j (by rw [HL.out]; omega)
      rw [HR.out] at hs
      obtain ⟨x, hx⟩ : ∃ x, l.getD (2 * j) 0 = x := ⟨_, rfl⟩
      obtain ⟨y, hy⟩ : ∃ y, l.getD (2 * j + 1) 0 = y := ⟨_, rfl⟩
      rw [hx] at c0 hs
      rw [hy] at c1 hs
      obtain ⟨k, hk⟩ : ∃ k, 2 * j = k := ⟨_, rfl⟩
      have hk1 := Nat.le_of_eq hk
      have hk2 := Nat.le_of_eq hk.symm
      have HK := Lib.hid hk
      rw [hk] at c0 c1
      rw [hk]
      clear hx hy hk HR
      by_cases h1 : x ≤ r
      · by_cases h2 : r ≤ y
        · rw [decide_eq_true h1, decide_eq_true h2] at hs
          have HE : Hid (A = true) := hs
          clear hs
          go_wp2
          go_ret
          exact ⟨by rw [HE.out]; rfl, rfl⟩
        · rw [decide_eq_false h2, Bool.and_false, Bool.false_or] at hs
          have HE := Lib.hid hs.symm
          have h2' : y < r := by omega
          clear hs h2
          go_wp2
          go_round
          case rel => exact ⟨j + 1, by rw [show 2 * (j + 1) = k + 2 by omega]; go_num, by omega, HE⟩
          case measure => simp [intOf]; omega
      · rw [decide_eq_false h1, Bool.false_and, Bool.false_or] at hs
        have HE := Lib.hid hs.symm
        have h1' : r < x := by omega
        clear hs h1
        go_wp2
        go_round
        case rel => exact ⟨j + 1, by rw [show 2 * (j + 1) = k + 2 by omega]; go_num, by omega, HE⟩
        case measure => simp [intOf]; omega
    · obtain rfl : j = m := by omega
      have HE : Hid (A = false) := by
        have := HR.out
        rw [List.drop_of_length_le (by rw [HL.out]; exact Nat.le_refl _)] at this
        exact this.symm
      clear HR
      go_wp2
      go_ret
      exact ⟨by rw [HE.out]; rfl, rfl⟩

theorem cells_row (w : World) (l : List Int) (t : TypeId) (k : Nat) (h : k < l.length) : (w.alloc (.cells (l.map (Value.int .i32)).toArray t)).cell? ⟨w.heap.size, k, none⟩ = some (.int .i32 (l.getD k 0)) := by
  rw [cell_of_row _ _ _ _ _ _ (heap_alloc_new w _)]
  simp [List.getD, List.getElem?_map, List.getElem?_eq_getElem h]

def hidT : List Int := [127, 159, 768, 879, 8203, 8207, 8232, 8238, 65024, 65039, 65279, 65279]
theorem hidT_cells (w : World) (k : Nat) (h : k < 2 * 6) : (w.alloc (.cells #[.int .i32 127, .int .i32 159, .int .i32 768, .int .i32 879, .int .i32 8203, .int .i32 8207, .int .i32 8232, .int .i32 8238, .int .i32 65024, .int .i32 65039, .int .i32 65279, .int .i32 65279] 21)).cell? ⟨w.heap.size, k, none⟩ = some (.int .i32 (hidT.getD k 0)) :=
  cells_row w hidT 21 k h
theorem widF_cells (w : World) (k : Nat) (h : k < 2 * 14) : (w.alloc (.cells #[.int .i32 4352, .int .i32 4447, .int .i32 11904, .int .i32 12350, .int .i32 12353, .int .i32 13311, .int .i32 13312, .int .i32 19903, .int .i32 19968, .int .i32 40959, .int .i32 40960, .int .i32 42191, .int .i32 44032, .int .i32 55203, .int .i32 63744, .int .i32 64255, .int .i32 65072, .int .i32 65135, .int .i32 65281, .int .i32 65376, .int .i32 65504, .int .i32 65510, .int .i32 127744, .int .i32 128591, .int .i32 129280, .int .i32 129535, .int .i32 131072, .int .i32 262141] 21)).cell? ⟨w.heap.size, k, none⟩ = some (.int .i32 (widF.getD k 0)) :=
  cells_row w widF 21 k h

set_option maxRecDepth 100000 in
set_option maxHeartbeats 2000000 in
theorem refOf_any (r : Int) (w : World) :
    Calls Tryd.prog 39 #[.int .i32 r] w fun e w' => e = .returned (.int .i64 (ofN r : Int)) ∧ Below w.heap.size w w' := by
  have hp := fun w => refPut_any r w
  have hb := hid_ref r
  have he := put_none r
  have hT := fun w => among_any r w.heap.size 6 hidT (w.alloc _) (by omega) rfl (fun k hk => hidT_cells w k hk) 12 rfl
  have hW := fun (w : World) (g : Nat) (hg : w.heap.size = g) => among_any r g 14 widF (w.alloc _) (by omega) rfl (fun k hk => hg ▸ widF_cells w k hk) 28 rfl
  rw [show hidF.drop 2 = hidT from rfl] at hb
  obtain ⟨Z, hZ⟩ : ∃ Z, putB r = Z := ⟨_, rfl⟩
  rw [hZ] at hp he
  have HP := Lib.hid hp
  clear hp hZ
  have hof : ofN r = if hidB r then 0 else if amongB r widF then 2 else 1 := rfl
  obtain ⟨O, hO⟩ : ∃ O, ofN r = O := ⟨_, rfl⟩
  obtain ⟨A, hA⟩ : ∃ A, amongB r hidT = A := ⟨_, rfl⟩
  obtain ⟨B, hB⟩ : ∃ B, amongB r widF = B := ⟨_, rfl⟩
  rw [hO]
  rw [hO, hB] at hof
  rw [hA] at hb hT
  rw [hB] at hW
  clear hO hA hB
  have HT := Lib.hid hT
  have HW := Lib.hid hW
  clear hT hW
  cases hv : Lib.validRune r
  · rw [hv] at hb he
    have HB : Hid (O = 0) := by show _ = _; rw [hof, hb]; rfl
    clear hb hv hof
    go_enter Tryd.func39, Tryd.ntmps39
    go_wp2_with fail
    refine (HP.out _).mono ?_
    rintro e w1 ⟨rfl, hb1⟩
    go_wp2_with fail
    go_ret
    exact ⟨by rw [HB.out]; rfl, hb1⟩
  rw [hv] at hb he
  rw [Bool.not_true, Bool.false_or] at hb
  rw [Bool.not_true] at he
  clear hv
  by_cases h32 : r < 32
  · rw [decide_eq_true h32, Bool.true_or] at hb
    have HB : Hid (O = 0) := by show _ = _; rw [hof, hb]; rfl
    clear hb hof
    go_enter Tryd.func39, Tryd.ntmps39
    go_wp2_with fail
    refine (HP.out _).mono ?_
    rintro e w1 ⟨rfl, hb1⟩
    go_wp2_with fail
    go_ret
    exact ⟨by rw [HB.out]; rfl, hb1⟩
  rw [decide_eq_false h32, Bool.false_or] at hb
  have h32' : 32 ≤ r := by omega
  clear h32
  rw [hb] at hof
  clear hb
  cases A
  · cases B
    all_goals
      have HB := Lib.hid hof
      clear hof
      go_enter Tryd.func39, Tryd.ntmps39
      go_wp2_with fail
      refine (HP.out _).mono ?_
      rintro e w1 ⟨rfl, hb1⟩
      go_wp2_with fail
      go_fit (HT.out _)
      rintro e w2 ⟨rfl, rfl⟩
      go_wp2_with fail
      go_fit (HW.out _ (w1.heap.size + 1) (size_alloc _ _))
      rintro e w3 ⟨rfl, rfl⟩
      go_wp2_with fail
      go_ret
      exact ⟨by rw [HB.out]; rfl, (hb1.alloc hb1.size _).alloc (by simp; have := hb1.size; omega) _⟩
  · have HB := Lib.hid hof
    clear hof
    go_enter Tryd.func39, Tryd.ntmps39
    go_wp2_with fail
    refine (HP.out _).mono ?_
    rintro e w1 ⟨rfl, hb1⟩
    go_wp2_with fail
    go_fit (HT.out _)
    rintro e w2 ⟨rfl, rfl⟩
    go_wp2_with fail
    go_ret
    exact ⟨by rw [HB.out]; rfl, hb1.alloc hb1.size _⟩
end Go.Proofs.YtdnldfgolbcjiaaDoor
