/-
  codes.Starts, codes.Back and the comparison of two lists: what each call returns and what it leaves of memory. Condition: a text of at most a million bytes.
-/
import Derived.Test.YtfnpngffdjjpbaaCodes
namespace Go.Proofs.Ytfnpngffdjjpbaa
open Go.RowKit

theorem Try.infoInt : (Try.prog.info? 3).map (fun i => (i.zero, i.size, i.bytes)) = some (some (.int .i64 0), 1, 8) := by kernel_rfl

def ints (l : List Nat) : List Value := l.map fun (k : Nat) => .int .i64 (k : Int)

set_option maxHeartbeats 1000000 in
theorem starts_any (s : ByteArray) (w : World) (hs : s.size ≤ 1000000) :
    Calls Try.prog 16 #[.string s] w fun e w' => ∃ v, e = .returned v ∧ w'.ownsRow (w.heap.size + 1) 3 1 v (stA s).length (ints (stA s)) ∧ Below w.heap.size w w' := by
  have hlen := stA_length s
  obtain ⟨i0, hi, hz0, hz1, hz2⟩ := info_parts Try.infoInt
  go_enter Try.func16, Try.ntmps16
  go_wp2
  go_loopw [3] (fun v wr => ∃ (pos f : Nat) (acc : List Nat), wr.heap[w.heap.size]? = some (.stringIter s pos) ∧ Below w.heap.size w wr ∧ wr.ownsRow (w.heap.size + 1) 3 1 v acc.length (ints acc) ∧ Hid (acc ++ stL s f pos = stA s) ∧ s.size ≤ pos + f ∧ pos ≤ s.size ∧ acc.length ≤ pos) (fun _ wr => s.size - wr.iterPos w.heap.size)
  case atStart => exact ⟨0, s.size, [], World.iter_heap w s 0, (Below.refl _ _).alloc (Nat.le_refl _) _, World.ownsRow_nil _ _ _ _, rfl, by omega, Nat.zero_le _, Nat.le_refl _⟩
  case round =>
    obtain ⟨pos, f, acc, hit, hbw, hown, HS, hf, hps, hn⟩ := hrel
    have hpos0 := iterPos_of hit
    by_cases hp : pos < s.size
    · have hnx : ∀ ty, (Instr.next (.pointer (some ⟨w.heap.size, 0, none⟩)) true ty).run Try.prog wr = _ := fun ty => Lib.run_next_any_at wr w.heap.size s pos ty hit hp
      obtain ⟨f, rfl⟩ : ∃ f', f = f' + 1 := ⟨f - 1, by omega⟩
      obtain ⟨hw1, hw2⟩ := decW s pos hp
      have hst := stL_step s f pos hp
      have hit2 := Lib.iterAt_heap wr w.heap.size s pos (pos + (Utf8.decode s pos).2) hit
      have hbw2 := Lib.below_iterAt hbw (k := w.heap.size) (Nat.le_refl _) s (pos + (Utf8.decode s pos).2)
      have hown2 := ownsRow_iterAt hown (k := w.heap.size) (by omega) s (pos + (Utf8.decode s pos).2)
      have HS2 : Hid (acc ++ [pos] ++ stL s f (pos + (Utf8.decode s pos).2) = stA s) := by
        show _ = _; rw [← HS.out, hst, List.append_assoc]; rfl
      obtain ⟨W1, hW1⟩ : ∃ W1, W1 = wr.iterAt w.heap.size s (pos + (Utf8.decode s pos).2) := ⟨_, rfl⟩
      rw [← hW1] at hnx hit2 hbw2 hown2
      have hBlt := lt_of_block hit2
      clear hW1 hit hbw hst HS hown
      go_wp2_with (at_builtin; (refine wpList_append_own _ rfl _ _ 26 rfl (w.heap.size + 1) 3 i0 (.int .i64 0) 1 8 Try.underlying26 hi hz0 hz1 hz2 rfl (by decide) _ _ _ rfl (hown2.alloc _) ⟨W1.heap.size, 0, none⟩ 1 1 [.int .i64 (pos : Int)] rfl rfl (cell_one_new _ _ _) (fun x hx => by simp at hx; subst hx; rfl) (by unfold maxLen; omega) (by omega) (by simp; omega) ?_; intro v' w3 hown' hgrow3 hnil3))
      have hit3 : w3.heap[w.heap.size]? = some (.stringIter s (pos + (Utf8.decode s pos).2)) := by
        rw [hgrow3.block w.heap.size (by simp; omega) (fun h => by have := (hown2.lt _ h.symm).1; omega), Below.heap_alloc _ _ _ hBlt]; exact hit2
      have hbw3 : Below w.heap.size w w3 := Below.grown (hbw2.alloc (by omega) _) hgrow3 (by simp; omega) (fun j hj => by have := (hown2.lt _ hj).1; omega)
      have hown3 : w3.ownsRow (w.heap.size + 1) 3 1 v' (acc ++ [pos]).length (ints (acc ++ [pos])) := by
        unfold ints; rw [List.length_append, List.map_append]; exact hown'
      go_roundw
      case rel => exact ⟨_, f, acc ++ [pos], hit3, hbw3, hown3, HS2, by omega, by omega, by simp; omega⟩
      case measure => rw [iterPos_of hit3, hpos0]; omega
    · have hnx : ∀ ty, (Instr.next (.pointer (some ⟨w.heap.size, 0, none⟩)) true ty).run Try.prog wr = _ := fun ty => Lib.run_next_end_at wr w.heap.size s pos ty hit hp
      have HE : Hid (acc = stA s) := by
        have := HS.out
        rw [stL_end s _ _ hp, List.append_nil] at this
        exact this
      clear hit HS
      go_wp2
      go_ret
      exact ⟨_, rfl, by rw [← HE.out]; exact hown, hbw⟩

/-- The last of the places from p on. -/
def lastL (s : ByteArray) : Nat → Nat → Nat → Nat
  | 0, _, a => a
  | f + 1, p, a => if p < s.size then lastL s f (p + (Utf8.decode s p).2) p else a
theorem lastL_end (s : ByteArray) (f p a : Nat) (h : ¬ p < s.size) : lastL s f p a = a := by
  cases f with
  | zero => rfl
  | succ f => simp [lastL, h]
theorem lastL_step (s : ByteArray) (f p a : Nat) (h : p < s.size) : lastL s (f + 1) p a = lastL s f (p + (Utf8.decode s p).2) p := by simp [lastL, h]
theorem lastL_lt (s : ByteArray) : ∀ f p a, a < s.size → lastL s f p a < s.size
  | 0, p, a, h => h
  | f + 1, p, a, h => by
    by_cases hp : p < s.size
    · rw [lastL_step s f p a hp]; exact lastL_lt s f _ _ hp
    · rw [lastL_end s _ p a hp]; exact h
def lastA (s : ByteArray) : Nat := lastL s s.size 0 0
theorem lastA_lt (s : ByteArray) (h : 0 < s.size) : lastA s < s.size := lastL_lt s _ _ _ h

set_option maxHeartbeats 1000000 in
theorem back_in (s : ByteArray) (k : Nat) (w : World) (h0 : 0 < k) (h1 : k ≤ s.size) (hs : s.size ≤ maxLen) (T : ByteArray) (hT : T = s.extract (k - 4) k) :
    Calls Try.prog 12 #[.string s, .int .i64 (k : Int)] w fun e w' => e = .returned (.tuple #[.int .i32 ((Utf8.decode T (lastA T)).1 : Int), .int .i64 ((Utf8.decode T (lastA T)).2 : Int), .bool (okAt T (lastA T))]) ∧ Below w.heap.size w w' := by
  have hTs : T.size ≤ 4 ∧ 0 < T.size := by
    subst hT
    rw [Lib.size_eq, Lib.extract_data, List.length_take, List.length_drop, ← Lib.size_eq]
    omega
  obtain ⟨ht4, ht0⟩ := hTs
  have hmx : T.size ≤ maxLen := by unfold maxLen; omega
  have hla := lastA_lt T ht0
  have hN := fun w => next_in T (lastA T : Int) w (by omega) (by omega) hmx
  rw [Int.toNat_natCast] at hN
  have HN := Lib.hid hN
  clear hN
  unfold maxLen at hs
  have HLA : Hid (lastL T T.size 0 0 = lastA T) := rfl
  obtain ⟨L, hL⟩ : ∃ L, lastA T = L := ⟨_, rfl⟩
  rw [hL] at HN HLA hla
  rw [hL]
  clear hL
  by_cases h4 : (4 : Int) < (k : Int)
  all_goals
    have hx : s.extract ((k : Int) - 4).toNat k = T := by rw [hT]; congr 1; omega
    have hx0 : ¬ (4 : Int) < (k : Int) → s.extract 0 k = T := by intro h; rw [hT]; congr 1; omega
    try rw [show ((k : Int) - 4).toNat = 0 by omega] at hx
    clear hT
    go_enter Try.func12, Try.ntmps12
    go_wp2
    go_loopw [8] (fun v wr => ∃ (pos f a : Nat), wr.heap[w.heap.size]? = some (.stringIter T pos) ∧ Below w.heap.size w wr ∧ v = .int .i64 (a : Int) ∧ Hid (lastL T f pos a = L) ∧ T.size ≤ pos + f ∧ pos ≤ T.size) (fun _ wr => T.size - wr.iterPos w.heap.size)
    case atStart => exact ⟨0, T.size, 0, World.iter_heap w T 0, (Below.refl _ _).alloc (Nat.le_refl _) _, rfl, HLA, by omega, Nat.zero_le _⟩
    case round =>
      obtain ⟨pos, f, a, hit, hbw, rfl, HS, hf, hps⟩ := hrel
      have hpos0 := iterPos_of hit
      by_cases hp : pos < T.size
      · have hnx : ∀ ty, (Instr.next (.pointer (some ⟨w.heap.size, 0, none⟩)) true ty).run Try.prog wr = _ := fun ty => Lib.run_next_any_at wr w.heap.size T pos ty hit hp
        obtain ⟨f, rfl⟩ : ∃ f', f = f' + 1 := ⟨f - 1, by omega⟩
        obtain ⟨hw1, hw2⟩ := decW T pos hp
        have hit2 := Lib.iterAt_heap wr w.heap.size T pos (pos + (Utf8.decode T pos).2) hit
        have hbw2 := Lib.below_iterAt hbw (k := w.heap.size) (Nat.le_refl _) T (pos + (Utf8.decode T pos).2)
        have HS2 : Hid (lastL T f (pos + (Utf8.decode T pos).2) pos = L) := by
          show _ = _; rw [← HS.out, lastL_step T f pos a hp]
        obtain ⟨W1, hW1⟩ : ∃ W1, W1 = wr.iterAt w.heap.size T (pos + (Utf8.decode T pos).2) := ⟨_, rfl⟩
        rw [← hW1] at hnx hit2 hbw2
        clear hW1 hit hbw HS
        go_wp2
        go_roundw
        case rel => exact ⟨_, f, pos, hit2, hbw2, rfl, HS2, by omega, by omega⟩
        case measure => rw [iterPos_of hit2, hpos0]; omega
      · have hnx : ∀ ty, (Instr.next (.pointer (some ⟨w.heap.size, 0, none⟩)) true ty).run Try.prog wr = _ := fun ty => Lib.run_next_end_at wr w.heap.size T pos ty hit hp
        obtain rfl : a = L := by
          have := HS.out
          rw [lastL_end T _ _ _ hp] at this
          exact this
        clear hit HS
        go_wp2_with (go_at_call 10; refine (HN.out _).mono ?_; rintro e w' ⟨rfl, hb⟩)
        go_ret3
        exact ⟨rfl, hbw.trans (hb.mono hbw.size)⟩

set_option maxHeartbeats 1000000 in
theorem back_out (s : ByteArray) (at' : Int) (w : World) (h : at' ≤ 0 ∨ (s.size : Int) < at') :
    Calls Try.prog 12 #[.string s, .int .i64 at'] w fun e w' => e = .returned (.tuple #[.int .i32 0, .int .i64 0, .bool false]) ∧ w' = w := by
  by_cases h0 : at' ≤ 0
  · go_enter Try.func12, Try.ntmps12
    go_wp2
    go_ret3
    exact ⟨rfl, rfl⟩
  · have h1 : (s.size : Int) < at' := by omega
    go_enter Try.func12, Try.ntmps12
    go_wp2
    go_ret3
    exact ⟨rfl, rfl⟩
end Go.Proofs.Ytfnpngffdjjpbaa
