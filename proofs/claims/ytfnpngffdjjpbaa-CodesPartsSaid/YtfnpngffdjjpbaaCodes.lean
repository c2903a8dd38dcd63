/-
  codes.Count, Starts, Valid and Back: what each call returns and what it leaves of memory: for every text and every place. Condition: the text's length fits what a slice of its places may hold.
-/
import Derived.Test.YtfnpngffdjjpbaaFront
namespace Go.Proofs.Ytfnpngffdjjpbaa
open Go.RowKit

/-- The places from p on, at most so many. -/
def stL (s : ByteArray) : Nat → Nat → List Nat
  | 0, _ => []
  | f + 1, p => if p < s.size then p :: stL s f (p + (Utf8.decode s p).2) else []
theorem stL_end (s : ByteArray) (f p : Nat) (h : ¬ p < s.size) : stL s f p = [] := by
  cases f with
  | zero => rfl
  | succ f => simp [stL, h]
theorem stL_step (s : ByteArray) (f p : Nat) (h : p < s.size) : stL s (f + 1) p = p :: stL s f (p + (Utf8.decode s p).2) := by simp [stL, h]
theorem stL_length (s : ByteArray) : ∀ f p, (stL s f p).length ≤ s.size - p
  | 0, p => by simp [stL]
  | f + 1, p => by
    by_cases h : p < s.size
    · have := decW s p h
      have ih := stL_length s f (p + (Utf8.decode s p).2)
      rw [stL_step s f p h, List.length_cons]
      omega
    · rw [stL_end s _ p h]; simp
def stA (s : ByteArray) : List Nat := stL s s.size 0
theorem stA_length (s : ByteArray) : (stA s).length ≤ s.size := by have := stL_length s s.size 0; unfold stA; omega
def allOk (s : ByteArray) (l : List Nat) : Bool := l.all (okAt s)
theorem allOk_cons (s : ByteArray) (p : Nat) (l : List Nat) : allOk s (p :: l) = (okAt s p && allOk s l) := by simp [allOk]

set_option maxHeartbeats 1000000 in
theorem count_any (s : ByteArray) (w : World) (hs : s.size ≤ maxLen) :
    Calls Try.prog 17 #[.string s] w fun e w' => e = .returned (.int .i64 ((stA s).length : Int)) ∧ Below w.heap.size w w' := by
  have hlen := stA_length s
  unfold maxLen at hs
  go_enter Try.func17, Try.ntmps17
  go_wp2
  go_loopw [3] (fun v wr => ∃ (pos f n : Nat), wr.heap[w.heap.size]? = some (.stringIter s pos) ∧ Below w.heap.size w wr ∧ v = .int .i64 (n : Int) ∧ Hid (n + (stL s f pos).length = (stA s).length) ∧ s.size ≤ pos + f ∧ pos ≤ s.size ∧ n ≤ pos) (fun _ wr => s.size - wr.iterPos w.heap.size)
  case atStart => exact ⟨0, s.size, 0, World.iter_heap w s 0, (Below.refl _ _).alloc (Nat.le_refl _) _, rfl, (show 0 + _ = _ by rw [Nat.zero_add]; rfl), by omega, Nat.zero_le _, Nat.le_refl _⟩
  case round =>
    obtain ⟨pos, f, n, hit, hbw, rfl, HS, hf, hps, hn⟩ := hrel
    have hpos0 := iterPos_of hit
    by_cases hp : pos < s.size
    · have hnx : ∀ ty, (Instr.next (.pointer (some ⟨w.heap.size, 0, none⟩)) true ty).run Try.prog wr = _ := fun ty => Lib.run_next_any_at wr w.heap.size s pos ty hit hp
      obtain ⟨f, rfl⟩ : ∃ f', f = f' + 1 := ⟨f - 1, by omega⟩
      obtain ⟨hw1, hw2⟩ := decW s pos hp
      have hst := stL_step s f pos hp
      have hit2 := Lib.iterAt_heap wr w.heap.size s pos (pos + (Utf8.decode s pos).2) hit
      have hbw2 := Lib.below_iterAt hbw (k := w.heap.size) (Nat.le_refl _) s (pos + (Utf8.decode s pos).2)
      have HS2 : Hid ((n + 1) + (stL s f (pos + (Utf8.decode s pos).2)).length = (stA s).length) := by
        show _ = _; rw [← HS.out, hst, List.length_cons]; omega
      obtain ⟨W1, hW1⟩ : ∃ W1, W1 = wr.iterAt w.heap.size s (pos + (Utf8.decode s pos).2) := ⟨_, rfl⟩
      rw [← hW1] at hnx hit2 hbw2
      clear hW1 hit hbw hst HS
      go_wp2
      go_roundw
      case rel => exact ⟨_, f, n + 1, hit2, hbw2, by go_num, HS2, by omega, by omega, by omega⟩
      case measure => rw [iterPos_of hit2, hpos0]; omega
    · have hnx : ∀ ty, (Instr.next (.pointer (some ⟨w.heap.size, 0, none⟩)) true ty).run Try.prog wr = _ := fun ty => Lib.run_next_end_at wr w.heap.size s pos ty hit hp
      have HE : Hid (n = (stA s).length) := by
        have := HS.out
        rw [stL_end s _ _ hp] at this
        exact this
      clear hit HS
      go_wp2
      go_ret
      exact ⟨by rw [← HE.out]; rfl, hbw⟩

set_option maxHeartbeats 1000000 in
theorem valid_any (s : ByteArray) (w : World) (hs : s.size ≤ maxLen) :
    Calls Try.prog 18 #[.string s] w fun e w' => e = .returned (.bool (allOk s (stA s))) ∧ Below w.heap.size w w' := by
  have hmx := hs
  unfold maxLen at hs
  go_enter Try.func18, Try.ntmps18
  go_wp2
  go_loopw [] (fun wr => ∃ (pos f : Nat), wr.heap[w.heap.size]? = some (.stringIter s pos) ∧ Below w.heap.size w wr ∧ Hid (allOk s (stL s f pos) = allOk s (stA s)) ∧ s.size ≤ pos + f ∧ pos ≤ s.size) (fun wr => s.size - wr.iterPos w.heap.size)
  case atStart => exact ⟨0, s.size, World.iter_heap w s 0, (Below.refl _ _).alloc (Nat.le_refl _) _, rfl, by omega, Nat.zero_le _⟩
  case round =>
    obtain ⟨pos, f, hit, hbw, HS, hf, hps⟩ := hrel
    have hpos0 := iterPos_of hit
    by_cases hp : pos < s.size
    · have hnx : ∀ ty, (Instr.next (.pointer (some ⟨w.heap.size, 0, none⟩)) true ty).run Try.prog wr = _ := fun ty => Lib.run_next_any_at wr w.heap.size s pos ty hit hp
      obtain ⟨f, rfl⟩ : ∃ f', f = f' + 1 := ⟨f - 1, by omega⟩
      obtain ⟨hw1, hw2⟩ := decW s pos hp
      have hst := stL_step s f pos hp
      have hit2 := Lib.iterAt_heap wr w.heap.size s pos (pos + (Utf8.decode s pos).2) hit
      have hbw2 := Lib.below_iterAt hbw (k := w.heap.size) (Nat.le_refl _) s (pos + (Utf8.decode s pos).2)
      have HS2 : Hid ((okAt s pos && allOk s (stL s f (pos + (Utf8.decode s pos).2))) = allOk s (stA s)) := by
        show _ = _; rw [← HS.out, hst, allOk_cons]
      obtain ⟨W1, hW1⟩ : ∃ W1, W1 = wr.iterAt w.heap.size s (pos + (Utf8.decode s pos).2) := ⟨_, rfl⟩
      rw [← hW1] at hnx hit2 hbw2
      have hlt := lt_of_block hit2
      have hN := fun w => next_in s (pos : Int) w (by omega) (by omega) hmx
      rw [Int.toNat_natCast] at hN
      have HN := Lib.hid hN
      clear hW1 hit hbw hst HS hN
      cases hok : okAt s pos
      · rw [hok] at HN HS2
        have HE : Hid (allOk s (stA s) = false) := by show _ = _; rw [← HS2.out]; rfl
        clear hok
        go_wp2_with (go_at_call 10; refine (HN.out _).mono ?_; rintro e w' ⟨rfl, hb⟩)
        go_ret
        exact ⟨by rw [HE.out]; rfl, hbw2.trans (hb.mono (by omega))⟩
      · rw [hok] at HN HS2
        have HE : Hid (allOk s (stL s f (pos + (Utf8.decode s pos).2)) = allOk s (stA s)) := by show _ = _; rw [← HS2.out]; rfl
        clear hok
        go_wp2_with (go_at_call 10; refine (HN.out _).mono ?_; rintro e w' ⟨rfl, hb⟩)
        have hit3 : w'.heap[w.heap.size]? = some (.stringIter s (pos + (Utf8.decode s pos).2)) := (hb.block _ hlt).trans hit2
        go_roundw
        case rel => exact ⟨_, f, hit3, hbw2.trans (hb.mono (by omega)), HE, by omega, by omega⟩
        case measure => rw [iterPos_of hit3, hpos0]; omega
    · have hnx : ∀ ty, (Instr.next (.pointer (some ⟨w.heap.size, 0, none⟩)) true ty).run Try.prog wr = _ := fun ty => Lib.run_next_end_at wr w.heap.size s pos ty hit hp
      have HE : Hid (allOk s (stA s) = true) := by
        have := HS.out
        rw [stL_end s _ _ hp] at this
        exact this.symm
      clear hit HS
      go_wp2
      go_ret
      exact ⟨by rw [HE.out]; rfl, hbw⟩
end Go.Proofs.Ytfnpngffdjjpbaa
