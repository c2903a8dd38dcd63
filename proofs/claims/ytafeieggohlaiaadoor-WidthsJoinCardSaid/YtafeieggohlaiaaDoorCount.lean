/-
  codes.Count: what it returns: for every text.
-/
import Derived.Test.YtafeieggohlaiaaDoorDec
namespace Go.Proofs.YtafeieggohlaiaaDoor
open Go.RowKit

set_option maxHeartbeats 1000000 in
theorem count_any (s : ByteArray) (w : World) (hs : s.size ≤ maxLen) :
    Calls Tryd.prog 18 #[.string s] w fun e w' => e = .returned (.int .i64 ((stA s).length : Int)) ∧ Below w.heap.size w w' := by
  have hlen := stA_length s
  unfold maxLen at hs
  go_enter Tryd.func18, Tryd.ntmps18
  go_wp2
  go_loopw [3] (fun v wr => ∃ (pos f n : Nat), wr.heap[w.heap.size]? = some (.stringIter s pos) ∧ Below w.heap.size w wr ∧ v = .int .i64 (n : Int) ∧ Hid (n + (stL s f pos).length = (stA s).length) ∧ s.size ≤ pos + f ∧ pos ≤ s.size ∧ n ≤ pos) (fun _ wr => s.size - wr.iterPos w.heap.size)
  case atStart => exact ⟨0, s.size, 0, World.iter_heap w s 0, (Below.refl _ _).alloc (Nat.le_refl _) _, rfl, (show 0 + _ = _ by rw [Nat.zero_add]; rfl), by omega, Nat.zero_le _, Nat.le_refl _⟩
  case round =>
    obtain ⟨pos, f, n, hit, hbw, rfl, HS, hf, hps, hn⟩ := hrel
    have hpos0 := iterPos_of hit
    by_cases hp : pos < s.size
    · have hnx : ∀ ty, (Instr.next (.pointer (some ⟨w.heap.size, 0, none⟩)) true ty).run Tryd.prog wr = _ := fun ty => Lib.run_next_any_at wr w.heap.size s pos ty hit hp
      obtain ⟨f, rfl⟩ : ∃ f', f = f' + 1 := ⟨f - 1, by omega⟩
      obtain ⟨hw1, hw2⟩ := decW s pos hp
      have hst := stL_step s f pos hp
      have hit2 := Lib.iterAt_heap wr w.heap.size s pos (pos + (Utf8.decode s pos).2) hit
      have hbw2 := Lib.below_iterAt hbw (k := w.heap.size) (Nat.le_refl _) s (pos + (Utf8.decode s pos).2)
      have HS2 : Hid ((n + 1) + (stL s f (pos + (Utf8.decode s pos).2)).length = (stA s).length) := by
        show _ = _; rw [← HS.out, hst, List.length_cons]; omega
      obtain ⟨W1, hW1⟩ : ∃ W1, W1 = wr.iterAt w.heap.size s (pos + (Utf8.decode s pos).2) := ⟨_, rfl⟩
      rw [← hW1] at hnx hit2 hbw2
      clear hW1 hit hbw hst HS
      go_wp2
      go_roundw
      case rel => exact ⟨_, f, n + 1, hit2, hbw2, by go_num, HS2, by omega, by omega, by omega⟩
      case measure => rw [iterPos_of hit2, hpos0]; omega
    · have hnx : ∀ ty, (Instr.next (.pointer (some ⟨w.heap.size, 0, none⟩)) true ty).run Tryd.prog wr = _ := fun ty => Lib.run_next_end_at wr w.heap.size s pos ty hit hp
      have HE : Hid (n = (stA s).length) := by
        have := HS.out
        rw [stL_end s _ _ hp] at this
        exact this
      clear hit HS
      go_wp2
      go_ret
      exact ⟨by rw [← HE.out]; rfl, hbw⟩

end Go.Proofs.YtafeieggohlaiaaDoor
