/-
  codes.Valid: what it returns: for every text.
-/
import Derived.Test.YtafeieggohlaiaaDoorNext
namespace Go.Proofs.YtafeieggohlaiaaDoor
open Go.RowKit

set_option maxHeartbeats 1000000 in
theorem valid_any (s : ByteArray) (w : World) (hs : s.size ≤ maxLen) :
    Calls Tryd.prog 19 #[.string s] w fun e w' => e = .returned (.bool (allOk s (stA s))) ∧ Below w.heap.size w w' := by
  have hmx := hs
  unfold maxLen at hs
  go_enter Tryd.func19, Tryd.ntmps19
  go_wp2
  go_loopw [] (fun wr => ∃ (pos f : Nat), wr.heap[w.heap.size]? = some (.stringIter s pos) ∧ Below w.heap.size w wr ∧ Hid (allOk s (stL s f pos) = allOk s (stA s)) ∧ s.size ≤ pos + f ∧ pos ≤ s.size) (fun wr => s.size - wr.iterPos w.heap.size)
  case atStart => exact ⟨0, s.size, World.iter_heap w s 0, (Below.refl _ _).alloc (Nat.le_refl _) _, rfl, by omega, Nat.zero_le _⟩
  case round =>
    obtain ⟨pos, f, hit, hbw, HS, hf, hps⟩ := hrel
    have hpos0 := iterPos_of hit
    by_cases hp : pos < s.size
    · have hnx : ∀ ty, (Instr.next (.pointer (some ⟨w.heap.size, 0, none⟩)) true ty).run Tryd.prog wr = _ := fun ty => Lib.run_next_any_at wr w.heap.size s pos ty hit hp
      obtain ⟨f, rfl⟩ : ∃ f', f = f' + 1 := ⟨f - 1, by omega⟩
      obtain ⟨hw1, hw2⟩ := decW s pos hp
      have hst := stL_step s f pos hp
      have hit2 := Lib.iterAt_heap wr w.heap.size s pos (pos + (Utf8.decode s pos).2) hit
      have hbw2 := Lib.below_iterAt hbw (k := w.heap.size) (Nat.le_refl _) s (pos + (Utf8.decode s pos).2)
      have HS2 : Hid ((okAt s pos && allOk s (stL s f (pos + (Utf8.decode s pos).2))) = allOk s (stA s)) := by
        show _ = _; rw [← HS.out, hst, allOk_cons]
      obtain ⟨W1, hW1⟩ : ∃ W1, W1 = wr.iterAt w.heap.size s (pos + (Utf8.decode s pos).2) := ⟨_, rfl⟩
      rw [← hW1] at hnx hit2 hbw2
      have hlt := lt_of_block hit2
      have hN := fun w => next_in s (pos : Int) w (by omega) (by omega) hmx
      rw [Int.toNat_natCast] at hN
      have HN := Lib.hid hN
      clear hW1 hit hbw hst HS hN
      cases hok : okAt s pos
      · rw [hok] at HN HS2
        have HE : Hid (allOk s (stA s) = false) := by show _ = _; rw [← HS2.out]; rfl
        clear hok
        go_wp2_with (go_at_call 27; refine (HN.out _).mono ?_; rintro e w' ⟨rfl, hb⟩)
        go_ret
        exact ⟨by rw [HE.out]; rfl, hbw2.trans (hb.mono (by omega))⟩
      · rw [hok] at HN HS2
        have HE : Hid (allOk s (stL s f (pos + (Utf8.decode s pos).2)) = allOk s (stA s)) := by show _ = _; rw [← HS2.out]; rfl
        clear hok
        go_wp2_with (go_at_call 27; refine (HN.out _).mono ?_; rintro e w' ⟨rfl, hb⟩)
        have hit3 : w'.heap[w.heap.size]? = some (.stringIter s (pos + (Utf8.decode s pos).2)) := (hb.block _ hlt).trans hit2
        go_roundw
        case rel => exact ⟨_, f, hit3, hbw2.trans (hb.mono (by omega)), HE, by omega, by omega⟩
        case measure => rw [iterPos_of hit3, hpos0]; omega
    · have hnx : ∀ ty, (Instr.next (.pointer (some ⟨w.heap.size, 0, none⟩)) true ty).run Tryd.prog wr = _ := fun ty => Lib.run_next_end_at wr w.heap.size s pos ty hit hp
      have HE : Hid (allOk s (stA s) = true) := by
        have := HS.out
        rw [stL_end s _ _ hp] at this
        exact this.symm
      clear hit HS
      go_wp2
      go_ret
      exact ⟨by rw [HE.out]; rfl, hbw⟩

end Go.Proofs.YtafeieggohlaiaaDoor
