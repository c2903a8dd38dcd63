/-
  widths.Text: what it returns: for every text; the two tables are as the program's text lays them.
-/
import Derived.Test.YtafeieggohlaiaaDoorOf
import Derived.Test.YtafeieggohlaiaaDoorTextN
namespace Go.Proofs.YtafeieggohlaiaaDoor
open Go.RowKit Go.Shelf

set_option maxHeartbeats 2000000 in
theorem text_any (s : ByteArray) (w : World) (hs : s.size ≤ 140737488351232) (hT : TabW w) :
    Calls Tryd.prog 15 #[.string s] w fun e w' => e = .returned (.int .i64 (txN s : Int)) ∧ Below w.heap.size w w' := by
  go_enter Tryd.func15, Tryd.ntmps15
  go_wp2
  go_loopw [3] (fun v wr => ∃ (pos f n : Nat), wr.heap[w.heap.size]? = some (.stringIter s pos) ∧ Below w.heap.size w wr ∧ v = .int .i64 (n : Int) ∧ Hid (n + txL s (stL s f pos) = txN s) ∧ s.size ≤ pos + f ∧ pos ≤ s.size ∧ n ≤ 2 * pos) (fun _ wr => s.size - wr.iterPos w.heap.size)
  case atStart => exact ⟨0, s.size, 0, World.iter_heap w s 0, (Below.refl _ _).alloc (Nat.le_refl _) _, rfl, (show 0 + _ = _ by rw [Nat.zero_add]; rfl), by omega, Nat.zero_le _, Nat.le_refl _⟩
  case round =>
    obtain ⟨pos, f, n, hit, hbw, rfl, HS, hf, hps, hn⟩ := hrel
    have hpos0 := iterPos_of hit
    by_cases hp : pos < s.size
    · have hnx : ∀ ty, (Instr.next (.pointer (some ⟨w.heap.size, 0, none⟩)) true ty).run Tryd.prog wr = _ := fun ty => Lib.run_next_any_at wr w.heap.size s pos ty hit hp
      obtain ⟨f, rfl⟩ : ∃ f', f = f' + 1 := ⟨f - 1, by omega⟩
      obtain ⟨hw1, hw2⟩ := decW s pos hp
      have hst := stL_step s f pos hp
      have hit2 := Lib.iterAt_heap wr w.heap.size s pos (pos + (Utf8.decode s pos).2) hit
      have hbw2 := Lib.below_iterAt hbw (k := w.heap.size) (Nat.le_refl _) s (pos + (Utf8.decode s pos).2)
      have hos := of_sh ((Utf8.decode s pos).1 : Int)
      have HS2 : Hid (n + ofN (shI ((Utf8.decode s pos).1 : Int)) + txL s (stL s f (pos + (Utf8.decode s pos).2)) = txN s) := by
        show _ = _; rw [← HS.out, hst, txL]; omega
      obtain ⟨R, hR⟩ : ∃ R, (Utf8.decode s pos).1 = R := ⟨_, rfl⟩
      obtain ⟨W1, hW1⟩ : ∃ W1, W1 = wr.iterAt w.heap.size s (pos + (Utf8.decode s pos).2) := ⟨_, rfl⟩
      rw [← hW1, hR] at hnx
      rw [← hW1] at hit2 hbw2
      rw [hR] at HS2 hos
      have hlt := lt_of_block hit2
      have H1 := Lib.hid (fun w hT => shown_any (R : Int) w hT)
      have H2 := Lib.hid (fun w hT => of_any (shI (R : Int)) w hT)
      obtain ⟨x, hx⟩ : ∃ x, shI (R : Int) = x := ⟨_, rfl⟩
      obtain ⟨y, hy⟩ : ∃ y, ofN x = y := ⟨_, rfl⟩
      rw [hx] at H1 H2 HS2 hos
      rw [hy] at H2 HS2 hos
      have hT1 := hT.below hbw2
      clear hW1 hit hbw hst HS hR hx hy
      go_wp2_with fail
      refine (H1.out _ hT1).mono ?_
      rintro e w2 ⟨rfl, hb2⟩
      have hit3 : w2.heap[w.heap.size]? = some (.stringIter s (pos + (Utf8.decode s pos).2)) := (hb2.block _ hlt).trans hit2
      have hbw3 := hbw2.trans (hb2.mono hbw2.size)
      have hT2 := hT.below hbw3
      have hlt3 := lt_of_block hit3
      clear hb2 hit2
      go_wp2_with fail
      refine (H2.out _ hT2).mono ?_
      rintro e w3 ⟨rfl, hb3⟩
      have hit4 : w3.heap[w.heap.size]? = some (.stringIter s (pos + (Utf8.decode s pos).2)) := (hb3.block _ hlt3).trans hit3
      have hbw4 := hbw3.trans (hb3.mono hbw3.size)
      clear hb3 hit3
      go_wp2_with fail
      go_roundw
      case rel => exact ⟨_, f, n + y, hit4, hbw4, by go_num, HS2, by omega, by omega, by omega⟩
      case measure => rw [iterPos_of hit4, hpos0]; omega
    · have hnx : ∀ ty, (Instr.next (.pointer (some ⟨w.heap.size, 0, none⟩)) true ty).run Tryd.prog wr = _ := fun ty => Lib.run_next_end_at wr w.heap.size s pos ty hit hp
      have HE : Hid (n = txN s) := by
        have := HS.out
        rw [stL_end s _ _ hp] at this
        exact this
      clear hit HS
      go_wp2
      go_ret
      exact ⟨by rw [← HE.out]; rfl, hbw⟩
end Go.Proofs.YtafeieggohlaiaaDoor
