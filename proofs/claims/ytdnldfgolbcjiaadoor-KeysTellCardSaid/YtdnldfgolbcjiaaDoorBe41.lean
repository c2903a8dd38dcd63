/-
  limnerref01.Starts: what it returns, a list of its own: for every text of at most a million bytes.
-/
import Derived.Test.YtdnldfgolbcjiaaDoorBe4
import Derived.Test.YtdnldfgolbcjiaaDoorBe38
namespace Go.Proofs.YtdnldfgolbcjiaaDoor
open Go.RowKit

set_option maxHeartbeats 1000000 in
theorem refStarts_any (s : ByteArray) (w : World) (hs : s.size ≤ 1000000) :
    Calls Tryd.prog 37 #[.string s] w fun e w' => ∃ v, e = .returned v ∧ w'.ownsRow w.heap.size 3 1 v (stA s).length (ints (stA s)) ∧ Below w.heap.size w w' := by
  have hlen := stA_length s
  have hmx : s.size ≤ maxLen := by unfold maxLen; omega
  obtain ⟨i0, hi, hz0, hz1, hz2⟩ := info_parts Tryd.infoInt
  go_enter Tryd.func37, Tryd.ntmps37
  go_wp2
  go_loopw [3, 4] (fun v i wr => ∃ (pos f : Nat) (acc : List Nat), i = .int .i64 (pos : Int) ∧ Below w.heap.size w wr ∧ wr.ownsRow w.heap.size 3 1 v acc.length (ints acc) ∧ Hid (acc ++ stL s f pos = stA s) ∧ s.size ≤ pos + f ∧ pos ≤ s.size ∧ acc.length ≤ pos) (fun _ i _ => s.size - (intOf i).toNat)
  case atStart => exact ⟨0, s.size, [], rfl, Below.refl _ _, World.ownsRow_nil _ _ _ _, rfl, by omega, Nat.zero_le _, Nat.le_refl _⟩
  case round =>
    obtain ⟨pos, f, acc, rfl, hbw, hown, HS, hf, hps, hn⟩ := hrel
    by_cases hp : pos < s.size
    · obtain ⟨f, rfl⟩ : ∃ f', f = f' + 1 := ⟨f - 1, by omega⟩
      obtain ⟨hw1, hw2⟩ := decW s pos hp
      have hst := stL_step s f pos hp
      have HS2 : Hid (acc ++ [pos] ++ stL s f (pos + (Utf8.decode s pos).2) = stA s) := by
        show _ = _; rw [← HS.out, hst, List.append_assoc]; rfl
      have hN := fun w => refNext_in s pos w hp hmx
      obtain ⟨K, hK⟩ : ∃ K, (Utf8.decode s pos).2 = K := ⟨_, rfl⟩
      rw [hK] at hN HS2 hw1 hw2
      have HN := Lib.hid hN
      have hsz := hbw.size
      clear hst HS hN hK
      go_wp2_with (at_builtin; refine wpList_append_own _ rfl _ _ 65 rfl w.heap.size 3 i0 (.int .i64 0) 1 8 Tryd.underlying65 hi hz0 hz1 hz2 rfl (by decide) _ _ _ rfl (hown.alloc _) ⟨wr.heap.size, 0, none⟩ 1 1 [.int .i64 (pos : Int)] rfl rfl (cell_one_new _ _ _) (fun x hx => by simp at hx; subst hx; rfl) (by unfold maxLen; omega) (by omega) (by simp; omega) ?_; intro v' w3 hown' hgrow3 hnil3)
      have hbw3 : Below w.heap.size w w3 := Below.grown (hbw.alloc hsz _) hgrow3 (by simp; omega) (fun j hj => (hown.lt _ hj).1)
      have hown3 : w3.ownsRow w.heap.size 3 1 v' (acc ++ [pos]).length (ints (acc ++ [pos])) := by
        unfold ints; rw [List.length_append, List.map_append]; exact hown'
      clear hown' hgrow3 hnil3
      refine (HN.out _).mono ?_
      rintro e w4 ⟨rfl, hb4⟩
      have hbw4 := hbw3.trans (hb4.mono hbw3.size)
      have hown4 := ownsRow_below hown3 hb4
      clear hbw3 hown3 hb4
      go_wp2_with fail
      go_roundw
      case rel => exact ⟨pos + K, f, acc ++ [pos], by go_num, hbw4, hown4, HS2, by omega, by omega, by simp; omega⟩
      case measure => simp [intOf]; omega
    · have HE : Hid (acc = stA s) := by
        have := HS.out
        rw [stL_end s _ _ hp, List.append_nil] at this
        exact this
      clear HS
      go_wp2
      go_ret
      exact ⟨_, rfl, by rw [← HE.out]; exact hown, hbw⟩

end Go.Proofs.YtdnldfgolbcjiaaDoor
