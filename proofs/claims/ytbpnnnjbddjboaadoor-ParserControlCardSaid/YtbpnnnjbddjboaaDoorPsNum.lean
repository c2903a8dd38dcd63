/-
  parser.number: what it returns: for every text of digits. strings.Split at one byte: the parts between.
-/
import Derived.Test.YtbpnnnjbddjboaaDoorPsSmall
import Derived.Test.YtbpnnnjbddjboaaDoorPsShelf
import Derived.Deep.DeepFit
namespace Go.Proofs.YtbpnnnjbddjboaaDoor
open Go.RowKit

theorem dec_ascii (s : ByteArray) (k : Nat) (_ : k < s.size) (h : bt s k < 128) : Utf8.decode s k = (bt s k, 1) := by
  rw [dec_bt]
  unfold Lib.decodeN
  rw [if_pos h]

set_option maxHeartbeats 2000000 in
theorem number_any (s : ByteArray) (w : World) (hd : ∀ u ∈ s.data.toList, digitU u) :
    Calls Tryd.prog 44 #[.string s] w fun e w' => e = .returned (.int .i64 (numL s.data.toList : Int)) ∧ Below w.heap.size w w' := by
  have hbt : ∀ k, k < s.size → 48 ≤ bt s k ∧ bt s k ≤ 57 := fun k hk => by
    have h1 : k < s.data.toList.length := by rw [← Lib.size_eq]; exact hk
    have h2 := hd (s.data.toList[k]) (List.getElem_mem h1)
    rw [bt_data, List.getD_eq_getElem?_getD, List.getElem?_eq_getElem h1]
    exact h2
  have hst : ∀ k, k < s.size → numL (s.data.toList.take (k + 1)) = capN (numL (s.data.toList.take k)) (bt s k - 48) := fun k hk => by
    have h1 : k < s.data.toList.length := by rw [← Lib.size_eq]; exact hk
    rw [List.take_succ_eq_append_getElem h1, numL_snoc, bt_data, List.getD_eq_getElem?_getD, List.getElem?_eq_getElem h1]
    rfl
  have HBT := Lib.hid hbt
  have HST := Lib.hid hst
  have HLE := Lib.hid (fun k => numL_le (s.data.toList.take k))
  obtain ⟨R, hR⟩ : ∃ R, numL s.data.toList = R := ⟨_, rfl⟩
  have HR : Hid (numL (s.data.toList.take s.size) = R) := by
    rw [← hR, List.take_of_length_le (by rw [← Lib.size_eq]; exact Nat.le_refl _)]
    exact rfl
  rw [hR]
  clear hbt hst hR hd
  go_enter Tryd.func44, Tryd.ntmps44
  go_wp2_with fail
  go_loopw [3] (fun v wr => ∃ (k n : Nat), k ≤ s.size ∧ Below w.heap.size w wr ∧ wr.heap[w.heap.size]? = some (.stringIter s k) ∧ v = .int .i64 (n : Int) ∧ Hid (numL (s.data.toList.take k) = n)) (fun _ wr => s.size - wr.iterPos w.heap.size)
  case atStart => exact ⟨0, 0, Nat.zero_le _, (Below.refl _ _).alloc (Nat.le_refl _) _, World.iter_heap w s 0, rfl, rfl⟩
  case round =>
    obtain ⟨k, n, hk, hbw, hit, rfl, HN⟩ := hrel
    have hpos := iterPos_of hit
    by_cases hp : k < s.size
    · obtain ⟨d0, d1⟩ := HBT.out k hp
      have hst := HST.out k hp
      have hle := HLE.out k
      rw [HN.out] at hst hle
      have hdec := dec_ascii s k hp (by omega)
      obtain ⟨c, hc⟩ : ∃ c, bt s k = c := ⟨_, rfl⟩
      rw [hc] at d0 d1 hst hdec
      have hnx : ∀ ty, (Instr.next (.pointer (some ⟨w.heap.size, 0, none⟩)) true ty).run Tryd.prog wr = _ := fun ty => Lib.run_next_any_at wr w.heap.size s k ty hit hp
      have hit2 := Lib.iterAt_heap wr w.heap.size s k (k + (Utf8.decode s k).2) hit
      have hbw2 := Lib.below_iterAt hbw (k := w.heap.size) (Nat.le_refl _) s (k + (Utf8.decode s k).2)
      rw [hdec] at hit2 hbw2
      simp only [hdec] at hnx
      obtain ⟨W1, hW1⟩ : ∃ W1, W1 = wr.iterAt w.heap.size s (k + 1) := ⟨_, rfl⟩
      rw [← hW1] at hnx hit2 hbw2
      have HN2 : Hid (numL (s.data.toList.take (k + 1)) = capN n (c - 48)) := hst
      have HV : Hid (((capN n (c - 48) : Nat) : Int) = min (10 * (n : Int) + ((c : Int) - 48)) 9999) := by
        show _ = _
        unfold capN
        omega
      have d2 : (48 : Int) ≤ (c : Int) := by omega
      have d3 : (c : Int) ≤ 57 := by omega
      have n3 : (n : Int) ≤ 9999 := by omega
      have n4 : (0 : Int) ≤ (n : Int) := by omega
      clear hW1 hit hbw hst hdec hc HN
      go_wp2_with fail
      exact ⟨⟨k + 1, capN n (c - 48), by omega, hbw2, hit2, by rw [HV.out], HN2⟩, by rw [iterPos_of hit2, hpos]; show s.size - (k + 1) < _; omega⟩
    · obtain rfl : k = s.size := by omega
      have hnx : ∀ ty, (Instr.next (.pointer (some ⟨w.heap.size, 0, none⟩)) true ty).run Tryd.prog wr = _ := fun ty => Lib.run_next_end_at wr w.heap.size s s.size ty hit hp
      have HE : Hid (n = R) := HN.out.symm.trans HR.out
      clear HN HR hit
      go_wp2_with fail
      go_ret
      exact ⟨by rw [HE.out]; rfl, hbw⟩
end Go.Proofs.YtbpnnnjbddjboaaDoor
