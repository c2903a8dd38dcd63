/-
  The comparison of two lists of ints: what the call returns: for every two lists that the call's own memory holds.
-/
import Derived.Test.YtfnpngffdjjpbaaStarts
namespace Go.Proofs.Ytfnpngffdjjpbaa
open Go.RowKit

theorem ints_getD (l : List Nat) (k : Nat) (h : k < l.length) : (ints l)[k]? = some (.int .i64 ((l.getD k 0 : Nat) : Int)) := by
  unfold ints
  rw [List.getElem?_map, List.getElem?_eq_getElem h]
  simp [List.getD, List.getElem?_eq_getElem h]

theorem take_eq_step {l m : List Nat} {k : Nat} (h : l.take k = m.take k) (hl : k < l.length) (hm : k < m.length) (he : l.getD k 0 = m.getD k 0) : l.take (k + 1) = m.take (k + 1) := by
  rw [List.take_succ_eq_append_getElem hl, List.take_succ_eq_append_getElem hm, h]
  simp [List.getD, List.getElem?_eq_getElem hl, List.getElem?_eq_getElem hm] at he
  rw [he]

set_option maxHeartbeats 1000000 in
theorem ints_part (A B : Option Addr) (ca cb : Nat) (n m : Nat) (w : World) (h : n ≠ m) :
    Calls Try.prog 15 #[.slice A n ca, .slice B m cb] w fun e w' => e = .returned (.bool false) ∧ w' = w := by
  have h1 : ((n : Int) != (m : Int)) = true := by rw [bne_iff_ne]; omega
  have h2 : ((n : Int) == (m : Int)) = false := by rw [beq_eq_false_iff_ne]; omega
  go_enter Try.func15, Try.ntmps15
  go_wp2
  go_ret
  exact ⟨rfl, rfl⟩

set_option maxHeartbeats 1000000 in
theorem ints_empty (A B : Option Addr) (ca cb : Nat) (w : World) :
    Calls Try.prog 15 #[.slice A 0 ca, .slice B 0 cb] w fun e w' => e = .returned (.bool true) ∧ w' = w := by
  go_enter Try.func15, Try.ntmps15
  go_wp2
  go_loop [5] (fun i => i = .int .i64 0) (fun _ => 0)
  case atStart => exact rfl
  case round =>
    subst hrel
    go_wp2
    go_ret
    exact ⟨rfl, rfl⟩

set_option maxHeartbeats 1000000 in
theorem ints_same (ga gb ca cb n : Nat) (xs ys : List Nat) (w : World) (hn : n ≤ 1000000) (hx : xs.length = n) (hy : ys.length = n)
    (hca : ∀ k, k < n → w.cell? ⟨ga, k, none⟩ = some (.int .i64 ((xs.getD k 0 : Nat) : Int))) (hcb : ∀ k, k < n → w.cell? ⟨gb, k, none⟩ = some (.int .i64 ((ys.getD k 0 : Nat) : Int))) :
    Calls Try.prog 15 #[.slice (some ⟨ga, 0, none⟩) n ca, .slice (some ⟨gb, 0, none⟩) n cb] w fun e w' => e = .returned (.bool (decide (xs = ys))) ∧ ∃ q, w' = w.drewN q := by
  have HX := Lib.hid hx
  have HY := Lib.hid hy
  have HCA := Lib.hid hca
  have HCB := Lib.hid hcb
  clear hx hy hca hcb
  go_enter Try.func15, Try.ntmps15
  go_wp2
  go_loopw [5] (fun i wr => ∃ (k q : Nat), wr = w.drewN q ∧ i = .int .i64 (k : Int) ∧ k ≤ n ∧ Hid (xs.take k = ys.take k)) (fun i _ => n - (intOf i).toNat)
  case atStart => exact ⟨0, 0, rfl, rfl, Nat.zero_le _, rfl⟩
  case round =>
    obtain ⟨k, q, rfl, rfl, hk, HT⟩ := hrel
    by_cases hlt : k < n
    · have c1 : w.cell? ⟨ga, k, none⟩ = some (.int .i64 ((xs.getD k 0 : Nat) : Int)) := HCA.out k hlt
      have c2 : w.cell? ⟨gb, k, none⟩ = some (.int .i64 ((ys.getD k 0 : Nat) : Int)) := HCB.out k hlt
      have HST := fun he => take_eq_step HT.out (by rw [HX.out]; exact hlt) (by rw [HY.out]; exact hlt) he
      have HNE : xs.getD k 0 ≠ ys.getD k 0 → xs ≠ ys := fun h e => h (by rw [e])
      obtain ⟨x, hx⟩ : ∃ x, xs.getD k 0 = x := ⟨_, rfl⟩
      obtain ⟨y, hy⟩ : ∃ y, ys.getD k 0 = y := ⟨_, rfl⟩
      rw [hx] at c1 HST HNE
      rw [hy] at c2 HST HNE
      clear hx hy
      by_cases he : x = y
      · subst he
        have HST2 := Lib.hid (HST rfl)
        clear HST HNE
        go_wp2
        go_quiet (fail)
        go_wp2
        go_roundw
        case rel => exact ⟨k + 1, _, rfl, by go_num, by omega, HST2⟩
        case measure => simp [intOf]; omega
      · have HF : Hid (decide (xs = ys) = false) := decide_eq_false (HNE he)
        have h1 : ((x : Int) != (y : Int)) = true := by rw [bne_iff_ne]; omega
        have h2 : ((x : Int) == (y : Int)) = false := by rw [beq_eq_false_iff_ne]; omega
        clear HST HNE
        go_wp2
        go_quiet (fail)
        go_wp2
        go_ret
        exact ⟨by rw [HF.out]; rfl, q + nq, by simp⟩
    · obtain rfl : k = n := by omega
      have HF : Hid (decide (xs = ys) = true) := by
        have := HT.out
        rw [List.take_of_length_le (by rw [HX.out]; exact Nat.le_refl _), List.take_of_length_le (by rw [HY.out]; exact Nat.le_refl _)] at this
        exact decide_eq_true this
      go_wp2
      go_ret
      exact ⟨by rw [HF.out]; rfl, _, rfl⟩

theorem ints_any (va vb : Value) (xs ys : List Nat) (Ba Bb : Nat) (w : World) (ha : w.ownsRow Ba 3 1 va xs.length (ints xs)) (hb : w.ownsRow Bb 3 1 vb ys.length (ints ys)) (hx : xs.length ≤ 1000000) :
    Calls Try.prog 15 #[va, vb] w fun e w' => e = .returned (.bool (decide (xs = ys))) ∧ Below w.heap.size w w' := by
  have hva : ∃ A ca, va = .slice A xs.length ca ∧ (xs.length = 0 ∨ ∃ ga, A = some ⟨ga, 0, none⟩ ∧ ∀ k, k < xs.length → w.cell? ⟨ga, k, none⟩ = some (.int .i64 ((xs.getD k 0 : Nat) : Int))) := by
    rcases ha.2 with ⟨rfl, hn⟩ | ⟨ga, ca, cura, rfl, _, _, hca, hcma, _, _⟩
    · exact ⟨_, _, by rw [hn], .inl hn⟩
    · exact ⟨_, _, rfl, .inr ⟨ga, rfl, fun k hk => by rw [ha.cellAt k (by omega)]; exact ints_getD xs k hk⟩⟩
  have hvb : ∃ B cb, vb = .slice B ys.length cb ∧ (ys.length = 0 ∨ ∃ gb, B = some ⟨gb, 0, none⟩ ∧ ∀ k, k < ys.length → w.cell? ⟨gb, k, none⟩ = some (.int .i64 ((ys.getD k 0 : Nat) : Int))) := by
    rcases hb.2 with ⟨rfl, hn⟩ | ⟨ga, ca, cura, rfl, _, _, hca, hcma, _, _⟩
    · exact ⟨_, _, by rw [hn], .inl hn⟩
    · exact ⟨_, _, rfl, .inr ⟨ga, rfl, fun k hk => by rw [hb.cellAt k (by omega)]; exact ints_getD ys k hk⟩⟩
  obtain ⟨A, ca, rfl, hA⟩ := hva
  obtain ⟨B, cb, rfl, hB⟩ := hvb
  by_cases hl : xs.length = ys.length
  · by_cases h0 : xs.length = 0
    · rw [← hl, h0]
      refine (ints_empty A B ca cb w).mono fun e w' h => ⟨?_, ?_⟩
      · have e1 : xs = [] := List.length_eq_zero_iff.1 h0
        have e2 : ys = [] := List.length_eq_zero_iff.1 (hl.symm.trans h0)
        rw [h.1, e1, e2]; rfl
      · rw [h.2]; exact Below.refl _ _
    · rcases hA with h | ⟨ga, rfl, hca⟩
      · exact absurd h h0
      rcases hB with h | ⟨gb, rfl, hcb⟩
      · omega
      rw [← hl] at hcb ⊢
      refine (ints_same ga gb ca cb xs.length xs ys w hx rfl hl.symm hca hcb).mono fun e w' h => ⟨h.1, ?_⟩
      obtain ⟨q, rfl⟩ := h.2
      exact below_drewN (Below.refl _ _) q
  · refine (ints_part A B ca cb xs.length ys.length w hl).mono fun e w' h => ⟨?_, ?_⟩
    · rw [h.1, decide_eq_false (fun e => hl (by rw [e]))]
    · rw [h.2]; exact Below.refl _ _
end Go.Proofs.Ytfnpngffdjjpbaa
