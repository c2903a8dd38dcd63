/-
  limnerref06.Valid: what it returns: for every frame, whatever it is.
-/
import Derived.Test.YtpkjaallhhjleaaGreatDoorLGrRefValidC
namespace Go.Proofs.YtpkjaallhhjleaaGreatDoor
open Go.RowKit

theorem rvalid_any {ok : Nat → Prop} {v : Value} {f : Frm} (w : World) (h : FrameW ok w v f) :
    Calls Tryz.prog 101 #[v] w fun e w' => e = .returned (.bool (validB f)) ∧ Below w.heap.size w w' := by
  obtain ⟨ao, N, cap, rfl, hn, hcap, hS⟩ := h
  cases h1 : sizedB f.rows f.cols with
  | false =>
    rw [show validB f = false by unfold validB; rw [h1]; rfl]
    exact rvalid_size f w h1
  | true =>
    obtain ⟨k1, k2, k3, k4⟩ := (sizedB_iff _ _).1 h1
    obtain ⟨m, hm⟩ : ∃ m : Nat, f.rows = (m : Int) := ⟨f.rows.toNat, by omega⟩
    obtain ⟨n, hn2⟩ : ∃ n : Nat, f.cols = (n : Int) := ⟨f.cols.toNat, by omega⟩
    have hP : f.rows * f.cols = ((m * n : Nat) : Int) := by rw [hm, hn2, Int.natCast_mul]
    have hle : m * n ≤ 20000 := Nat.mul_le_mul (show m ≤ 100 by omega) (show n ≤ 200 by omega)
    by_cases h2 : (N : Int) = ((m * n : Nat) : Int)
    · cases h3 : withinB f.rows f.cols f.row f.col with
      | false =>
        rw [show validB f = false by unfold validB; rw [h1, h3, Bool.and_false, Bool.false_and]]
        exact rvalid_cursor f w _ h1 hP (by omega) (by omega) h2 h3
      | true =>
        have hN : N = m * n := by omega
        have hpos : 0 < N := by rw [hN]; exact Nat.mul_pos (by omega) (by omega)
        obtain ⟨g, o, rfl, _⟩ := hS.ptr (i := 0) (List.getElem?_eq_getElem (show 0 < f.cells.length by omega))
        refine rvalid_cells f m n w hm hn2 (by omega) (by omega) hN hS hn.symm h3 (validB f) ?_
        rw [← rows_all (m := m) (by omega) (by omega)]
        constructor
        · intro hv
          have ho := (valid_ok hv).each
          have e1 : f.rows.toNat = m := by omega
          have e2 : f.cols.toNat = n := by omega
          rw [e1, e2] at ho
          exact ho
        · intro ho
          have hw := (withinB_iff _ _ _ _).1 h3
          exact OkF.valid ⟨hm, hn2, by omega, by omega, by omega, by omega, by omega, ho⟩
    · rw [show validB f = false by unfold validB; rw [h1, decide_eq_false (by rw [← hn, hP]; exact h2), Bool.and_false, Bool.false_and, Bool.false_and]]
      exact rvalid_len f w _ h1 hP (by omega) (by omega) h2
end Go.Proofs.YtpkjaallhhjleaaGreatDoor
