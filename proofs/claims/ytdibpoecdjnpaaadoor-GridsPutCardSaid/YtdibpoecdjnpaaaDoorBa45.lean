/-
  limnerref06.Same: what it returns: for every two frames, also those of two sizes.
-/
import Derived.Test.YtdibpoecdjnpaaaDoorBa31
namespace Go.Proofs.YtdibpoecdjnpaaaDoor
open Go.RowKit

set_option maxHeartbeats 8000000 in
theorem rsame_any {ok ok2 : Nat → Prop} {v u : Value} {a b : Frm} (w : World) (hA : FrameW ok w v a) (hB : FrameW ok2 w u b) (hl : a.cells.length ≤ 1000000) :
    Calls Tryd.prog 14 #[v, u] w fun e w' => e = .returned (.bool (sameB a b)) ∧ Below w.heap.size w w' := by
  by_cases h1 : a.rows = b.rows
  · by_cases h2 : a.cols = b.cols
    · by_cases h3 : a.row = b.row
      · by_cases h4 : a.col = b.col
        · by_cases h5 : a.cells.length = b.cells.length
          · have := rsame_cells w hA hB hl h1 h2 h3 h4 h5
            rwa [show decide (a.cells = b.cells) = sameB a b by unfold sameB; rw [decide_eq_true h1, decide_eq_true h2, decide_eq_true h3, decide_eq_true h4]; rfl] at this
          · have hF : sameB a b = false := Bool.eq_false_iff.2 fun k => h5 (by rw [(sameB_iff a b).1 k])
            rw [hF]
            obtain ⟨ao, n, cap, rfl, hn, hcap, hS⟩ := hA
            obtain ⟨ao2, n2, cap2, rfl, hn2, hcap2, hS2⟩ := hB
            have b1 : (a.rows != b.rows) = false := by simpa using h1
            have b2 : (a.cols != b.cols) = false := by simpa using h2
            have b3 : (a.row != b.row) = false := by simpa using h3
            have b4 : (a.col != b.col) = false := by simpa using h4
            have b5 : ((n : Int) != (n2 : Int)) = true := by rw [bne_iff_ne]; omega
            clear hS hS2 hn hn2 h1 h2 h3 h4 h5 hF
            go_enter Tryd.func14, Tryd.ntmps14
            go_wp2
            go_ret
            exact ⟨rfl, ((Below.refl _ w).alloc (Nat.le_refl _) _).alloc (by simp) _⟩
        · have hF : sameB a b = false := Bool.eq_false_iff.2 fun k => h4 (by rw [(sameB_iff a b).1 k])
          rw [hF]
          obtain ⟨ao, n, cap, rfl, hn, hcap, hS⟩ := hA
          obtain ⟨ao2, n2, cap2, rfl, hn2, hcap2, hS2⟩ := hB
          have b1 : (a.rows != b.rows) = false := by simpa using h1
          have b2 : (a.cols != b.cols) = false := by simpa using h2
          have b3 : (a.row != b.row) = false := by simpa using h3
          have b4 : (a.col != b.col) = true := by simpa using h4
          clear hS hS2 hn hn2 h1 h2 h3 h4 hF
          go_enter Tryd.func14, Tryd.ntmps14
          go_wp2
          go_ret
          exact ⟨rfl, ((Below.refl _ w).alloc (Nat.le_refl _) _).alloc (by simp) _⟩
      · have hF : sameB a b = false := Bool.eq_false_iff.2 fun k => h3 (by rw [(sameB_iff a b).1 k])
        rw [hF]
        obtain ⟨ao, n, cap, rfl, hn, hcap, hS⟩ := hA
        obtain ⟨ao2, n2, cap2, rfl, hn2, hcap2, hS2⟩ := hB
        have b1 : (a.rows != b.rows) = false := by simpa using h1
        have b2 : (a.cols != b.cols) = false := by simpa using h2
        have b3 : (a.row != b.row) = true := by simpa using h3
        clear hS hS2 hn hn2 h1 h2 h3 hF
        go_enter Tryd.func14, Tryd.ntmps14
        go_wp2
        go_ret
        exact ⟨rfl, ((Below.refl _ w).alloc (Nat.le_refl _) _).alloc (by simp) _⟩
    · have hF : sameB a b = false := Bool.eq_false_iff.2 fun k => h2 (by rw [(sameB_iff a b).1 k])
      rw [hF]
      obtain ⟨ao, n, cap, rfl, hn, hcap, hS⟩ := hA
      obtain ⟨ao2, n2, cap2, rfl, hn2, hcap2, hS2⟩ := hB
      have b1 : (a.rows != b.rows) = false := by simpa using h1
      have b2 : (a.cols != b.cols) = true := by simpa using h2
      clear hS hS2 hn hn2 h1 h2 hF
      go_enter Tryd.func14, Tryd.ntmps14
      go_wp2
      go_ret
      exact ⟨rfl, ((Below.refl _ w).alloc (Nat.le_refl _) _).alloc (by simp) _⟩
  · have hF : sameB a b = false := Bool.eq_false_iff.2 fun k => h1 (by rw [(sameB_iff a b).1 k])
    rw [hF]
    obtain ⟨ao, n, cap, rfl, hn, hcap, hS⟩ := hA
    obtain ⟨ao2, n2, cap2, rfl, hn2, hcap2, hS2⟩ := hB
    have b1 : (a.rows != b.rows) = true := by simpa using h1
    clear hS hS2 hn hn2 h1 hF
    go_enter Tryd.func14, Tryd.ntmps14
    go_wp2
    go_ret
    exact ⟨rfl, ((Below.refl _ w).alloc (Nat.le_refl _) _).alloc (by simp) _⟩
end Go.Proofs.YtdibpoecdjnpaaaDoor
