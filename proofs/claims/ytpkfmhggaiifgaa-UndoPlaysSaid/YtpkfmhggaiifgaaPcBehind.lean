/-
  pieces: behind: the pieces behind a place: what the call returns.
-/
import Derived.Test.YtpkfmhggaiifgaaPcApp
import Derived.Test.YtpkfmhggaiifgaaPcFind
namespace Go.Proofs.Ytpkfmhggaiifgaa
open Go.RowKit

set_option maxHeartbeats 1000000 in
theorem behind_whole (b : Nat) (sl : Value) (xs : List ByteArray) (n i : Nat) (w : World) (c2 : w.cell? ⟨b, 2, none⟩ = some sl) (hS : StrsW w sl xs) (hi : i ≤ xs.length)
    (H : Calls Try.prog 44 #[.pointer (some ⟨b, 0, none⟩), .int .i64 (n : Int)] w fun e w' => e = .returned (.tuple #[.int .i64 (i : Int), .int .i64 0]) ∧ w' = w) :
    Calls Try.prog 37 #[.pointer (some ⟨b, 0, none⟩), .int .i64 (n : Int)] w fun e w' => ∃ v, e = .returned v ∧ StrsW w' v (xs.drop i) ∧ Below w.heap.size w w' := by
  have hS0 := hS
  obtain ⟨ao, cap, rfl, hc, hs⟩ := hS
  have i1 : (0 : Int) ≤ (i : Int) := by omega
  have i2 : (i : Int) ≤ (xs.length : Int) := by omega
  have i3 : (xs.length : Int) ≤ (cap : Int) := by omega
  obtain ⟨A, hA⟩ : ∃ A, (if xs.length = i then ao else Option.map (fun x => x.add i) ao) = A := ⟨_, rfl⟩
  have hD : StrsW w (.slice A (xs.length - i) (xs.length - i)) (xs.drop i) := by
    refine strs_drop hS0 hi (Nat.le_refl _) fun g o ha hlt => ?_
    rw [← hA, if_neg (by omega), ha]
    show some (Addr.add _ _) = _
    rw [add_lit]
  have HD := Lib.hid hD
  clear hs hS0 hD
  go_enter Try.func37, Try.ntmps37
  go_wp2_with fail
  refine H.mono ?_
  rintro e w' ⟨rfl, rfl⟩
  go_wp2
  go_quiet (fail)
  all_goals go_wp2
  all_goals go_ret
  all_goals exact ⟨_, rfl, HD.out.below (below_drewN _ _), below_drewN _ _⟩

set_option maxHeartbeats 2000000 in
theorem behind_cut (b g o cap : Nat) (x T : ByteArray) (xs : List ByteArray) (n i off : Nat) (w : World) (c2 : w.cell? ⟨b, 2, none⟩ = some (.slice (some ⟨g, o, none⟩) xs.length cap)) (hS : StrsW w (.slice (some ⟨g, o, none⟩) xs.length cap) xs) (hl : xs.length ≤ 100000) (hi : i < xs.length)
    (hc : xs.length ≤ cap) (c3 : w.cell? ⟨g, o + i, none⟩ = some (.string x)) (hT : x.extract off x.size = T) (h0 : 0 < off) (hox : off < x.size)
    (H : Calls Try.prog 44 #[.pointer (some ⟨b, 0, none⟩), .int .i64 (n : Int)] w fun e w' => e = .returned (.tuple #[.int .i64 (i : Int), .int .i64 (off : Int)]) ∧ w' = w) :
    Calls Try.prog 37 #[.pointer (some ⟨b, 0, none⟩), .int .i64 (n : Int)] w fun e w' => ∃ v, e = .returned v ∧ StrsW w' v ([T] ++ xs.drop (i + 1)) ∧ Below w.heap.size w w' := by
  have i1 : (0 : Int) ≤ (i : Int) := by omega
  have i2 : (i : Int) < (xs.length : Int) := by omega
  have i3 : (xs.length : Int) ≤ (cap : Int) := by omega
  have o1 : (0 : Int) < (off : Int) := by omega
  have o2 : (off : Int) ≤ (x.size : Int) := by omega
  have i4 : (i : Int) + 1 ≤ (xs.length : Int) := by omega
  have i5 : (0 : Int) ≤ (i : Int) + 1 := by omega
  have i6 : IntKind.i64.wrap ((i : Int) + 1) = (i : Int) + 1 := by rw [IntKind.wrap_i64]; omega
  obtain ⟨A, hA⟩ : ∃ A, (if cap = i + 1 then some ⟨g, o, none⟩ else some ⟨g, o + (i + 1), none⟩) = (A : Option Addr) := ⟨_, rfl⟩
  have hD : StrsW w (.slice A (xs.length - (i + 1)) (cap - (i + 1))) (xs.drop (i + 1)) := by
    refine strs_drop hS (by omega) (by omega) fun g' o' ha hlt => ?_
    cases ha
    rw [← hA, if_neg (by omega)]
  have HD : Hid (∀ W, Below w.heap.size w W → StrsW W (.slice A (xs.length - (i + 1)) (cap - (i + 1))) (xs.drop (i + 1))) := fun W hW => hD.below hW
  have HF : Hid (∀ W, Below (w.heap.size + 1) (w.alloc (.cells #[.string T] 9)) W → FitW (fun _ => True) w.heap.size W (.slice (some ⟨w.heap.size, 0, none⟩) 1 1) [T]) := fun W hW => (fit_one T trivial).below (by simpa using hW)
  have HK : Hid (∀ W, Below w.heap.size w W → W.cell? ⟨b, 2, none⟩ = some (.slice (some ⟨g, o, none⟩) xs.length cap) ∧ W.cell? ⟨g, o + i, none⟩ = some (.string x)) := fun W hW =>
    ⟨by rw [hW.cell (p := ⟨b, 2, none⟩) (cell_lt (p := ⟨b, 2, none⟩) c2)]; exact c2, by rw [hW.cell (p := ⟨g, o + i, none⟩) (cell_lt (p := ⟨g, o + i, none⟩) c3)]; exact c3⟩
  clear hS hD
  have hb1 : Below w.heap.size w (w.alloc (.cells #[.string T] 9)) := (Below.refl _ _).alloc (Nat.le_refl _) _
  go_enter Try.func37, Try.ntmps37
  go_wp2_with fail
  refine H.mono ?_
  rintro e w' ⟨rfl, rfl⟩
  go_wp2
  go_region_held3 (fun W => W.cell? ⟨b, 2, none⟩ = some (.slice (some ⟨g, o, none⟩) xs.length cap) ∧ W.cell? ⟨g, o + i, none⟩ = some (.string x)) (first | go_keep | exact HK.out _ (hb1.trans ⟨hb3.os, hb3.tape, hb3.output, hb3.size, hb3.block⟩))
    ((refine step_app (by rfl) _ _ (by rfl) (by rfl) (by rfl) (HF.out _ ⟨rfl, rfl, rfl, Nat.le_refl _, fun _ _ => rfl⟩) (by simp) (HD.out _ (hb1.trans ⟨rfl, rfl, rfl, Nat.le_refl _, fun _ _ => rfl⟩)) (by simp only [List.length_cons, List.length_nil, List.length_drop]; omega) ?_; intro v3 w3 hfit3 hb3))
  trace_state
  all_goals go_wp2
  all_goals go_ret
  all_goals exact ⟨_, rfl, hfit3.1, hb1.trans (⟨hb3.os, hb3.tape, hb3.output, hb3.size, hb3.block⟩)⟩

theorem behind_any (b : Nat) (sl : Value) (xs : List ByteArray) (n : Nat) (w : World) (c2 : w.cell? ⟨b, 2, none⟩ = some sl) (hS : StrsW w sl xs) (hf : full xs) (hn : n ≤ 1000000) (hl : xs.length ≤ 100000) :
    Calls Try.prog 37 #[.pointer (some ⟨b, 0, none⟩), .int .i64 (n : Int)] w fun e w' => ∃ v, e = .returned v ∧ StrsW w' v (behindL xs n) ∧ Below w.heap.size w w' := by
  have H := pcFind_any b sl xs n w c2 hS hn (by omega)
  obtain ⟨h1, h2, h3⟩ := find_says xs n hf
  obtain ⟨R, hR⟩ : ∃ R, findL xs n = R := ⟨_, rfl⟩
  rw [hR] at H h1 h2 h3
  obtain ⟨i, off⟩ := R
  by_cases h0 : off = 0
  · subst h0
    rw [(h2 rfl).2]
    exact behind_whole b sl xs n i w c2 hS h1 H
  · obtain ⟨x, hx, hox, hil, _, E⟩ := h3 (Nat.pos_of_ne_zero h0)
    rw [E]
    have hS0 := hS
    obtain ⟨ao, cap, rfl, hc, hs⟩ := hS
    obtain ⟨g, o, rfl, hcell⟩ := hs i x hx
    exact behind_cut b g o cap x _ xs n i off w c2 hS0 hl hil hc hcell rfl (Nat.pos_of_ne_zero h0) hox H
end Go.Proofs.Ytpkfmhggaiifgaa
