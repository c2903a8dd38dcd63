/-
  pieces: ahead: the pieces ahead of a place: what the call returns.
-/
import Derived.Test.YtpkfmhggaiifgaaPcApp
import Derived.Test.YtpkfmhggaiifgaaPcFind
namespace Go.Proofs.Ytpkfmhggaiifgaa
open Go.RowKit

set_option maxHeartbeats 1000000 in
theorem ahead_any {ok : Nat → Prop} (b : Nat) (sl : Value) (xs : List ByteArray) (n : Nat) (w : World) (c2 : w.cell? ⟨b, 2, none⟩ = some sl) (hS : StrsW w sl xs) (ho : OkV ok sl) (hf : full xs) (hn : n ≤ 1000000) (hl : xs.length ≤ 100000) :
    Calls Try.prog 35 #[.pointer (some ⟨b, 0, none⟩), .int .i64 (n : Int)] w fun e w' => ∃ v, e = .returned v ∧ FitW ok w.heap.size w' v (aheadL xs n) ∧ Below w.heap.size w w' := by
  have H := pcFind_any b sl xs n w c2 hS hn (by omega)
  obtain ⟨h1, h2, h3⟩ := find_says xs n hf
  obtain ⟨R, hR⟩ : ∃ R, findL xs n = R := ⟨_, rfl⟩
  rw [hR] at H h1 h2 h3
  obtain ⟨i, off⟩ := R
  obtain ⟨ao, cap, rfl, hc, hs⟩ := hS
  by_cases h0 : off = 0
  · have E := Lib.hid (h2 h0).1
    have HS := Lib.hid hs
    have HO := Lib.hid ho
    subst h0
    clear h2 h3 hR hs ho
    have h1' : i ≤ xs.length := h1
    have hic : (i : Int) ≤ (cap : Int) := by omega
    go_enter Try.func35, Try.ntmps35
    go_wp2_with fail
    refine H.mono ?_
    rintro e w' ⟨rfl, rfl⟩
    go_wp2
    go_ret
    exact ⟨_, rfl, by rw [E.out]; exact fit_take ⟨ao, cap, rfl, hc, HS.out⟩ HO.out h1, Below.refl _ _⟩
  · obtain ⟨x, hx, hox, hil, E', _⟩ := h3 (Nat.pos_of_ne_zero h0)
    have hox' : off < x.size := hox
    have hx' : xs[i]? = some x := hx
    obtain ⟨g, o, rfl, hcell⟩ := hs i x hx'
    obtain ⟨T, hT⟩ : ∃ T, x.extract 0 off = T := ⟨_, rfl⟩
    have E'' : aheadL xs n = xs.take i ++ [T] := by rw [← hT]; exact E'
    have E := Lib.hid E''
    have hil' : i < xs.length := hil
    have HT := Lib.hid hT
    have hfit : FitW ok w.heap.size w (.slice (some ⟨g, o, none⟩) i i) (xs.take i) := fit_take ⟨_, cap, rfl, hc, hs⟩ ho h1
    have hbA : Below w.heap.size w (w.alloc (.cells #[.string T] 9)) := (Below.refl _ _).alloc (Nat.le_refl _) _
    obtain ⟨v', w', hr, hfit', hb'⟩ := run_app (B := w.heap.size) 69 (hfit.below hbA) (by simp) (strs_one w T) (by rw [List.length_take]; simp only [List.length_cons, List.length_nil]; omega)
    clear ho h1 h2 h3 hR hs E' E'' hx hx' hox hil
    have hic : (i : Int) ≤ (cap : Int) := by omega
    have h0' : (0 : Int) < (off : Int) := by omega
    have hox2 : (off : Int) ≤ (x.size : Int) := by omega
    go_enter Try.func35, Try.ntmps35
    go_wp2_with fail
    refine H.mono ?_
    rintro e w2 ⟨rfl, rfl⟩
    go_wp2_with (at_builtin; refine wpList_app rfl _ _ _ rfl rfl rfl hr ?_)
    go_ret
    exact ⟨_, rfl, by rw [E.out]; exact hfit', hbA.trans hb'⟩
end Go.Proofs.Ytpkfmhggaiifgaa
