/-
  sort.Find over a function value that only makes memory: what it returns: whether one of the places answers 0.
-/
import Derived.Shelf.Abstract
import Derived.Test.YtdnldfgolbcjiaaDoorBe7
namespace Go.Proofs.YtdnldfgolbcjiaaDoor
open Go.RowKit Go.Shelf

set_option maxHeartbeats 2000000 in
theorem find_any (g : Nat) (cb : Array Value) (n : Nat) (p : Nat → Int) (w : World) (hn : n ≤ 1000) (eg : ∀ args w, (callFunc g args).run Tryd.prog w = .ok (.enter g args) w)
    (hf : ∀ (w1 : World) (i : Nat), Below w.heap.size w w1 → i < n → Calls Tryd.prog g (#[.int .i64 (i : Int)] ++ cb) w1 fun e w2 => e = .returned (.int .i64 (p i)) ∧ Below w1.heap.size w1 w2)
    (hpos : ∀ a b, a ≤ b → b < n → 0 < p b → 0 < p a) (hneg : ∀ a b, a ≤ b → b < n → p a < 0 → p b < 0) :
    Calls Tryd.prog 70 #[.int .i64 (n : Int), .func (.func g) #[] cb] w fun e w' => (∃ i : Int, e = .returned (.tuple #[.int .i64 i, .bool (foundB n p)])) ∧ Below w.heap.size w w' := by
  have HF := Lib.hid hf
  have HP := Lib.hid hpos
  have HG := Lib.hid (found_iff n p)
  have HM := Lib.hid hneg
  clear hf hpos hneg
  obtain ⟨F, hF⟩ : ∃ F, foundB n p = F := ⟨_, rfl⟩
  rw [hF]
  rw [hF] at HG
  clear hF
  go_enter Tryd.func70, Tryd.ntmps70
  go_wp2
  go_loopw [4, 6] (fun s4 s6 wr => ∃ lo hi : Nat, s4 = .int .i64 (lo : Int) ∧ s6 = .int .i64 (hi : Int) ∧ lo ≤ hi ∧ hi ≤ n ∧ Below w.heap.size w wr ∧ Hid ((∀ t, t < lo → 0 < p t) ∧ (∀ t, hi ≤ t → t < n → p t ≤ 0))) (fun s4 s6 _ => (intOf s6).toNat - (intOf s4).toNat)
  case atStart => exact ⟨0, n, rfl, rfl, Nat.zero_le _, Nat.le_refl _, Below.refl _ _, ⟨fun t ht => absurd ht (Nat.not_lt_zero _), fun t h1 h2 => by omega⟩⟩
  case round =>
    obtain ⟨lo, hi, rfl, rfl, hlh, hin, hbw, I⟩ := hrel
    by_cases hlt : lo < hi
    · have hc := HF.out wr ((lo + hi) / 2) hbw (by omega)
      rw [show (((lo + hi) / 2 : Nat) : Int) = ((lo : Int) + (hi : Int)) / 2 by omega] at hc
      have hsz := hbw.size
      by_cases hp : 0 < p ((lo + hi) / 2)
      · have I2 : Hid ((∀ t, t < (lo + hi) / 2 + 1 → 0 < p t) ∧ (∀ t, hi ≤ t → t < n → p t ≤ 0)) := ⟨fun t ht => HP.out t ((lo + hi) / 2) (by omega) (by omega) hp, I.out.2⟩
        obtain ⟨x, hx⟩ : ∃ x, p ((lo + hi) / 2) = x := ⟨_, rfl⟩
        rw [hx] at hc hp
        have HC := Lib.hid hc
        clear hc hx
        go_wp2_with (go_at_fn g; refine HC.out.mono ?_; rintro e w' ⟨rfl, hb⟩)
        go_roundw
        case rel => exact ⟨(lo + hi) / 2 + 1, hi, by rw [show ((lo : Int) + (hi : Int)) / 2 + 1 = (((lo + hi) / 2 + 1 : Nat) : Int) by omega], rfl, by omega, hin, hbw.trans (hb.mono hsz), I2⟩
        case measure => simp [intOf]; omega
      · have hp2 : p ((lo + hi) / 2) ≤ 0 := by omega
        have I2 : Hid ((∀ t, t < lo → 0 < p t) ∧ (∀ t, (lo + hi) / 2 ≤ t → t < n → p t ≤ 0)) := ⟨I.out.1, fun t h1 h2 => by
          by_cases h : 0 < p t
          · exact absurd (HP.out ((lo + hi) / 2) t h1 h2 h) hp
          · omega⟩
        obtain ⟨x, hx⟩ : ∃ x, p ((lo + hi) / 2) = x := ⟨_, rfl⟩
        rw [hx] at hc hp hp2
        have HC := Lib.hid hc
        clear hc hx hp
        go_wp2_with (go_at_fn g; refine HC.out.mono ?_; rintro e w' ⟨rfl, hb⟩)
        go_roundw
        case rel => exact ⟨lo, (lo + hi) / 2, rfl, by rw [show ((lo : Int) + (hi : Int)) / 2 = (((lo + hi) / 2 : Nat) : Int) by omega], by omega, by omega, hbw.trans (hb.mono hsz), I2⟩
        case measure => simp [intOf]; omega
    · obtain rfl : hi = lo := by omega
      have hg := HG.out hi hin I.out.1 I.out.2 HM.out
      by_cases hlt2 : hi < n
      · have hc := HF.out wr hi hbw hlt2
        rw [decide_eq_true hlt2, Bool.true_and] at hg
        have hsz := hbw.size
        obtain ⟨x, hx⟩ : ∃ x, p hi = x := ⟨_, rfl⟩
        rw [hx] at hc hg
        have HC := Lib.hid hc
        have HG2 := Lib.hid hg
        clear hc hx hg
        go_wp2_with (go_at_fn g; refine HC.out.mono ?_; rintro e w' ⟨rfl, hb⟩)
        go_ret2
        exact ⟨⟨(hi : Int), by rw [HG2.out]; rfl⟩, hbw.trans (hb.mono hsz)⟩
      · rw [decide_eq_false hlt2, Bool.false_and] at hg
        have HG2 := Lib.hid hg
        clear hg
        go_wp2
        go_ret2
        exact ⟨⟨(hi : Int), by rw [HG2.out]; rfl⟩, hbw⟩
end Go.Proofs.YtdnldfgolbcjiaaDoor
