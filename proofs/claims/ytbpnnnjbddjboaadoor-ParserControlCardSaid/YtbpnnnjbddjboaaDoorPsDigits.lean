/-
  limnerlaw07.digits: what it returns: of every number from 0 on.
-/
import Derived.Test.YtbpnnnjbddjboaaDoorPsSmall
import Derived.Lib.ItoaNum
import Derived.Deep.DeepFit
namespace Go.Proofs.YtbpnnnjbddjboaaDoor
open Go.RowKit

set_option maxRecDepth 20000 in
set_option maxHeartbeats 2000000 in
theorem digits_any : ∀ (k n : Nat) (w : World), n ≤ k → n ≤ 1000000 →
    Calls Tryd.prog 26 #[.int .i64 (n : Int)] w fun e w' => e = .returned (.string ⟨(Lib.decDigits n).toArray⟩) ∧ Below w.heap.size w w'
  | k, n, w, hk, hn => by
    obtain ⟨d, hd⟩ : ∃ d, n % 10 = d := ⟨_, rfl⟩
    have hd9 : d ≤ 9 := by omega
    have cv := convP_new [48 + (d : Int)] w
    simp only [List.map_cons, List.map_nil, List.length_cons, List.length_nil] at cv
    rw [show strOfNums [48 + (d : Int)] = oneB (48 + d) from rfl] at cv
    have hb1 : Below w.heap.size w (w.alloc (.cells #[.int .u8 (48 + (d : Int))] 5)) := (Below.refl _ _).alloc (Nat.le_refl _) _
    have HB1 := Lib.hid hb1
    have v1 : (n : Int) % 10 = (d : Int) := by omega
    have v3 : Int.tmod (n : Int) 10 = (d : Int) := by rw [Int.tmod_eq_emod_of_nonneg (by omega)]; omega
    have v2 : IntKind.u8.wrap (48 + (d : Int)) = 48 + (d : Int) := by rw [IntKind.wrap_u8]; omega
    have HD := Lib.hid hd
    clear hd
    by_cases h : n < 10
    · have HR : Hid (Lib.decDigits n = [UInt8.ofNat (48 + d)]) := by
        show _ = _
        rw [Lib.decDigits, dif_pos h, ← HD.out, Nat.mod_eq_of_lt h]
      have hi : (n : Int) < 10 := by omega
      clear hb1
      go_enter Tryd.func26, Tryd.ntmps26
      go_wp2_with fail
      go_ret
      exact ⟨by rw [HR.out]; rfl, HB1.out⟩
    · have HIH := Lib.hid (fun W => digits_any (k - 1) (n / 10) W (by omega) (by omega))
      have hl : (Lib.decDigits (n / 10)).length ≤ n / 10 + 1 := by
        have hlen : ∀ (j m : Nat), m ≤ j → (Lib.decDigits m).length ≤ m + 1 := by
          intro j
          induction j with
          | zero => intro m hm; obtain rfl : m = 0 := by omega
                    rw [Lib.decDigits, dif_pos (by decide)]; exact Nat.le_refl _
          | succ j ih =>
            intro m hm
            rw [Lib.decDigits]
            split
            · simp
            · rw [List.length_append]
              have := ih (m / 10) (by omega)
              show _ + 1 ≤ _
              omega
        exact hlen (n / 10) (n / 10) (Nat.le_refl _)
      have HR : Hid ((⟨(Lib.decDigits n).toArray⟩ : ByteArray) = ⟨(Lib.decDigits (n / 10)).toArray⟩ ++ oneB (48 + d)) := by
        show _ = _
        apply ByteArray.ext
        apply Array.toList_inj.1
        rw [app_data]
        show Lib.decDigits n = Lib.decDigits (n / 10) ++ [UInt8.ofNat (48 + d)]
        rw [Lib.decDigits, dif_neg h, ← HD.out]
      have hi : (10 : Int) ≤ (n : Int) := by omega
      obtain ⟨q, hq⟩ : ∃ q, n / 10 = q := ⟨_, rfl⟩
      have v4 : (n : Int) / 10 = (q : Int) := by omega
      have v5 : Int.tdiv (n : Int) 10 = (q : Int) := by rw [Int.tdiv_eq_ediv_of_nonneg (by omega)]; omega
      rw [hq] at HIH HR hl
      obtain ⟨S, hS⟩ : ∃ S, (⟨(Lib.decDigits q).toArray⟩ : ByteArray) = S := ⟨_, rfl⟩
      have hSs : S.size ≤ q + 1 := by rw [← hS]; exact hl
      have e4 : (oneB (48 + d)).size = 1 := rfl
      rw [hS] at HIH HR
      have hqn : q ≤ 1000000 := by omega
      clear hb1 hq hS hl
      go_enter Tryd.func26, Tryd.ntmps26
      go_wp2_with fail
      go_fit (HIH.out _)
      rintro e w1 ⟨rfl, hb2⟩
      go_wp2_with fail
      go_ret
      exact ⟨by rw [HR.out]; rfl, HB1.out.trans (hb2.mono HB1.out.size)⟩
termination_by k => k
decreasing_by omega
end Go.Proofs.YtbpnnnjbddjboaaDoor
