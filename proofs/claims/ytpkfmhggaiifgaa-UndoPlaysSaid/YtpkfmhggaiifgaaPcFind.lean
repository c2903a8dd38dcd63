/-
  pieces: find: the piece in which a place lies: what the call returns.
-/
import Derived.Test.YtpkfmhggaiifgaaPcsW
namespace Go.Proofs.Ytpkfmhggaiifgaa
open Go.RowKit

set_option maxHeartbeats 1000000 in
theorem pcFind_any (b : Nat) (sl : Value) (xs : List ByteArray) (n : Nat) (w : World) (c2 : w.cell? ⟨b, 2, none⟩ = some sl) (hS : StrsW w sl xs) (hn : n ≤ 1000000) (hl : xs.length ≤ 1000000) :
    Calls Try.prog 44 #[.pointer (some ⟨b, 0, none⟩), .int .i64 (n : Int)] w fun e w' => e = .returned (.tuple #[.int .i64 ((findL xs n).1 : Int), .int .i64 ((findL xs n).2 : Int)]) ∧ w' = w := by
  obtain ⟨ao, cap, rfl, hc, hs⟩ := hS
  obtain ⟨R, hR⟩ : ∃ R, findL xs n = R := ⟨_, rfl⟩
  rw [hR]
  have HR := Lib.hid hR
  have HS := Lib.hid hs
  clear hR hs
  go_enter Try.func44, Try.ntmps44
  go_wp2
  go_loopw [13, 1] (fun s13 s1 wr => ∃ i m : Nat, s13 = .int .i64 (i : Int) ∧ s1 = .int .i64 (m : Int) ∧ wr = w ∧ i ≤ xs.length ∧ m ≤ n ∧ Hid (R = (i + (findL (xs.drop i) m).1, (findL (xs.drop i) m).2))) (fun s13 _ _ => xs.length - (intOf s13).toNat)
  case atStart => exact ⟨0, n, rfl, rfl, rfl, Nat.zero_le _, Nat.le_refl _, by show R = _; rw [← HR.out]; simp⟩
  case round =>
    obtain ⟨i, m, rfl, rfl, rfl, hi, hmn, I⟩ := hrel
    by_cases hlt : i < xs.length
    · obtain ⟨x, hx⟩ : ∃ x, xs[i]? = some x := ⟨_, List.getElem?_eq_getElem hlt⟩
      obtain ⟨g, o, rfl, hcell⟩ := HS.out i x hx
      by_cases hm : m < x.size
      · have E : Hid (R = (i, m)) := by show R = _; rw [I.out, find_here xs i m x hx hm]; rfl
        have HX := Lib.hid hx
        clear I hx
        go_wp2
        go_ret2
        exact ⟨by rw [E.out]; rfl, rfl⟩
      · have E : Hid (R = (i + 1 + (findL (xs.drop (i + 1)) (m - x.size)).1, (findL (xs.drop (i + 1)) (m - x.size)).2)) := by
          show R = _; rw [I.out, find_step xs i m x hx hm]
          show (_, _) = (_, _)
          congr 1; omega
        have HX := Lib.hid hx
        clear I hx
        go_wp2
        go_roundw
        case rel => exact ⟨i + 1, m - x.size, by go_num, by go_num, trivial, by omega, by omega, E⟩
        case measure => simp [intOf]; omega
    · have E : Hid (R = (xs.length, 0)) := by
        show R = _; rw [I.out, find_end xs i m hlt]
        show (_, _) = (_, _)
        congr 1; omega
      clear I
      go_wp2
      go_ret2
      exact ⟨by rw [E.out]; rfl, rfl⟩
end Go.Proofs.Ytpkfmhggaiifgaa
