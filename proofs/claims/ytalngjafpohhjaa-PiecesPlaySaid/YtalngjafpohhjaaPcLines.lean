/-
  pieces: Lines: what the call returns; limnerref03.Lines: the same.
-/
import Derived.Test.YtalngjafpohhjaaPcNone
import Derived.Test.YtalngjafpohhjaaShelf
namespace Go.Proofs.Ytalngjafpohhjaa
open Go.RowKit

def linesN (s : ByteArray) : Nat := 1 + s.data.toList.count 10
theorem count_step (xs : List ByteArray) (i : Nat) (x : ByteArray) (hx : xs[i]? = some x) : (cat (xs.take (i + 1))).count 10 = (cat (xs.take i)).count 10 + x.data.toList.count 10 := by
  rw [cat_step xs i x hx, List.count_append]

set_option maxHeartbeats 1000000 in
theorem lines_text {v : Value} {s : ByteArray} {n : Nat} (w : World) (h : TextW w v s n) (hs : s.size ≤ 1000000) :
    Calls Try.prog 21 #[v] w fun e w' => e = .returned (.int .i64 (linesN s : Int)) ∧ w' = w := by
  have H := none_text w h
  have hle := h.le
  obtain ⟨b, sl, xs, rfl, c0, c1, c2, hS, hf, hc, rfl⟩ := h
  obtain ⟨ao, cap, rfl, hcap, hcell⟩ := hS
  have hlen : (cat xs).length = s.size := by rw [hc, len_bytes]
  obtain ⟨Z, hZ⟩ : ∃ Z, linesN s = Z := ⟨_, rfl⟩
  have HZ : Hid (1 + (cat xs).count 10 = Z) := by show _ = _; rw [hc]; exact hZ
  have HLE : Hid (∀ i, (cat (xs.take i)).count 10 ≤ 1000000) := fun i => by
    have h1 := cat_take_le xs i
    have h2 := List.count_le_length (a := (10 : UInt8)) (l := cat (xs.take i))
    omega
  have HCELL := Lib.hid hcell
  have HC := Lib.hid (fun x w => Try.strings_Count_one x 10 w)
  have hxl : xs.length ≤ 1000000 := by omega
  rw [hZ]
  clear hcell hc hlen hZ c0 c1 hle hs
  go_enter Try.func21, Try.ntmps21
  go_wp2_with fail
  refine H.mono ?_
  rintro e w' ⟨rfl, rfl⟩
  go_wp2
  go_loopw [3, 13] (fun s3 s13 wr => ∃ i k : Nat, s3 = .int .i64 (k : Int) ∧ s13 = .int .i64 (i : Int) ∧ wr = w' ∧ i ≤ xs.length ∧ k ≤ 1000001 ∧ Hid (1 + (cat (xs.take i)).count 10 = k)) (fun _ s13 _ => xs.length - (intOf s13).toNat)
  case atStart => exact ⟨0, 1, rfl, rfl, rfl, Nat.zero_le _, by omega, rfl⟩
  case round =>
    obtain ⟨i, k, rfl, rfl, rfl, hil, hk, HK⟩ := hrel
    by_cases hlt : i < xs.length
    · obtain ⟨x, hx⟩ : ∃ x, xs[i]? = some x := ⟨_, List.getElem?_eq_getElem hlt⟩
      obtain ⟨g, o, rfl, hcx⟩ := HCELL.out i x hx
      have hst := count_step xs i x hx
      have h1 := HLE.out (i + 1)
      have hkk := HK.out
      obtain ⟨m, hm⟩ : ∃ m, x.data.toList.count 10 = m := ⟨_, rfl⟩
      have H2 := HC.out x wr
      rw [show Lib.countByte x.data.toList 10 = m from hm] at H2
      rw [hm] at hst
      have K2 : Hid (1 + (cat (xs.take (i + 1))).count 10 = k + m) := by show _ = _; omega
      have hkm : k + m ≤ 1000001 := by omega
      have HH2 := Lib.hid H2
      have HX := Lib.hid hx
      clear hx hst h1 hkk hm H2 HK
      go_wp2_with fail
      refine HH2.out.mono ?_
      rintro e w2 ⟨rfl, rfl⟩
      go_wp2
      go_roundw
      case rel => exact ⟨i + 1, k + m, by go_num, by go_num, trivial, by omega, by omega, K2⟩
      case measure => simp [intOf]; omega
    · obtain rfl : i = xs.length := by omega
      have E : Hid (k = Z) := by show k = Z; rw [← HZ.out, ← HK.out, List.take_length]
      clear HK
      go_wp2
      go_ret
      exact ⟨by rw [E.out]; rfl, rfl⟩
theorem lines_none {v : Value} (w : World) (h : NoneW w v) :
    Calls Try.prog 21 #[v] w fun e w' => e = .returned (.int .i64 0) ∧ w' = w := by
  have H := none_none w h
  go_enter Try.func21, Try.ntmps21
  go_wp2_with fail
  refine H.mono ?_
  rintro e w' ⟨rfl, rfl⟩
  go_wp2
  go_ret
  exact ⟨rfl, rfl⟩

theorem take_count (s : ByteArray) (i : Nat) (h : i < s.size) : (s.data.toList.take (i + 1)).count 10 = (s.data.toList.take i).count 10 + if (s[i]'h).toNat = 10 then 1 else 0 := by
  have hi : i < s.data.toList.length := by rw [len_bytes]; exact h
  rw [List.take_add_one, List.getElem?_eq_getElem hi, List.count_append]
  show _ + List.count 10 [s.data.toList[i]] = _
  rw [List.count_singleton]
  congr 1
  have e : s.data.toList[i] = s[i]'h := by rw [Array.getElem_toList]; rfl
  rw [e]
  by_cases h10 : (s[i]'h).toNat = 10
  · rw [if_pos h10, if_pos]
    simp only [beq_iff_eq]
    exact UInt8.toNat_inj.1 (by rw [h10]; rfl)
  · rw [if_neg h10, if_neg]
    simp only [beq_iff_eq]
    intro h'; rw [h'] at h10; exact h10 rfl

set_option maxHeartbeats 1000000 in
theorem refLines_any (s : ByteArray) (w : World) (hs : s.size ≤ 1000000) :
    Calls Try.prog 29 #[.string s] w fun e w' => e = .returned (.int .i64 (linesN s : Int)) ∧ w' = w := by
  obtain ⟨Z, hZ⟩ : ∃ Z, linesN s = Z := ⟨_, rfl⟩
  have HZ := Lib.hid hZ
  rw [hZ]
  clear hZ
  go_enter Try.func29, Try.ntmps29
  go_wp2
  go_loopw [3, 4] (fun s3 s4 wr => ∃ i k : Nat, s3 = .int .i64 (k : Int) ∧ s4 = .int .i64 (i : Int) ∧ wr = w ∧ i ≤ s.size ∧ k ≤ 1 + i ∧ Hid (1 + (s.data.toList.take i).count 10 = k)) (fun _ s4 _ => s.size - (intOf s4).toNat)
  case atStart => exact ⟨0, 1, rfl, rfl, rfl, Nat.zero_le _, by omega, rfl⟩
  case round =>
    obtain ⟨i, k, rfl, rfl, rfl, hil, hk, HK⟩ := hrel
    by_cases hlt : i < s.size
    · have hst := take_count s i hlt
      by_cases h10 : (s[i]'hlt).toNat = 10
      · rw [if_pos h10] at hst
        have K2 : Hid (1 + (s.data.toList.take (i + 1)).count 10 = k + 1) := by show _ = _; have := HK.out; omega
        clear hst HK
        go_wp2
        go_roundw
        case rel => exact ⟨i + 1, k + 1, by go_num, by go_num, trivial, by omega, by omega, K2⟩
        case measure => simp [intOf]; omega
      · rw [if_neg h10] at hst
        have K2 : Hid (1 + (s.data.toList.take (i + 1)).count 10 = k) := by show _ = _; have := HK.out; omega
        clear hst HK
        go_wp2
        go_roundw
        case rel => exact ⟨i + 1, k, by go_num, by go_num, trivial, by omega, by omega, K2⟩
        case measure => simp [intOf]; omega
    · obtain rfl : i = s.size := by omega
      have E : Hid (k = Z) := by
        show k = Z
        have h1 := HK.out
        rw [List.take_of_length_le (by rw [len_bytes]; exact Nat.le_refl _)] at h1
        rw [← h1]; exact HZ.out
      clear HK
      go_wp2
      go_ret
      exact ⟨by rw [E.out]; rfl, rfl⟩
end Go.Proofs.Ytalngjafpohhjaa
