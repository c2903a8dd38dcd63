/-
  Texts of this proof, one behind the other; each begins with its own remark.
-/
import Derived.Test.YtdnldfgolbcjiaaDoorRows
import Derived.WalkKit
import Derived.WalkSpells
import Derived.WalkLawsBesides
import Derived.Lib.OthersKept
import Derived.Lib.TrimU
import Derived.Lib.RuneCountTail
import Derived.Lib.QuoteLoop
import Derived.Deep.QuietTactic
import Derived.BigQuiet
import Derived.Lib.Hide
import Derived.WalkSmall
/-
  Plain facts on decoding a text, and the places where runes stand in it. Nothing of the program.
-/
namespace Go.Proofs.YtdnldfgolbcjiaaDoor
open Go.RowKit

theorem decW (s : ByteArray) (k : Nat) (h : k < s.size) : 1 ≤ (Utf8.decode s k).2 ∧ k + (Utf8.decode s k).2 ≤ s.size := by
  have h1 := Lib.width_pos s k
  have h2 := Lib.width_le (s.extract k s.size) (by rw [Lib.tail_size]; omega)
  rw [Lib.tail_decode, Lib.tail_size] at h2
  simp only [Nat.add_zero] at h2
  omega

theorem lt_of_block {w : World} {k : Nat} {o : Obj} (h : w.heap[k]? = some o) : k < w.heap.size := by
  rcases Nat.lt_or_ge k w.heap.size with h1 | h1
  · exact h1
  · rw [Array.getElem?_eq_none h1] at h; cases h

/-- What Next tells of a place within the text. -/
def okAt (s : ByteArray) (k : Nat) : Bool := !decide ((Utf8.decode s k).1 = 65533 ∧ (Utf8.decode s k).2 = 1)

/-- The places from p on, at most so many. -/
def stL (s : ByteArray) : Nat → Nat → List Nat
  | 0, _ => []
  | f + 1, p => if p < s.size then p :: stL s f (p + (Utf8.decode s p).2) else []

theorem stL_end (s : ByteArray) (f p : Nat) (h : ¬ p < s.size) : stL s f p = [] := by
  cases f with
  | zero => rfl
  | succ f => simp [stL, h]

theorem stL_step (s : ByteArray) (f p : Nat) (h : p < s.size) : stL s (f + 1) p = p :: stL s f (p + (Utf8.decode s p).2) := by simp [stL, h]

theorem stL_length (s : ByteArray) : ∀ f p, (stL s f p).length ≤ s.size - p
  | 0, p => by simp [stL]
  | f + 1, p => by
    by_cases h : p < s.size
    · have := decW s p h
      have ih := stL_length s f (p + (Utf8.decode s p).2)
      rw [stL_step s f p h, List.length_cons]
      omega
    · rw [stL_end s _ p h]; simp

def stA (s : ByteArray) : List Nat := stL s s.size 0

theorem stA_length (s : ByteArray) : (stA s).length ≤ s.size := by have := stL_length s s.size 0; unfold stA; omega

def allOk (s : ByteArray) (l : List Nat) : Bool := l.all (okAt s)

theorem allOk_cons (s : ByteArray) (p : Nat) (l : List Nat) : allOk s (p :: l) = (okAt s p && allOk s l) := by simp [allOk]

end Go.Proofs.YtdnldfgolbcjiaaDoor

/-
  Plain facts: what the first byte of a rune tells. Nothing of the program.
-/
namespace Go.Proofs.YtdnldfgolbcjiaaDoor
open Go.RowKit

/-- How many bytes a rune has that begins with b; what that tells of it. -/
def bgN (b : Nat) : Nat := if b < 128 then 1 else if b < 192 then 0 else if b < 224 then 2 else if b < 240 then 3 else if b < 248 then 4 else 0

def bgR (b : Nat) : Nat := if b < 128 then b else if b < 192 then 0 else if b < 224 then b - 192 else if b < 240 then b - 224 else if b < 248 then b - 240 else 0

theorem bgN_le (b : Nat) : bgN b ≤ 4 := by
  unfold bgN
  repeat' split
  all_goals omega

theorem bgR_le (b : Nat) : bgR b ≤ 127 := by
  unfold bgR
  repeat' split
  all_goals omega

theorem bgR_le2 (b : Nat) (h : 2 ≤ bgN b) : bgR b ≤ 31 := by
  revert h
  unfold bgN bgR
  repeat' split
  all_goals omega

theorem bg_ret {N R : Nat} {n r : Int} (h1 : n = (N : Int)) (h2 : r = (R : Int)) : Ending.returned (.tuple #[.int .i64 n, .int .i32 r]) = .returned (.tuple #[.int .i64 (N : Int), .int .i32 (R : Int)]) := by rw [h1, h2]

end Go.Proofs.YtdnldfgolbcjiaaDoor

/-
  codes.front and codes.Next: what each call returns and what it leaves of memory: for every text and every place. No condition but that a text's length fits an int.
-/
namespace Go.Proofs.YtdnldfgolbcjiaaDoor
open Go.RowKit

set_option maxHeartbeats 1000000 in
theorem front_any (s : ByteArray) (w : World) (h0 : 0 < s.size) (hs : s.size ≤ maxLen) :
    Calls Tryd.prog 64 #[.string s] w fun e w' => e = .returned (.tuple #[.int .i32 ((Utf8.decode s 0).1 : Int), .int .i64 ((Utf8.decode s 0).2 : Int)]) ∧ Below w.heap.size w w' := by
  unfold maxLen at hs
  obtain ⟨hw1, hw2⟩ := decW s 0 h0
  rw [Nat.zero_add] at hw2
  obtain ⟨R, hR⟩ : ∃ R, (Utf8.decode s 0).1 = R := ⟨_, rfl⟩
  obtain ⟨K, hK⟩ : ∃ K, (Utf8.decode s 0).2 = K := ⟨_, rfl⟩
  rw [hR, hK]
  rw [hK] at hw1 hw2
  have HR := Lib.hid hR
  have HK := Lib.hid hK
  clear hR hK
  go_enter Tryd.func64, Tryd.ntmps64
  go_wp2
  go_loopw [2] (fun v wr => Below w.heap.size w wr ∧ ((wr.heap[w.heap.size]? = some (.stringIter s 0) ∧ v = .int .i32 0) ∨ (wr.heap[w.heap.size]? = some (.stringIter s K) ∧ v = .int .i32 (R : Int)))) (fun _ wr => s.size - wr.iterPos w.heap.size)
  case atStart => exact ⟨(Below.refl _ _).alloc (Nat.le_refl _) _, .inl ⟨World.iter_heap w s 0, rfl⟩⟩
  case round =>
    obtain ⟨hbw, ⟨hit, rfl⟩ | ⟨hit, rfl⟩⟩ := hrel
    · have hpos0 := iterPos_of hit
      have hnx : ∀ ty, (Instr.next (.pointer (some ⟨w.heap.size, 0, none⟩)) true ty).run Tryd.prog wr = _ := fun ty => Lib.run_next_any_at wr w.heap.size s 0 ty hit h0
      have hit2 := Lib.iterAt_heap wr w.heap.size s 0 K hit
      have hbw2 := Lib.below_iterAt hbw (k := w.heap.size) (Nat.le_refl _) s K
      simp only [HR.out, HK.out, Nat.zero_add] at hnx
      obtain ⟨W1, hW1⟩ : ∃ W1, W1 = wr.iterAt w.heap.size s K := ⟨_, rfl⟩
      rw [← hW1] at hnx hit2 hbw2
      clear hW1 hit hbw
      go_wp2
      go_roundw
      case rel => exact ⟨hbw2, .inr ⟨hit2, rfl⟩⟩
      case measure => rw [iterPos_of hit2, hpos0]; omega
    · by_cases hp : K < s.size
      · have hnx : ∀ ty, (Instr.next (.pointer (some ⟨w.heap.size, 0, none⟩)) true ty).run Tryd.prog wr = _ := fun ty => Lib.run_next_any_at wr w.heap.size s K ty hit hp
        have hbw2 := Lib.below_iterAt hbw (k := w.heap.size) (Nat.le_refl _) s (K + (Utf8.decode s K).2)
        obtain ⟨W1, hW1⟩ : ∃ W1, W1 = wr.iterAt w.heap.size s (K + (Utf8.decode s K).2) := ⟨_, rfl⟩
        rw [← hW1] at hnx hbw2
        clear hW1 hit hbw
        go_wp2
        go_ret2
        exact ⟨rfl, hbw2⟩
      · have hnx : ∀ ty, (Instr.next (.pointer (some ⟨w.heap.size, 0, none⟩)) true ty).run Tryd.prog wr = _ := fun ty => Lib.run_next_end_at wr w.heap.size s K ty hit hp
        clear hit
        go_wp2
        go_ret2
        exact ⟨by rw [show s.size = K by omega]; rfl, hbw⟩

set_option maxHeartbeats 1000000 in
theorem next_in (s : ByteArray) (at' : Int) (w : World) (h0 : 0 ≤ at') (h1 : at' < s.size) (hs : s.size ≤ maxLen) :
    Calls Tryd.prog 53 #[.string s, .int .i64 at'] w fun e w' => e = .returned (.tuple #[.int .i32 ((Utf8.decode s at'.toNat).1 : Int), .int .i64 ((Utf8.decode s at'.toNat).2 : Int), .bool (okAt s at'.toNat)]) ∧ Below w.heap.size w w' := by
  obtain ⟨k, rfl⟩ := Int.eq_ofNat_of_zero_le h0
  rw [Int.toNat_natCast]
  have hk : k < s.size := by omega
  have hsz : (s.extract k s.size).size = s.size - k := Lib.tail_size s k
  have hfr := fun w => front_any (s.extract k s.size) w (by omega) (by omega)
  rw [Lib.tail_decode, Nat.add_zero] at hfr
  obtain ⟨hw1, hw2⟩ := decW s k hk
  have hrm := Lib.rune_le s k
  unfold okAt
  unfold maxLen at hs
  clear hsz
  obtain ⟨R, hR⟩ : ∃ R, (Utf8.decode s k).1 = R := ⟨_, rfl⟩
  obtain ⟨K, hK⟩ : ∃ K, (Utf8.decode s k).2 = K := ⟨_, rfl⟩
  rw [hR, hK] at hfr
  rw [hR, hK]
  rw [hK] at hw1 hw2
  rw [hR] at hrm
  have HF := Lib.hid hfr
  clear hR hK hfr
  by_cases e : R = 65533
  · subst e
    by_cases e1 : K = 1
    · subst e1
      go_enter Tryd.func53, Tryd.ntmps53
      go_wp2_with (go_at_call 64; refine (HF.out _).mono ?_; rintro e w' ⟨rfl, hb⟩)
      go_ret3
      exact ⟨rfl, hb⟩
    · have e2 : 1 < K := by omega
      have e3 : ((1 : Int) < (K : Int)) := by omega
      go_enter Tryd.func53, Tryd.ntmps53
      go_wp2_with (go_at_call 64; refine (HF.out _).mono ?_; rintro e w' ⟨rfl, hb⟩)
      go_ret3
      exact ⟨by simp [e1], hb⟩
  · have e1 : ((R : Int) == 65533) = false := by rw [beq_eq_false_iff_ne]; omega
    have e2 : ((R : Int) != 65533) = true := by rw [bne_iff_ne]; omega
    go_enter Tryd.func53, Tryd.ntmps53
    go_wp2_with (go_at_call 64; refine (HF.out _).mono ?_; rintro e w' ⟨rfl, hb⟩)
    go_ret3
    exact ⟨by simp [e], hb⟩

set_option maxHeartbeats 1000000 in
theorem next_out (s : ByteArray) (at' : Int) (w : World) (h : at' < 0 ∨ (s.size : Int) ≤ at') :
    Calls Tryd.prog 53 #[.string s, .int .i64 at'] w fun e w' => e = .returned (.tuple #[.int .i32 0, .int .i64 0, .bool false]) ∧ w' = w := by
  by_cases h0 : at' < 0
  · go_enter Tryd.func53, Tryd.ntmps53
    go_wp2
    go_ret3
    exact ⟨rfl, rfl⟩
  · have h1 : (s.size : Int) ≤ at' := by omega
    go_enter Tryd.func53, Tryd.ntmps53
    go_wp2
    go_ret3
    exact ⟨rfl, rfl⟩

end Go.Proofs.YtdnldfgolbcjiaaDoor
