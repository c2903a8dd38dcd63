/-
  Plain facts: what the document's way of reading a rune comes to: the model's own. Nothing of the program is run here.
-/
import Derived.Test.YtdnldfgolbcjiaaDoorBe4
import Derived.Test.YtdnldfgolbcjiaaDoorBe2
import Derived.Test.YtdnldfgolbcjiaaDoorBe1
namespace Go.Proofs.YtdnldfgolbcjiaaDoor
open Go.RowKit

/-- A rune's bytes as numbers. -/
def putN (R : Nat) : List Nat :=
  if R < 128 then [R] else if R < 2048 then [192 + R / 64, 128 + R % 64] else if R < 55296 then [224 + R / 4096, 128 + R / 64 % 64, 128 + R % 64] else if R < 57344 then []
  else if R < 65536 then [224 + R / 4096, 128 + R / 64 % 64, 128 + R % 64] else if R ≤ 1114111 then [240 + R / 262144, 128 + R / 4096 % 64, 128 + R / 64 % 64, 128 + R % 64] else []

theorem ofNat_toNat (x : Nat) (h : x < 256) : (UInt8.ofNat x).toNat = x := by
  rw [UInt8.toNat_ofNat']
  exact Nat.mod_eq_of_lt h

theorem putB_yes (R : Nat) (h : (0 : Int) ≤ R ∧ (R : Int) < 55296 ∨ 57343 < (R : Int) ∧ (R : Int) ≤ 1114111) : putB (R : Int) = Utf8.encode R := by
  have hv : Lib.validRune (R : Int) = true := decide_eq_true h
  simp [putB, hv]

theorem putB_nums (R : Nat) : (putB (R : Int)).data.toList.map UInt8.toNat = putN R := by
  unfold putN
  by_cases h1 : R < 128
  · rw [if_pos h1, putB_yes R (by omega), Go.Extern.FmtText.enc1 R h1, List.map_cons, List.map_nil, ofNat_toNat _ (by omega)]
  rw [if_neg h1]
  by_cases h2 : R < 2048
  · rw [if_pos h2, putB_yes R (by omega), Go.Extern.FmtText.enc2 R h1 h2, List.map_cons, List.map_cons, List.map_nil, ofNat_toNat _ (by omega), ofNat_toNat _ (by omega)]
  rw [if_neg h2]
  by_cases h3 : R < 55296
  · rw [if_pos h3, putB_yes R (by omega), Go.Extern.FmtText.enc3 R h2 (by omega) (.inl h3), List.map_cons, List.map_cons, List.map_cons, List.map_nil, ofNat_toNat _ (by omega), ofNat_toNat _ (by omega), ofNat_toNat _ (by omega)]
  rw [if_neg h3]
  by_cases h4 : R < 57344
  · rw [if_pos h4, put_no (R : Int) (by omega)]; rfl
  rw [if_neg h4]
  by_cases h5 : R < 65536
  · rw [if_pos h5, putB_yes R (by omega), Go.Extern.FmtText.enc3 R h2 h5 (.inr (by omega)), List.map_cons, List.map_cons, List.map_cons, List.map_nil, ofNat_toNat _ (by omega), ofNat_toNat _ (by omega), ofNat_toNat _ (by omega)]
  rw [if_neg h5]
  by_cases h6 : R ≤ 1114111
  · rw [if_pos h6, putB_yes R (by omega), Go.Extern.FmtText.enc4 R h5 h6, List.map_cons, List.map_cons, List.map_cons, List.map_cons, List.map_nil, ofNat_toNat _ (by omega), ofNat_toNat _ (by omega), ofNat_toNat _ (by omega), ofNat_toNat _ (by omega)]
  rw [if_neg h6, put_no (R : Int) (by omega)]; rfl

theorem ba_eq {a b : ByteArray} : a = b ↔ a.data.toList.map UInt8.toNat = b.data.toList.map UInt8.toNat := by
  constructor
  · intro h; rw [h]
  · intro h
    apply ByteArray.ext
    apply Array.toList_inj.1
    exact (List.map_inj_right (fun x y e => UInt8.toNat_inj.1 e)).1 h

theorem part_list (L : List UInt8) (k n : Nat) (h : k + n ≤ L.length) : ((L.drop k).take n).map UInt8.toNat = (List.range n).map fun j => (L.getD (k + j) 0).toNat := by
  apply List.ext_getElem
  · simp; omega
  · intro i h1 h2
    simp at h1
    simp [List.getD, List.getElem?_eq_getElem (show k + i < L.length by omega)]
theorem part_nums (s : ByteArray) (k n : Nat) (h : k + n ≤ s.size) : (s.extract k (k + n)).data.toList.map UInt8.toNat = (List.range n).map fun j => bt s (k + j) := by
  rw [Lib.extract_data, Nat.add_sub_cancel_left, part_list _ _ _ (by rw [← Lib.size_eq]; exact h)]
  apply List.map_congr_left
  intro j _
  rw [bt_data]

/-- What the document's loop has gathered behind j bytes more. -/
def accR (s : ByteArray) (k : Nat) : Nat → Nat
  | 0 => bgR (bt s k)
  | j + 1 => accR s k j * 64 + bt s (k + (j + 1)) % 64

theorem nat1 (m b0 b1 b2 b3 : Nat) (h : b0 < 128) : Lib.decodeN m b0 b1 b2 b3 = (b0, 1) := by
  unfold Lib.decodeN
  rw [if_pos h]
theorem nat0 (m b0 b1 b2 b3 : Nat) (h : (128 ≤ b0 ∧ b0 < 192) ∨ 248 ≤ b0) : Lib.decodeN m b0 b1 b2 b3 = (65533, 1) := by
  unfold Lib.decodeN
  repeat' split
  all_goals first | (exfalso; omega) | rfl
theorem nat2y (m b0 b1 b2 b3 : Nat) (h : 192 ≤ b0 ∧ b0 < 224) (hm : 2 ≤ m) (h1 : b1 / 64 = 2) (hR : 128 ≤ (b0 - 192) * 64 + b1 % 64) : Lib.decodeN m b0 b1 b2 b3 = ((b0 - 192) * 64 + b1 % 64, 2) := by
  unfold Lib.decodeN
  rw [if_neg (by omega), if_pos (by omega), if_pos (by omega), show b0 % 32 = b0 - 192 by omega]
theorem nat2n (m b0 b1 b2 b3 : Nat) (h : 192 ≤ b0 ∧ b0 < 224) (hn : ¬ (2 ≤ m ∧ b1 / 64 = 2 ∧ 128 ≤ (b0 - 192) * 64 + b1 % 64)) : Lib.decodeN m b0 b1 b2 b3 = (65533, 1) := by
  unfold Lib.decodeN
  repeat' split
  all_goals first | (exfalso; omega) | rfl
theorem nat3y (m b0 b1 b2 b3 : Nat) (h : 224 ≤ b0 ∧ b0 < 240) (hm : 3 ≤ m) (h1 : b1 / 64 = 2) (h2 : b2 / 64 = 2) (hR : 2048 ≤ ((b0 - 224) * 64 + b1 % 64) * 64 + b2 % 64) (hS : ((b0 - 224) * 64 + b1 % 64) * 64 + b2 % 64 < 55296 ∨ 57344 ≤ ((b0 - 224) * 64 + b1 % 64) * 64 + b2 % 64) :
    Lib.decodeN m b0 b1 b2 b3 = (((b0 - 224) * 64 + b1 % 64) * 64 + b2 % 64, 3) := by
  unfold Lib.decodeN
  rw [if_neg (by omega), if_neg (by omega), if_pos (by omega), if_pos (by omega), show b0 % 16 * 4096 + b1 % 64 * 64 + b2 % 64 = ((b0 - 224) * 64 + b1 % 64) * 64 + b2 % 64 by omega]
theorem nat3n (m b0 b1 b2 b3 : Nat) (h : 224 ≤ b0 ∧ b0 < 240) (hn : ¬ (3 ≤ m ∧ b1 / 64 = 2 ∧ b2 / 64 = 2 ∧ 2048 ≤ ((b0 - 224) * 64 + b1 % 64) * 64 + b2 % 64 ∧ (((b0 - 224) * 64 + b1 % 64) * 64 + b2 % 64 < 55296 ∨ 57344 ≤ ((b0 - 224) * 64 + b1 % 64) * 64 + b2 % 64))) :
    Lib.decodeN m b0 b1 b2 b3 = (65533, 1) := by
  unfold Lib.decodeN
  repeat' split
  all_goals first | (exfalso; omega) | rfl
theorem nat4y (m b0 b1 b2 b3 : Nat) (h : 240 ≤ b0 ∧ b0 < 248) (hm : 4 ≤ m) (h1 : b1 / 64 = 2) (h2 : b2 / 64 = 2) (h3 : b3 / 64 = 2) (hR : 65536 ≤ (((b0 - 240) * 64 + b1 % 64) * 64 + b2 % 64) * 64 + b3 % 64) (hS : (((b0 - 240) * 64 + b1 % 64) * 64 + b2 % 64) * 64 + b3 % 64 ≤ 1114111) :
    Lib.decodeN m b0 b1 b2 b3 = ((((b0 - 240) * 64 + b1 % 64) * 64 + b2 % 64) * 64 + b3 % 64, 4) := by
  unfold Lib.decodeN
  rw [if_neg (by omega), if_neg (by omega), if_neg (by omega), if_pos (by omega), if_pos (by omega), show b0 % 8 * 262144 + b1 % 64 * 4096 + b2 % 64 * 64 + b3 % 64 = (((b0 - 240) * 64 + b1 % 64) * 64 + b2 % 64) * 64 + b3 % 64 by omega]
theorem nat4n (m b0 b1 b2 b3 : Nat) (h : 240 ≤ b0 ∧ b0 < 248) (hn : ¬ (4 ≤ m ∧ b1 / 64 = 2 ∧ b2 / 64 = 2 ∧ b3 / 64 = 2 ∧ 65536 ≤ (((b0 - 240) * 64 + b1 % 64) * 64 + b2 % 64) * 64 + b3 % 64 ∧ (((b0 - 240) * 64 + b1 % 64) * 64 + b2 % 64) * 64 + b3 % 64 ≤ 1114111)) :
    Lib.decodeN m b0 b1 b2 b3 = (65533, 1) := by
  unfold Lib.decodeN
  repeat' split
  all_goals first | (exfalso; omega) | rfl

theorem put2iff (b0 b1 : Nat) (h : 192 ≤ b0 ∧ b0 < 224) (hb : b1 < 256) : putN ((b0 - 192) * 64 + b1 % 64) = [b0, b1] ↔ (b1 / 64 = 2 ∧ 128 ≤ (b0 - 192) * 64 + b1 % 64) := by
  unfold putN
  repeat' split
  all_goals simp only [List.cons.injEq, and_true, List.cons_ne_nil, reduceCtorEq, and_false, false_iff]
  all_goals omega
theorem put3iff (b0 b1 b2 : Nat) (h : 224 ≤ b0 ∧ b0 < 240) (hb : b1 < 256) (hb2 : b2 < 256) : putN (((b0 - 224) * 64 + b1 % 64) * 64 + b2 % 64) = [b0, b1, b2] ↔ (b1 / 64 = 2 ∧ b2 / 64 = 2 ∧ 2048 ≤ ((b0 - 224) * 64 + b1 % 64) * 64 + b2 % 64 ∧ (((b0 - 224) * 64 + b1 % 64) * 64 + b2 % 64 < 55296 ∨ 57344 ≤ ((b0 - 224) * 64 + b1 % 64) * 64 + b2 % 64)) := by
  unfold putN
  repeat' split
  all_goals simp only [List.cons.injEq, and_true, List.cons_ne_nil, reduceCtorEq, and_false, false_iff]
  all_goals omega
theorem put4iff (b0 b1 b2 b3 : Nat) (h : 240 ≤ b0 ∧ b0 < 248) (hb : b1 < 256) (hb2 : b2 < 256) (_ : b3 < 256) : putN ((((b0 - 240) * 64 + b1 % 64) * 64 + b2 % 64) * 64 + b3 % 64) = [b0, b1, b2, b3] ↔ (b1 / 64 = 2 ∧ b2 / 64 = 2 ∧ b3 / 64 = 2 ∧ 65536 ≤ (((b0 - 240) * 64 + b1 % 64) * 64 + b2 % 64) * 64 + b3 % 64 ∧ (((b0 - 240) * 64 + b1 % 64) * 64 + b2 % 64) * 64 + b3 % 64 ≤ 1114111) := by
  unfold putN
  repeat' split
  all_goals simp only [List.cons.injEq, and_true, reduceCtorEq, and_false, false_iff]
  all_goals omega

/-- WHAT THE DOCUMENT's WAY TELLS: the model's own. -/
theorem read_both (s : ByteArray) (k n : Nat) (hk : k < s.size) (hn : bgN (bt s k) = n) :
    ((0 < n ∧ k + n ≤ s.size ∧ putB (accR s k (n - 1) : Nat) = s.extract k (k + n)) → Utf8.decode s k = (accR s k (n - 1), n) ∧ (n = 1 → accR s k (n - 1) < 128)) ∧
    (¬ (0 < n ∧ k + n ≤ s.size ∧ putB (accR s k (n - 1) : Nat) = s.extract k (k + n)) → Utf8.decode s k = (65533, 1)) := by
  have hb0 := bt_lt s k
  have hb1 := bt_lt s (k + 1)
  have hb2 := bt_lt s (k + 2)
  have hb3 := bt_lt s (k + 3)
  have hE : k + n ≤ s.size → (putB (accR s k (n - 1) : Nat) = s.extract k (k + n) ↔ putN (accR s k (n - 1)) = (List.range n).map fun j => bt s (k + j)) := fun h => by
    rw [ba_eq, putB_nums, part_nums s k n h]
  rw [dec_bt]
  by_cases c1 : bt s k < 128
  · have h1 : n = 1 := by rw [← hn]; unfold bgN; rw [if_pos c1]
    subst h1
    have ha : accR s k 0 = bt s k := by unfold accR bgR; rw [if_pos c1]
    have hp : putB (accR s k (1 - 1) : Nat) = s.extract k (k + 1) := by
      rw [hE (by omega), show 1 - 1 = 0 from rfl, ha]
      unfold putN; rw [if_pos c1]; rfl
    constructor
    · intro _
      rw [show 1 - 1 = 0 from rfl, ha]
      exact ⟨nat1 _ _ _ _ _ c1, fun _ => c1⟩
    · intro h; exact absurd ⟨by omega, by omega, hp⟩ h
  by_cases c2 : bt s k < 192
  · have h1 : n = 0 := by rw [← hn]; unfold bgN; rw [if_neg c1, if_pos c2]
    exact ⟨fun h => absurd h.1 (by omega), fun _ => nat0 _ _ _ _ _ (.inl (by omega))⟩
  by_cases c3 : bt s k < 224
  · have h1 : n = 2 := by rw [← hn]; unfold bgN; rw [if_neg c1, if_neg c2, if_pos c3]
    subst h1
    have ha : accR s k 1 = (bt s k - 192) * 64 + bt s (k + 1) % 64 := by unfold accR accR bgR; rw [if_neg c1, if_neg c2, if_pos c3]
    have hl : ((List.range 2).map fun j => bt s (k + j)) = [bt s k, bt s (k + 1)] := rfl
    rw [hl, show 2 - 1 = 1 from rfl, ha] at hE
    rw [show 2 - 1 = 1 from rfl, ha]
    constructor
    · intro ⟨_, h2, h3⟩
      have := (put2iff _ _ ⟨by omega, c3⟩ hb1).1 ((hE h2).1 h3)
      exact ⟨nat2y _ _ _ _ _ ⟨by omega, c3⟩ (by omega) this.1 this.2, fun h => by omega⟩
    · intro h
      apply nat2n _ _ _ _ _ ⟨by omega, c3⟩
      intro ⟨g1, g2⟩
      exact h ⟨by omega, by omega, (hE (by omega)).2 ((put2iff _ _ ⟨by omega, c3⟩ hb1).2 g2)⟩
  by_cases c4 : bt s k < 240
  · have h1 : n = 3 := by rw [← hn]; unfold bgN; rw [if_neg c1, if_neg c2, if_neg c3, if_pos c4]
    subst h1
    have ha : accR s k 2 = ((bt s k - 224) * 64 + bt s (k + 1) % 64) * 64 + bt s (k + 2) % 64 := by unfold accR accR accR bgR; rw [if_neg c1, if_neg c2, if_neg c3, if_pos c4]
    have hl : ((List.range 3).map fun j => bt s (k + j)) = [bt s k, bt s (k + 1), bt s (k + 2)] := rfl
    rw [hl, show 3 - 1 = 2 from rfl, ha] at hE
    rw [show 3 - 1 = 2 from rfl, ha]
    constructor
    · intro ⟨_, h2, h3⟩
      have := (put3iff _ _ _ ⟨by omega, c4⟩ hb1 hb2).1 ((hE h2).1 h3)
      exact ⟨nat3y _ _ _ _ _ ⟨by omega, c4⟩ (by omega) this.1 this.2.1 this.2.2.1 this.2.2.2, fun h => by omega⟩
    · intro h
      apply nat3n _ _ _ _ _ ⟨by omega, c4⟩
      intro ⟨g1, g2⟩
      exact h ⟨by omega, by omega, (hE (by omega)).2 ((put3iff _ _ _ ⟨by omega, c4⟩ hb1 hb2).2 g2)⟩
  by_cases c5 : bt s k < 248
  · have h1 : n = 4 := by rw [← hn]; unfold bgN; rw [if_neg c1, if_neg c2, if_neg c3, if_neg c4, if_pos c5]
    subst h1
    have ha : accR s k 3 = (((bt s k - 240) * 64 + bt s (k + 1) % 64) * 64 + bt s (k + 2) % 64) * 64 + bt s (k + 3) % 64 := by unfold accR accR accR accR bgR; rw [if_neg c1, if_neg c2, if_neg c3, if_neg c4, if_pos c5]
    have hl : ((List.range 4).map fun j => bt s (k + j)) = [bt s k, bt s (k + 1), bt s (k + 2), bt s (k + 3)] := rfl
    rw [hl, show 4 - 1 = 3 from rfl, ha] at hE
    rw [show 4 - 1 = 3 from rfl, ha]
    constructor
    · intro ⟨_, h2, h3⟩
      have := (put4iff _ _ _ _ ⟨by omega, c5⟩ hb1 hb2 hb3).1 ((hE h2).1 h3)
      exact ⟨nat4y _ _ _ _ _ ⟨by omega, c5⟩ (by omega) this.1 this.2.1 this.2.2.1 this.2.2.2.1 this.2.2.2.2, fun h => by omega⟩
    · intro h
      apply nat4n _ _ _ _ _ ⟨by omega, c5⟩
      intro ⟨g1, g2⟩
      exact h ⟨by omega, by omega, (hE (by omega)).2 ((put4iff _ _ _ _ ⟨by omega, c5⟩ hb1 hb2 hb3).2 g2)⟩
  · have h1 : n = 0 := by rw [← hn]; unfold bgN; rw [if_neg c1, if_neg c2, if_neg c3, if_neg c4, if_neg c5]
    exact ⟨fun h => absurd h.1 (by omega), fun _ => nat0 _ _ _ _ _ (.inr (by omega))⟩
end Go.Proofs.YtdnldfgolbcjiaaDoor
