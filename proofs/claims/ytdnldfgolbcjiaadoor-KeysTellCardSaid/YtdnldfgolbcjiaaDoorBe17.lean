/-
  Plain facts: the bytes of one rune ask for that rune. Nothing of the program.
-/
import Derived.Test.YtdnldfgolbcjiaaDoorBe3
import Derived.Test.YtdnldfgolbcjiaaDoorBe6
import Derived.Test.YtdnldfgolbcjiaaDoorBe16
namespace Go.Proofs.YtdnldfgolbcjiaaDoor
open Go.RowKit

/-- The bytes of a text, as numbers. -/
def bytesN (s : ByteArray) : List Nat := s.data.toList.map UInt8.toNat
theorem bt_l (s : ByteArray) (b i : Nat) (h : i < s.size) : bt (s ++ oneS b) i = bt s i := bt_appL s (oneS b) i h
theorem bt_r (s : ByteArray) (b i : Nat) (h : i = s.size) (hb : b < 256) : bt (s ++ oneS b) i = b := by
  subst h
  have := bt_appR s (oneS b) 0
  rw [Nat.add_zero, bt_one b hb] at this
  exact this
theorem nums_one (b : Nat) (h : b < 256) : (oneS b).data.toList.map UInt8.toNat = [b] := by
  show [(UInt8.ofNat b).toNat] = [b]
  rw [ofNat_toNat b h]
theorem nums_snoc (s : ByteArray) (b : Nat) (h : b < 256) : (s ++ oneS b).data.toList.map UInt8.toNat = s.data.toList.map UInt8.toNat ++ [b] := by rw [app_data, List.map_append, nums_one b h]
theorem first_run (b : Nat) (hb : b < 256) (h : Beg (oneS b)) : feedN .zero b = (.start (oneS b), []) := by
  have h1 : 194 ≤ b := by
    have h2 := beg_first _ h
    rw [bt_one b hb] at h2
    exact h2.2.1
  show firstN b = _
  unfold firstN
  rw [if_neg (by omega), if_neg (by omega), if_neg (by omega), if_pos (show begB (oneS b) = true from decide_eq_true h)]
theorem start_run (s : ByteArray) (b : Nat) (h : Beg (s ++ oneS b)) : feedN (.start s) b = (.start (s ++ oneS b), []) := by
  show startN s b = _
  have ho : okAt (s ++ oneS b) 0 = false := by unfold okAt; rw [beg_none _ h]; rfl
  unfold startN
  rw [if_neg (by rw [ho]; decide), if_pos (show begB (s ++ oneS b) = true from decide_eq_true h)]
theorem end_run (s : ByteArray) (b R n : Nat) (h : Utf8.decode (s ++ oneS b) 0 = (R, n)) (hn : n ≠ 1) : feedN (.start s) b = (.zero, [(1, R, [], 0)]) := by
  show startN s b = _
  have ho : okAt (s ++ oneS b) 0 = true := by unfold okAt; rw [h]; simp [hn]
  unfold startN
  rw [if_pos ho, h]
/-- One rune's bytes ask for it. -/
theorem run_rune (R : Nat) (h : R < 55296 ∨ 57344 ≤ R ∧ R ≤ 1114111) (h32 : 32 ≤ R) (h127 : R ≠ 127) : runN .zero (bytesN (putB (R : Int))) = (.zero, [(1, R, [], 0)]) := by
  obtain ⟨hd, _, _, _, _⟩ := dec_put R h
  have hp := put_size R
  have hb := putB_nums R
  show runN .zero ((putB (R : Int)).data.toList.map UInt8.toNat) = _
  rw [hb]
  by_cases h1 : R < 128
  · have e : putN R = [R] := by unfold putN; rw [if_pos h1]
    rw [e, runN_cons]
    show ((runN (firstN R).1 []).1, (firstN R).2 ++ []) = _
    unfold firstN
    rw [if_neg (by omega), if_neg (by omega), if_pos h1]
    rfl
  by_cases h2 : R < 2048
  · have e : putN R = [192 + R / 64, 128 + R % 64] := by unfold putN; rw [if_neg h1, if_pos h2]
    have eb : putB (R : Int) = oneS (192 + R / 64) ++ oneS (128 + R % 64) := ba_eq.2 (by rw [hb, e, nums_snoc _ _ (by omega), nums_one _ (by omega)]; rfl)
    have B1 : Beg (oneS (192 + R / 64)) := .inl ⟨rfl, by rw [bt_one _ (by omega)]; omega, by rw [bt_one _ (by omega)]; omega⟩
    rw [hp, e, eb] at hd
    rw [e, runN_cons, first_run _ (by omega) B1, runN_cons, end_run _ _ R 2 hd (by decide)]
    rfl
  have three : R < 55296 ∨ 57344 ≤ R → R < 65536 → runN .zero (putN R) = (.zero, [(1, R, [], 0)]) := by
    intro h3 h4
    have e : putN R = [224 + R / 4096, 128 + R / 64 % 64, 128 + R % 64] := by
      unfold putN
      rw [if_neg h1, if_neg h2]
      by_cases h5 : R < 55296
      · rw [if_pos h5]
      · rw [if_neg h5, if_neg (by omega), if_pos h4]
    have eb : putB (R : Int) = oneS (224 + R / 4096) ++ oneS (128 + R / 64 % 64) ++ oneS (128 + R % 64) := ba_eq.2 (by rw [hb, e, nums_snoc _ _ (by omega), nums_snoc _ _ (by omega), nums_one _ (by omega)]; rfl)
    have B1 : Beg (oneS (224 + R / 4096)) := .inl ⟨rfl, by rw [bt_one _ (by omega)]; omega, by rw [bt_one _ (by omega)]; omega⟩
    have B2 : Beg (oneS (224 + R / 4096) ++ oneS (128 + R / 64 % 64)) := by
      refine .inr (.inl ⟨rfl, ?_, ?_, ?_, ?_⟩)
      all_goals rw [bt_l _ _ 0 (by rw [one_size]; decide), bt_one _ (by omega)]
      · omega
      · omega
      · rw [bt_r _ _ 1 rfl (by omega)]
        unfold loB
        rw [if_neg (show ¬ 224 + R / 4096 = 240 by omega)]
        split <;> omega
      · rw [bt_r _ _ 1 rfl (by omega)]
        unfold hiB
        rw [if_neg (show ¬ 224 + R / 4096 = 244 by omega)]
        split <;> omega
    rw [hp, e, eb] at hd
    rw [e, runN_cons, first_run _ (by omega) B1, runN_cons, start_run _ _ B2, runN_cons, end_run _ _ R 3 hd (by decide)]
    rfl
  by_cases h4 : R < 65536
  · exact three (by omega) h4
  · have e : putN R = [240 + R / 262144, 128 + R / 4096 % 64, 128 + R / 64 % 64, 128 + R % 64] := by
      unfold putN
      rw [if_neg h1, if_neg h2, if_neg (by omega), if_neg (by omega), if_neg h4, if_pos (by omega)]
    have eb : putB (R : Int) = oneS (240 + R / 262144) ++ oneS (128 + R / 4096 % 64) ++ oneS (128 + R / 64 % 64) ++ oneS (128 + R % 64) := ba_eq.2 (by rw [hb, e, nums_snoc _ _ (by omega), nums_snoc _ _ (by omega), nums_snoc _ _ (by omega), nums_one _ (by omega)]; rfl)
    have B1 : Beg (oneS (240 + R / 262144)) := .inl ⟨rfl, by rw [bt_one _ (by omega)]; omega, by rw [bt_one _ (by omega)]; omega⟩
    have lo : loB (240 + R / 262144) ≤ 128 + R / 4096 % 64 := by
      unfold loB
      rw [if_neg (show ¬ 240 + R / 262144 = 224 by omega)]
      split <;> omega
    have hi : 128 + R / 4096 % 64 ≤ hiB (240 + R / 262144) := by
      unfold hiB
      rw [if_neg (show ¬ 240 + R / 262144 = 237 by omega)]
      split <;> omega
    have B2 : Beg (oneS (240 + R / 262144) ++ oneS (128 + R / 4096 % 64)) := by
      refine .inr (.inl ⟨rfl, ?_, ?_, ?_, ?_⟩)
      all_goals rw [bt_l _ _ 0 (by rw [one_size]; decide), bt_one _ (by omega)]
      · omega
      · omega
      · rw [bt_r _ _ 1 rfl (by omega)]; exact lo
      · rw [bt_r _ _ 1 rfl (by omega)]; exact hi
    have B3 : Beg (oneS (240 + R / 262144) ++ oneS (128 + R / 4096 % 64) ++ oneS (128 + R / 64 % 64)) := by
      have s2 : (oneS (240 + R / 262144) ++ oneS (128 + R / 4096 % 64)).size = 2 := rfl
      refine .inr (.inr ⟨rfl, ?_, ?_, ?_, ?_, ?_, ?_⟩)
      · rw [bt_l _ _ 0 (by rw [s2]; decide), bt_l _ _ 0 (by rw [one_size]; decide), bt_one _ (by omega)]; omega
      · rw [bt_l _ _ 0 (by rw [s2]; decide), bt_l _ _ 0 (by rw [one_size]; decide), bt_one _ (by omega)]; omega
      · rw [bt_l _ _ 0 (by rw [s2]; decide), bt_l _ _ 0 (by rw [one_size]; decide), bt_one _ (by omega), bt_l _ _ 1 (by rw [s2]; decide), bt_r _ _ 1 rfl (by omega)]; exact lo
      · rw [bt_l _ _ 0 (by rw [s2]; decide), bt_l _ _ 0 (by rw [one_size]; decide), bt_one _ (by omega), bt_l _ _ 1 (by rw [s2]; decide), bt_r _ _ 1 rfl (by omega)]; exact hi
      · rw [bt_r _ _ 2 rfl (by omega)]; omega
      · rw [bt_r _ _ 2 rfl (by omega)]; omega
    rw [hp, e, eb] at hd
    rw [e, runN_cons, first_run _ (by omega) B1, runN_cons, start_run _ _ B2, runN_cons, start_run _ _ B3, runN_cons, end_run _ _ R 4 hd (by decide)]
    rfl
end Go.Proofs.YtdnldfgolbcjiaaDoor
