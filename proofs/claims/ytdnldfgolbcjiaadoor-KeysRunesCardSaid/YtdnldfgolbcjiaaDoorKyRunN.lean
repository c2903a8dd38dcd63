/-
  Plain facts: the bytes of one rune, one behind the other, are its key with the last one. Nothing of the program.
-/
import Derived.Test.YtdnldfgolbcjiaaDoorKyTolN
namespace Go.Proofs.YtdnldfgolbcjiaaDoor
open Go.RowKit

theorem pre_bt (R k i : Nat) (h : i < k) : bt ((putB (R : Int)).extract 0 k) i = (putN R).getD i 0 := by rw [bt_head _ _ _ h, put_bt]
theorem pre_size (R k : Nat) (h : k ≤ (putN R).length) : ((putB (R : Int)).extract 0 k).size = k := head_size _ _ (by rw [put_size]; exact h)
/-- So many of a rune's bytes, and not all, are a beginning. -/
theorem put_beg (R k : Nat) (h : R < 55296 ∨ 57344 ≤ R ∧ R ≤ 1114111) (h0 : 0 < k) (hk : k < (putN R).length) : Beg ((putB (R : Int)).extract 0 k) := by
  have hs := pre_size R k (Nat.le_of_lt hk)
  have hb := fun i hi => pre_bt R k i hi
  by_cases h1 : R < 128
  · have e : putN R = [R] := by unfold putN; rw [if_pos h1]
    rw [e] at hk
    have : k < 1 := hk
    omega
  by_cases h2 : R < 2048
  · have e : putN R = [192 + R / 64, 128 + R % 64] := by unfold putN; rw [if_neg h1, if_pos h2]
    rw [e] at hk hb
    have hk2 : k < 2 := hk
    have e0 : bt ((putB (R : Int)).extract 0 k) 0 = 192 + R / 64 := hb 0 h0
    refine .inl ⟨by omega, ?_, ?_⟩ <;> omega
  have three : R < 55296 ∨ 57344 ≤ R → R < 65536 → Beg ((putB (R : Int)).extract 0 k) := by
    intro h3 h4
    have e : putN R = [224 + R / 4096, 128 + R / 64 % 64, 128 + R % 64] := by
      unfold putN
      rw [if_neg h1, if_neg h2]
      by_cases h5 : R < 55296
      · rw [if_pos h5]
      · rw [if_neg h5, if_neg (by omega), if_pos h4]
    rw [e] at hk hb
    have hk2 : k < 3 := hk
    have e0 : bt ((putB (R : Int)).extract 0 k) 0 = 224 + R / 4096 := hb 0 h0
    by_cases k1 : k = 1
    · refine .inl ⟨by omega, ?_, ?_⟩ <;> omega
    · have e1 : bt ((putB (R : Int)).extract 0 k) 1 = 128 + R / 64 % 64 := hb 1 (by omega)
      refine .inr (.inl ⟨by omega, by omega, by omega, ?_, ?_⟩)
      · rw [e0, e1]; unfold loB; rw [if_neg (show ¬ 224 + R / 4096 = 240 by omega)]; split <;> omega
      · rw [e0, e1]; unfold hiB; rw [if_neg (show ¬ 224 + R / 4096 = 244 by omega)]; split <;> omega
  by_cases h4 : R < 65536
  · exact three (by omega) h4
  · have e : putN R = [240 + R / 262144, 128 + R / 4096 % 64, 128 + R / 64 % 64, 128 + R % 64] := by
      unfold putN
      rw [if_neg h1, if_neg h2, if_neg (by omega), if_neg (by omega), if_neg h4, if_pos (by omega)]
    rw [e] at hk hb
    have hk2 : k < 4 := hk
    have e0 : bt ((putB (R : Int)).extract 0 k) 0 = 240 + R / 262144 := hb 0 h0
    have lo : loB (240 + R / 262144) ≤ 128 + R / 4096 % 64 := by
      unfold loB
      rw [if_neg (show ¬ 240 + R / 262144 = 224 by omega)]
      split <;> omega
    have hi : 128 + R / 4096 % 64 ≤ hiB (240 + R / 262144) := by
      unfold hiB
      rw [if_neg (show ¬ 240 + R / 262144 = 237 by omega)]
      split <;> omega
    by_cases k1 : k = 1
    · refine .inl ⟨by omega, ?_, ?_⟩ <;> omega
    have e1 : bt ((putB (R : Int)).extract 0 k) 1 = 128 + R / 4096 % 64 := hb 1 (by omega)
    by_cases k2 : k = 2
    · exact .inr (.inl ⟨by omega, by omega, by omega, by rw [e0, e1]; exact lo, by rw [e0, e1]; exact hi⟩)
    have e2 : bt ((putB (R : Int)).extract 0 k) 2 = 128 + R / 64 % 64 := hb 2 (by omega)
    exact .inr (.inr ⟨by omega, by omega, by omega, by rw [e0, e1]; exact lo, by rw [e0, e1]; exact hi, by omega, by omega⟩)
theorem pre_step (s : ByteArray) (k : Nat) (h : k < s.size) : s.extract 0 k ++ oneS (bt s k) = s.extract 0 (k + 1) := by
  refine ba_eq.2 ?_
  have hl : k < s.data.toList.length := by rw [← Lib.size_eq]; exact h
  rw [app_data, Lib.extract_data, Lib.extract_data, List.drop_zero, Nat.sub_zero, Nat.sub_zero, List.map_append, List.take_succ_eq_append_getElem hl, List.map_append]
  congr 1
  rw [nums_one _ (bt_lt s k), bt_data, List.getD, List.getElem?_eq_getElem hl]
  rfl
/-- What waits behind so many bytes of a rune. -/
def preS (R k : Nat) : ByteArray := if k = (putN R).length then noB else (putB (R : Int)).extract 0 k
theorem rune_step (R k : Nat) (h : R < 55296 ∨ 57344 ≤ R ∧ R ≤ 1114111) (h32 : 32 ≤ R) (h127 : R ≠ 127) (hk : k < (putN R).length) :
    feedK (.held (preS R k)) (bt (putB (R : Int)) k) = (.held (preS R (k + 1)), if k + 1 = (putN R).length then [(1, R, noB)] else []) := by
  obtain ⟨hd, _, _, _, _⟩ := dec_put R h
  have hp := put_size R
  unfold preS
  rw [if_neg (show ¬ k = (putN R).length by omega)]
  have hstep := pre_step (putB (R : Int)) k (by rw [hp]; exact hk)
  have hfull : (putB (R : Int)).extract 0 (putN R).length = putB (R : Int) := by
    refine ba_eq.2 ?_
    rw [Lib.extract_data, List.drop_zero, Nat.sub_zero, List.take_of_length_le (by rw [← Lib.size_eq, hp]; exact Nat.le_refl _)]
  show heldK ((putB (R : Int)).extract 0 k) (bt (putB (R : Int)) k) = _
  by_cases k0 : k = 0
  · subst k0
    have e0 : (putB (R : Int)).extract 0 0 = noB := by
      refine ba_eq.2 ?_
      rw [Lib.extract_data]; rfl
    rw [e0] at hstep ⊢
    have hno : noB ++ oneS (bt (putB (R : Int)) 0) = oneS (bt (putB (R : Int)) 0) := ba_eq.2 (by rw [app_data]; rfl)
    rw [hno] at hstep
    have hh : heldK noB (bt (putB (R : Int)) 0) = firstK (bt (putB (R : Int)) 0) := by unfold heldK; rw [if_pos (show noB.size = 0 from rfl)]
    rw [hh]
    by_cases n1 : (putN R).length = 1
    · have hR : R < 128 := by
        rcases Nat.lt_or_ge R 128 with h1 | h1
        · exact h1
        · exfalso
          unfold putN at n1
          rw [if_neg (by omega)] at n1
          repeat' split at n1
          all_goals first | (simp at n1; done) | (exfalso; omega)
      have e : putN R = [R] := by unfold putN; rw [if_pos hR]
      have hb0 : bt (putB (R : Int)) 0 = R := by rw [put_bt, e]; rfl
      rw [hb0, n1, if_pos rfl, if_pos rfl]
      unfold firstK
      rw [if_neg]
      · show (Ky.held noB, [oneK R]) = _
        unfold oneK
        rw [if_neg (by omega), if_pos hR]
      · rintro (h1 | h1)
        · omega
        · have := beg_first _ (of_decide_eq_true h1 : Beg _)
          rw [bt_one R (by omega)] at this
          omega
    · have hB := put_beg R 1 h (by decide) (by omega)
      rw [if_neg (by omega), if_neg (by omega)]
      unfold firstK
      rw [← hstep] at hB ⊢
      rw [if_pos (.inr (decide_eq_true hB))]
  · have hB := put_beg R k h (by omega) hk
    have hsz := pre_size R k (Nat.le_of_lt hk)
    have hbf := beg_first _ hB
    unfold heldK
    rw [if_neg (by omega), if_pos (by omega)]
    rw [hstep]
    unfold runeK
    by_cases n1 : k + 1 = (putN R).length
    · rw [n1, hfull, if_pos rfl, if_pos rfl]
      have hok : okAt (putB (R : Int)) 0 = true := by
        unfold okAt
        rw [hd, hp]
        simp
        omega
      rw [if_pos hok, hd]
    · have hB2 := put_beg R (k + 1) h (by omega) (by omega)
      have hok : okAt ((putB (R : Int)).extract 0 (k + 1)) 0 = false := by unfold okAt; rw [beg_none _ hB2]; rfl
      rw [if_neg n1, if_neg n1, if_neg (by rw [hok]; decide), if_pos (show begB _ = true from decide_eq_true hB2), hstep]
end Go.Proofs.YtdnldfgolbcjiaaDoor
