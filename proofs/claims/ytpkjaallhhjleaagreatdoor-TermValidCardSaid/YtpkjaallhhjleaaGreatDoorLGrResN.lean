/-
  Plain facts: a frame laid anew row by row: what stands after so many rows. Nothing of the program is run here.
-/
import Derived.Test.YtpkjaallhhjleaaGreatDoorBa13
namespace Go.Proofs.YtpkjaallhhjleaaGreatDoor
open Go.RowKit

/-- One row of what is laid: taken over from the old frame, if it is one of the first i and the old frame has it. -/
def mixRow (f : Frm) (q i k : Nat) : List Cel := if (k : Int) < f.rows ∧ k < i then resL (rowK f.cells f.cols.toNat k) q else List.replicate q blkC
theorem mixRow_len (f : Frm) (q i k : Nat) : (mixRow f q i k).length = q := by
  unfold mixRow
  split
  · exact res_len _ _
  · exact List.length_replicate
def mixR (f : Frm) (p q i : Nat) : List Cel := (List.range p).flatMap fun k => mixRow f q i k
theorem mixR_len (f : Frm) (p q i : Nat) : (mixR f p q i).length = p * q := flat_len fun k _ => mixRow_len f q i k
theorem mixR_row (f : Frm) (p q i k : Nat) (hk : k < p) : rowK (mixR f p q i) q k = mixRow f q i k := flat_row (fun k _ => mixRow_len f q i k) k hk
theorem mixR_zero (f : Frm) (p q : Nat) (hq : 0 < q) : mixR f p q 0 = List.replicate (p * q) blkC := by
  refine rows_ext (m := p) hq (mixR_len f p q 0) List.length_replicate fun k hk => ?_
  rw [mixR_row f p q 0 k hk, rep_row p q k hk]
  unfold mixRow
  rw [if_neg (by omega)]
theorem mixR_end (f : Frm) (p q i : Nat) (hq : 0 < q) (h : p ≤ i ∨ f.rows ≤ (i : Int)) : mixR f p q i = resC f p q := by
  refine rows_ext (m := p) hq (mixR_len f p q i) (resC_len f p q) fun k hk => ?_
  rw [mixR_row f p q i k hk, resC_row f p q k hk]
  unfold mixRow
  by_cases h1 : (k : Int) < f.rows
  · rw [if_pos h1, if_pos ⟨h1, by omega⟩]
  · rw [if_neg h1, if_neg (fun c => h1 c.1)]
theorem mixR_step (f : Frm) (p q i : Nat) (hq : 0 < q) (hi : i < p) (hr : (i : Int) < f.rows) : setK (mixR f p q i) q i (resL (rowK f.cells f.cols.toNat i) q) = mixR f p q (i + 1) := by
  refine rows_ext (m := p) hq (setK_len _ (mixR_len f p q i) hi (res_len _ _)) (mixR_len f p q (i + 1)) fun k hk => ?_
  rw [setK_row _ (mixR_len f p q i) hi (res_len _ _), mixR_row f p q (i + 1) k hk]
  by_cases h : k = i
  · subst h
    rw [if_pos rfl]
    unfold mixRow
    rw [if_pos ⟨hr, by omega⟩]
  · rw [if_neg h, mixR_row f p q i k hk]
    unfold mixRow
    by_cases h2 : (k : Int) < f.rows ∧ k < i
    · rw [if_pos h2, if_pos ⟨h2.1, by omega⟩]
    · rw [if_neg h2, if_neg (fun c => h2 ⟨c.1, by omega⟩)]
theorem mixR_cur (f : Frm) (p q i : Nat) (hi : i < p) : rowK (mixR f p q i) q i = List.replicate q blkC := by
  rw [mixR_row f p q i i hi]
  unfold mixRow
  rw [if_neg (fun c => Nat.lt_irrefl _ c.2)]

/-- The first j cells of a blank row laid over. -/
theorem over_row {L R l : List Cel} {m q i j : Nat} (hl : L.length = m * q) (hi : i < m) (hR : R.length = q) (hj : j ≤ q) (hlj : l.length = j) : (setK L q i R).take (i * q) ++ l ++ (setK L q i R).drop (i * q + j) = setK L q i (l ++ R.drop j) := by
  have hr := row_room (n := q) hi
  have ht : (L.take (i * q)).length = i * q := by rw [List.length_take]; omega
  unfold setK
  rw [List.append_assoc, List.append_assoc (L.take (i * q)) R]
  rw [List.take_append_of_le_length (by omega), List.take_of_length_le (by omega), List.drop_append, List.drop_of_length_le (by omega), List.nil_append, ht, show i * q + j - i * q = j by omega,
    List.drop_append_of_le_length (by omega), List.append_assoc, List.append_assoc]
/-- copy of a row into a blank one. -/
theorem copy_row {L l : List Cel} {m q i k : Nat} (hl : L.length = m * q) (hi : i < m) (hb : rowK L q i = List.replicate q blkC) (hk : k = min l.length q) : L.take (i * q) ++ l.take k ++ L.drop (i * q + k) = setK L q i (l.take q ++ List.replicate (q - l.length) blkC) := by
  have h := over_row (l := l.take k) (R := List.replicate q blkC) (j := k) hl hi List.length_replicate (by omega) (by rw [List.length_take]; omega)
  rw [← hb, setK_self, hb, List.drop_replicate] at h
  rw [h]
  have e1 : l.take k = l.take q := by
    rw [hk]
    by_cases h2 : l.length ≤ q
    · rw [Nat.min_eq_left h2, List.take_length, List.take_of_length_le h2]
    · rw [Nat.min_eq_right (by omega)]
  rw [e1, show q - k = q - l.length by omega]
/-- The last of the cells taken over, mended. -/
theorem last_row {L l : List Cel} {m q i k : Nat} (hl : L.length = m * q) (hi : i < m) (hk : k = min l.length q) (h0 : 0 < k) :
    (setK L q i (l.take q ++ List.replicate (q - l.length) blkC))[i * q + (k - 1)]? = l[k - 1]? ∧
    (∀ c, l[k - 1]? = some c → setK L q i (resL l q) = if c.2.1 = 2 then (setK L q i (l.take q ++ List.replicate (q - l.length) blkC)).set (i * q + (k - 1)) blkC else setK L q i (l.take q ++ List.replicate (q - l.length) blkC)) := by
  have hR : (l.take q ++ List.replicate (q - l.length) blkC).length = q := by rw [List.length_append, List.length_take, List.length_replicate]; omega
  have ht : (l.take q).length = k := by rw [List.length_take]; omega
  have ha : (l.take q)[k - 1]? = l[k - 1]? := by rw [List.getElem?_take, if_pos (by omega)]
  refine ⟨?_, fun c hc => ?_⟩
  · rw [setK_at hl hi hR (by omega), List.getElem?_append_left (by omega)]
    exact ha
  · unfold resL lastC
    rw [ht, ha, hc]
    by_cases h2 : c.2.1 = 2
    · rw [if_pos h2, if_pos (by simp [h2]), setK_set _ hl hi hR (by omega), List.set_append_left _ _ (by omega)]
    · rw [if_neg h2, if_neg (by simp [h2])]
end Go.Proofs.YtpkjaallhhjleaaGreatDoor
