/-
  Plain facts: a control put into a sequence's bytes is asked for at once; the sequence goes on behind it as without it. Nothing of the program.
-/
import Derived.Test.YtbpnnnjbddjboaaDoorPsPrtN
namespace Go.Proofs.YtbpnnnjbddjboaaDoor
open Go.RowKit

/-- Within a sequence, behind its beginning. -/
def InSeq (p : Ps) : Prop := p = .bad ∨ ∃ pre y, p = .seq pre y
theorem inSeq_feed (p : Ps) (u : Nat) (h : InSeq p) (h1 : 48 ≤ u) (h2 : u ≤ 59) : InSeq (feedN p u).1 ∧ (feedN p u).2 = [] := by
  rcases h with rfl | ⟨pre, y, rfl⟩
  · show InSeq (wrongN u).1 ∧ (wrongN u).2 = []
    unfold wrongN
    rw [if_neg (by omega), if_pos (by omega)]
    exact ⟨.inl rfl, rfl⟩
  · show InSeq (seqN pre y u).1 ∧ (seqN pre y u).2 = []
    unfold seqN
    rw [if_neg (by omega), if_pos (by omega)]
    refine ⟨?_, rfl⟩
    unfold stepN
    repeat' split
    · exact .inr ⟨_, _, rfl⟩
    · exact .inr ⟨_, _, rfl⟩
    · exact .inl rfl
theorem inSeq_run : ∀ (l : List Nat) (p : Ps), InSeq p → (∀ u ∈ l, 48 ≤ u ∧ u ≤ 59) → InSeq (runN p l).1 ∧ (runN p l).2 = []
  | [], _, h, _ => ⟨h, rfl⟩
  | u :: l, p, h, hl => by
    obtain ⟨h1, h2⟩ := inSeq_feed p u h (hl u (List.mem_cons_self ..)).1 (hl u (List.mem_cons_self ..)).2
    obtain ⟨h3, h4⟩ := inSeq_run l _ h1 fun v hv => hl v (List.mem_cons_of_mem _ hv)
    rw [runN_cons, h2, h4]
    exact ⟨h3, rfl⟩
theorem in_ctl (p : Ps) (b : Nat) (h : p = .esc ∨ InSeq p) (hb : b < 27) (h1 : b ≠ 24) (h2 : b ≠ 26) : feedN p b = (p, [(2, b, [], 0)]) := by
  have hw : ∀ q, withinN q b = (q, [(2, b, [], 0)]) := fun q => by
    unfold withinN
    rw [if_neg (by omega), if_neg (by omega)]
  rcases h with rfl | rfl | ⟨pre, y, rfl⟩
  · show escN b = _
    unfold escN
    rw [if_pos (by omega), hw]
  · show wrongN b = _
    unfold wrongN
    rw [if_pos (by omega), hw]
  · show seqN pre y b = _
    unfold seqN
    rw [if_pos (by omega), hw]
theorem seq_bytes (x : Prt) : bytesN (seqB x) = 27 :: 91 :: ((midL (numsP x)).map UInt8.toNat ++ [finP x]) := by
  unfold bytesN seqB
  show (27 :: 91 :: (midL (numsP x) ++ [UInt8.ofNat (finP x)])).map UInt8.toNat = _
  rw [List.map_cons, List.map_cons, List.map_append, List.map_cons, List.map_nil, UInt8.toNat_ofNat', Nat.mod_eq_of_lt (by unfold finP; omega)]
  rfl
theorem seq_size (x : Prt) : (seqB x).size = (midL (numsP x)).length + 3 := by
  rw [Lib.size_eq]
  show (27 :: 91 :: (midL (numsP x) ++ [UInt8.ofNat (finP x)])).length = _
  rw [List.length_cons, List.length_cons, List.length_append]
  rfl
theorem run_head (x : Prt) (k : Nat) (h1 : 1 ≤ k) (h2 : k < (seqB x).size) : ((runN .zero ((bytesN (seqB x)).take k)).1 = .esc ∨ InSeq (runN .zero ((bytesN (seqB x)).take k)).1) ∧ (runN .zero ((bytesN (seqB x)).take k)).2 = [] := by
  rw [seq_size] at h2
  rw [seq_bytes]
  by_cases e : k = 1
  · subst e
    exact ⟨.inl rfl, rfl⟩
  · obtain ⟨j, rfl⟩ : ∃ j, k = j + 2 := ⟨k - 2, by omega⟩
    rw [List.take_succ_cons, List.take_succ_cons, List.take_append_of_le_length (by rw [List.length_map]; omega), runN_two]
    obtain ⟨h3, h4⟩ := inSeq_run (((midL (numsP x)).map UInt8.toNat).take j) (.seq [] none) (.inr ⟨_, _, rfl⟩) (fun u hu => by
      obtain ⟨v, hv, rfl⟩ := List.mem_map.1 (List.mem_of_mem_take hu)
      exact midL_dig _ v hv)
    exact ⟨.inr h3, h4⟩
/-- The sequence with a control within. -/
theorem run_ctl (x : Prt) (k b : Nat) (h1 : 1 ≤ k) (h2 : k < (seqB x).size) (hb : b < 27) (h24 : b ≠ 24) (h26 : b ≠ 26) :
    runN .zero (bytesN ((seqB x).extract 0 k ++ oneB b ++ (seqB x).extract k (seqB x).size)) = (.zero, [(2, b, [], 0), (3, 0, numsP x, finP x)]) := by
  obtain ⟨h3, h4⟩ := run_head x k h1 h2
  have h5 := run_seq x
  have hs : (seqB x).size = (seqB x).data.toList.length := Lib.size_eq _
  have e : bytesN ((seqB x).extract 0 k ++ oneB b ++ (seqB x).extract k (seqB x).size) = (bytesN (seqB x)).take k ++ (b :: (bytesN (seqB x)).drop k) := by
    show ((seqB x).extract 0 k ++ oneB b ++ (seqB x).extract k (seqB x).size).data.toList.map UInt8.toNat = ((seqB x).data.toList.map UInt8.toNat).take k ++ (b :: ((seqB x).data.toList.map UInt8.toNat).drop k)
    have e1 : ((seqB x).data.toList.drop k).take ((seqB x).size - k) = (seqB x).data.toList.drop k := List.take_of_length_le (by rw [List.length_drop]; omega)
    rw [app_data, List.map_append, nums_snoc _ _ (by omega), Lib.extract_data, Lib.extract_data, e1, List.drop_zero, Nat.sub_zero, List.map_take, List.map_drop, List.append_assoc]
    rfl
  rw [e, runN_app, runN_cons, in_ctl _ b h3 hb h24 h26, h4]
  rw [show bytesN (seqB x) = (bytesN (seqB x)).take k ++ (bytesN (seqB x)).drop k from (List.take_append_drop k _).symm, runN_app, h4, List.nil_append] at h5
  have h6 := congrArg Prod.fst h5
  have h7 := congrArg Prod.snd h5
  show (_, [] ++ ([(2, b, [], 0)] ++ _)) = _
  dsimp only at h6 h7
  rw [h6, h7]
  rfl
end Go.Proofs.YtbpnnnjbddjboaaDoor
