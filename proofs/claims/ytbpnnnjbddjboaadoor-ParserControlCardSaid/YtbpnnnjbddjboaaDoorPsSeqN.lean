/-
  Plain facts on what is kept of a sequence: where its last part begins, how many parts there are, what it is cut into; with one more byte. Nothing of the program.
-/
import Derived.Test.YtbpnnnjbddjboaaDoorPsN
import Derived.Lib.LastIndexByte
import Derived.Lib.SplitLaws
import Derived.Lib.IndexBytes
import Derived.Lib.IndexLaws
namespace Go.Proofs.YtbpnnnjbddjboaaDoor
open Go.RowKit

def allDig (pre : List (Option Nat)) (x : Option Nat) : List UInt8 := rendL pre x
theorem part_sep (x : Option Nat) : (59 : UInt8) ∉ partL x := fun h => by
  have := part_dig x 59 h
  unfold digitU at this
  simp at this
theorem part_quest (x : Option Nat) : (63 : UInt8) ∉ partL x := fun h => by
  have := part_dig x 63 h
  unfold digitU at this
  simp at this
theorem pre_quest (pre : List (Option Nat)) : (63 : UInt8) ∉ preL' pre := fun h => by
  unfold preL' at h
  obtain ⟨y, _, hy⟩ := List.mem_flatMap.1 h
  rcases List.mem_append.1 hy with hy | hy
  · exact part_quest y hy
  · simp at hy
theorem rend_data (pre : List (Option Nat)) (x : Option Nat) : (rend pre x).data.toList = rendL pre x := rfl
theorem rend_size (pre : List (Option Nat)) (x : Option Nat) : (rend pre x).size = (preL' pre).length + (partL x).length := by
  rw [Lib.size_eq, rend_data]; unfold rendL; rw [List.length_append]
/-- It is not the mark of what may not be. -/
theorem rend_ne (pre : List (Option Nat)) (x : Option Nat) : (rend pre x).data.toList ≠ [63] := fun h => by
  have h1 : (63 : UInt8) ∈ rendL pre x := by rw [← rend_data, h]; exact List.mem_singleton.2 rfl
  unfold rendL at h1
  rcases List.mem_append.1 h1 with h1 | h1
  · exact pre_quest pre h1
  · exact part_quest x h1
theorem pre_count (pre : List (Option Nat)) : (preL' pre).count 59 = pre.length := by
  induction pre with
  | nil => rfl
  | cons y pre ih =>
    show ((partL y ++ [59]) ++ preL' pre).count 59 = _
    rw [List.count_append, List.count_append, ih, List.count_eq_zero.2 (part_sep y), List.length_cons]
    show 0 + 1 + _ = _
    omega
theorem rend_count (pre : List (Option Nat)) (x : Option Nat) : Lib.countByte (rend pre x).data.toList 59 = pre.length := by
  show (rendL pre x).count 59 = _
  unfold rendL
  rw [List.count_append, pre_count, List.count_eq_zero.2 (part_sep x)]
  omega
theorem pre_last (pre : List (Option Nat)) (h : pre ≠ []) : ∃ r, preL' pre = r ++ [59] := by
  rcases List.eq_nil_or_concat pre with rfl | ⟨q, y, rfl⟩
  · exact absurd rfl h
  · refine ⟨preL' q ++ partL y, ?_⟩
    rw [List.concat_eq_append]
    unfold preL'
    rw [List.flatMap_append]
    simp
/-- Where the last part begins. -/
theorem rend_last (pre : List (Option Nat)) (x : Option Nat) : Lib.lastIndexByte (rend pre x) 59 + 1 = ((preL' pre).length : Int) := by
  have hz : ∀ (j : Nat) u, (rendL pre x)[j]? = some u → (rend pre x).data[j]! = u := fun j u hu => by
    show (rendL pre x).toArray[j]! = u
    simp [hu]
  have hin : ∀ j, (preL' pre).length ≤ j → j < (rend pre x).size → (((rend pre x).data[j]!).toNat : Int) ≠ 59 := fun j h1 h2 h3 => by
    rw [rend_size] at h2
    have h4 : (rendL pre x)[j]? = some ((partL x)[j - (preL' pre).length]'(by omega)) := by
      unfold rendL
      rw [List.getElem?_append_right h1, List.getElem?_eq_getElem]
    rw [hz j _ h4] at h3
    have h5 := part_dig x _ (List.getElem_mem (l := partL x) (n := j - (preL' pre).length) (by omega))
    unfold digitU at h5
    omega
  by_cases hp : pre = []
  · subst hp
    rcases Lib.lastIndexByte_spec (rend [] x) 59 with ⟨h1, _⟩ | ⟨i, h1, _, h3, _⟩
    · rw [h1]; rfl
    · exact absurd h3 (hin i (Nat.zero_le _) h1)
  · obtain ⟨r, hr⟩ := pre_last pre hp
    have hl : (preL' pre).length = r.length + 1 := by rw [hr, List.length_append]; rfl
    have h59 : (rend pre x).data[r.length]! = 59 := hz _ _ (by
      unfold rendL
      rw [hr, List.append_assoc, List.getElem?_append_right (Nat.le_refl _), Nat.sub_self]
      rfl)
    have hsz := rend_size pre x
    rcases Lib.lastIndexByte_spec (rend pre x) 59 with ⟨_, h2⟩ | ⟨i, h1, h2, h3, h4⟩
    · exact absurd (by rw [h59]; rfl) (h2 r.length (by omega))
    · rw [h2]
      have a1 : i < (preL' pre).length := Nat.lt_of_not_le fun h => hin i h h1 h3
      have a2 : ¬ i < r.length := fun h => h4 r.length h (by omega) (by rw [h59]; rfl)
      omega
theorem rend_head (pre : List (Option Nat)) (x : Option Nat) : ((rend pre x).extract 0 (preL' pre).length).data.toList = preL' pre := by
  rw [Lib.extract_data, rend_data, List.drop_zero, Nat.sub_zero]
  exact List.take_left
theorem rend_tail (pre : List (Option Nat)) (x : Option Nat) : ((rend pre x).extract (preL' pre).length (rend pre x).size).data.toList = partL x := by
  rw [Lib.extract_data, rend_data]
  unfold rendL
  rw [List.drop_left, rend_size]
  exact List.take_of_length_le (by omega)
/-- One more digit. -/
theorem rend_digit (pre : List (Option Nat)) (x : Option Nat) (n : Nat) : (rend pre x).extract 0 (preL' pre).length ++ ⟨(Lib.itoa (n : Int)).toArray⟩ = rend pre (some n) := by
  apply ByteArray.ext
  apply Array.toList_inj.1
  rw [app_data, rend_head, rend_data]
  unfold rendL Lib.itoa
  rw [if_neg (by omega)]
  rfl
/-- One more part. -/
theorem rend_more (pre : List (Option Nat)) (x : Option Nat) : rend pre x ++ ⟨#[59]⟩ = rend (pre ++ [x]) none := by
  apply ByteArray.ext
  apply Array.toList_inj.1
  rw [app_data, rend_data, rend_data, rend_sep]

def partB (x : Option Nat) : ByteArray := ⟨(partL x).toArray⟩
theorem index_part (x : Option Nat) (r : List UInt8) : Lib.index (partL x ++ 59 :: r) [59] = (partL x).length := by
  rw [Lib.index_one]
  generalize hp : partL x = p
  have h : (59 : UInt8) ∉ p := hp ▸ part_sep x
  clear hp
  induction p with
  | nil => rfl
  | cons a p ih =>
    have ha : ¬ (a == 59) = true := fun e => h (by rw [beq_iff_eq.1 e]; exact List.mem_cons_self ..)
    have h2 := ih fun e => h (List.mem_cons_of_mem _ e)
    show Lib.indexByte (a :: (p ++ 59 :: r)) 59 = _
    unfold Lib.indexByte
    rw [if_neg ha, h2, if_neg (by simp), List.length_cons]
    omega
theorem index_none (x : Option Nat) : Lib.index (partL x) [59] = -1 := by
  rw [Lib.index_one]
  generalize hp : partL x = p
  have h : (59 : UInt8) ∉ p := hp ▸ part_sep x
  clear hp
  induction p with
  | nil => rfl
  | cons a p ih =>
    have ha : ¬ (a == 59) = true := fun e => h (by rw [beq_iff_eq.1 e]; exact List.mem_cons_self ..)
    have h2 := ih fun e => h (List.mem_cons_of_mem _ e)
    unfold Lib.indexByte
    rw [if_neg ha, h2]
    rfl
/-- It is cut into its parts. -/
theorem rend_split (x : Option Nat) : ∀ pre : List (Option Nat), Lib.splitB ⟨#[59]⟩ 0 pre.length (rend pre x) = (pre ++ [x]).map partB
  | [] => rfl
  | y :: pre => by
    have hd : (rend (y :: pre) x).data.toList = partL y ++ 59 :: rendL pre x := by
      rw [rend_data]
      show (partL y ++ [59]) ++ preL' pre ++ partL x = _
      unfold rendL
      simp
    have hi : Lib.indexB (rend (y :: pre) x) ⟨#[59]⟩ = ((partL y).length : Nat) := by
      show Lib.index _ [59] = _
      rw [hd, index_part]
    rw [List.length_cons, Lib.splitB_hit _ _ _ _ _ hi]
    have e1 : (rend (y :: pre) x).extract 0 ((partL y).length + 0) = partB y := by
      apply ByteArray.ext
      apply Array.toList_inj.1
      rw [Lib.extract_data, hd, List.drop_zero, Nat.sub_zero, Nat.add_zero]
      exact List.take_left
    have e2 : (rend (y :: pre) x).extract ((partL y).length + (⟨#[59]⟩ : ByteArray).size) (rend (y :: pre) x).size = rend pre x := by
      apply ByteArray.ext
      apply Array.toList_inj.1
      rw [Lib.extract_data, hd, rend_data, Lib.size_eq (rend (y :: pre) x), hd]
      show List.take _ (List.drop ((partL y).length + 1) _) = _
      rw [show partL y ++ 59 :: rendL pre x = (partL y ++ [59]) ++ rendL pre x by simp, show (partL y).length + 1 = (partL y ++ [59]).length by simp, List.drop_left]
      refine List.take_of_length_le ?_
      rw [List.length_append]
      show _ ≤ _ - ((partL y).length + 1)
      rw [List.length_append]
      show _ ≤ (partL y).length + 1 + _ - _
      omega
    rw [e1, e2, rend_split x pre]
    rfl
theorem rend_countB (pre : List (Option Nat)) (x : Option Nat) : Lib.countB (rend pre x) ⟨#[59]⟩ = pre.length := by
  show Lib.count (rend pre x).data.toList [59] = _
  rw [Lib.count_one]
  exact rend_count pre x
theorem digit_len (n : Nat) (h : n ≤ 9999) : (Lib.decDigits n).length ≤ 4 := by
  rw [Lib.decDigits_length]
  unfold Lib.nDigits
  split
  · omega
  unfold Lib.nDigits
  split
  · omega
  unfold Lib.nDigits
  split
  · omega
  unfold Lib.nDigits
  split
  · omega
  exfalso; omega
theorem rend_small (pre : List (Option Nat)) (x : Option Nat) (h : OkP (.seq pre x)) : (rend pre x).size ≤ 100 := by
  obtain ⟨h1, h2, h3⟩ := h
  have hx : ∀ y : Option Nat, (∀ n, y = some n → n ≤ 9999) → (partL y).length ≤ 4 := fun y hy => by
    cases y with
    | none => exact Nat.zero_le _
    | some n => exact digit_len n (hy n rfl)
  have hp : ∀ l : List (Option Nat), (∀ n, some n ∈ l → n ≤ 9999) → (preL' l).length ≤ 5 * l.length := fun l hl => by
    induction l with
    | nil => exact Nat.zero_le _
    | cons y l ih =>
      show ((partL y ++ [59]) ++ preL' l).length ≤ _
      rw [List.length_append, List.length_append]
      have a1 := hx y fun n hn => hl n (by rw [hn]; exact List.mem_cons_self ..)
      have a2 := ih fun n hn => hl n (List.mem_cons_of_mem _ hn)
      show _ + 1 + _ ≤ 5 * (l.length + 1)
      omega
  rw [rend_size]
  have a1 := hx x h3
  have a2 := hp pre h2
  omega
end Go.Proofs.YtbpnnnjbddjboaaDoor
