/-
  Plain facts on a line with its line feeds left out, byte by byte; and on the text that such lines are put together to. Nothing of the program.
-/
import Derived.Test.YtdkoonnimfildaaPlJ
import Derived.Test.YtdkoonnimfildaaPlLib
namespace Go.Proofs.Ytdkoonnimfildaa

/-- Without line feeds. -/
def stripL (x : List UInt8) : List UInt8 := x.filter fun u => u != 10
theorem stripL_free (x : List UInt8) : (10 : UInt8) ∉ stripL x := fun h => by
  have := (List.mem_filter.1 h).2
  simp at this
theorem stripL_le (x : List UInt8) : (stripL x).length ≤ x.length := List.length_filter_le _ _
theorem stripL_step (x : List UInt8) (k : Nat) (h : k < x.length) : stripL (x.take (k + 1)) = stripL (x.take k) ++ if nlAt x k then [] else [x[k]] := by
  unfold stripL
  rw [List.take_add_one, List.filter_append, List.getElem?_eq_getElem h]
  congr 1
  by_cases hn : nlAt x k
  · have e : x[k] = 10 := by
      unfold nlAt at hn
      rw [List.getElem?_eq_getElem h] at hn
      exact Option.some.inj hn
    rw [if_pos hn, e]
    rfl
  · have e : x[k] ≠ 10 := fun e => hn (by unfold nlAt; rw [List.getElem?_eq_getElem h, e])
    rw [if_neg hn]
    show List.filter _ [x[k]] = _
    rw [List.filter_cons_of_pos (by simpa using e)]
    rfl

/-- The lines of a row of texts. -/
def linesS (xs : List ByteArray) : List (List UInt8) := xs.map fun x => stripL x.data.toList
theorem linesS_len (xs : List ByteArray) : (linesS xs).length = xs.length := List.length_map _
theorem linesS_at (xs : List ByteArray) (i : Nat) (x : ByteArray) (h : xs[i]? = some x) : (linesS xs)[i]? = some (stripL x.data.toList) := by
  unfold linesS
  rw [List.getElem?_map, h]
  rfl
theorem linesS_plain (xs : List ByteArray) : plainL (linesS xs) := fun y hy => by
  obtain ⟨x, _, rfl⟩ := List.mem_map.1 hy
  exact stripL_free _
/-- What is put together ahead of line i: all of it, at the end. -/
def accL (ys : List (List UInt8)) (i : Nat) : List UInt8 := if i < ys.length then preL ys i else joinL ys
theorem accL_zero (ys : List (List UInt8)) (h : 0 < ys.length) : accL ys 0 = [] := by
  unfold accL
  rw [if_pos h]
  rfl
theorem accL_step (ys : List (List UInt8)) (i : Nat) (y : List UInt8) (h : ys[i]? = some y) : accL ys i ++ y ++ (if i + 1 < ys.length then [10] else []) = accL ys (i + 1) := by
  have hi := (List.getElem?_eq_some_iff.1 h).1
  have := join_grow ys i y h
  unfold accL
  rw [if_pos hi, this]
theorem preL_zero (ys : List (List UInt8)) : preL ys 0 = [] := rfl
/-- One byte cut out. -/
theorem ex_one (x : ByteArray) (k : Nat) (h : k < x.size) : (x.extract k (k + 1)).data.toList = [x.data.toList[k]'(by rw [len_bytes]; exact h)] := by
  rw [ex_data, List.drop_eq_getElem_cons (by rw [len_bytes]; exact h), show k + 1 - k = 1 by omega]
  rfl
end Go.Proofs.Ytdkoonnimfildaa
