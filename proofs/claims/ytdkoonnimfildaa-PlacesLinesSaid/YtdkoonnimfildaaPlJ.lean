/-
  Plain facts on a text that is put together out of lines: where each of them begins and ends, and how many there are. Nothing of the program.
-/
import Derived.Test.YtdkoonnimfildaaPlN
namespace Go.Proofs.Ytdkoonnimfildaa

/-- Lines, each but the last one with a line feed behind it. -/
def joinL : List (List UInt8) → List UInt8
  | [] => []
  | [x] => x
  | x :: y :: r => x ++ 10 :: joinL (y :: r)
/-- The lines ahead of line i, each with its line feed. -/
def preL (xs : List (List UInt8)) (i : Nat) : List UInt8 := ((xs.take i).map fun x => x ++ [10]).flatten
/-- What stands behind line i. -/
def postL (xs : List (List UInt8)) (i : Nat) : List UInt8 := if i + 1 < xs.length then 10 :: joinL (xs.drop (i + 1)) else []
def plainL (xs : List (List UInt8)) : Prop := ∀ x ∈ xs, (10 : UInt8) ∉ x

theorem joinL_parts : ∀ (xs : List (List UInt8)) (i : Nat) (x : List UInt8), xs[i]? = some x → joinL xs = preL xs i ++ (x ++ postL xs i)
  | [], i, x, h => by simp at h
  | [y], 0, x, h => by
    simp at h
    subst h
    simp [joinL, preL, postL]
  | [y], i + 1, x, h => by simp at h
  | y :: z :: r, 0, x, h => by
    simp at h
    subst h
    simp [joinL, preL, postL]
  | y :: z :: r, i + 1, x, h => by
    rw [List.getElem?_cons_succ] at h
    have ih := joinL_parts (z :: r) i x h
    have e1 : preL (y :: z :: r) (i + 1) = (y ++ [10]) ++ preL (z :: r) i := by unfold preL; rw [List.take_succ_cons, List.map_cons, List.flatten_cons]
    have e2 : postL (y :: z :: r) (i + 1) = postL (z :: r) i := by
      unfold postL
      rw [List.length_cons, List.drop_succ_cons]
      by_cases hh : i + 1 < (z :: r).length
      · rw [if_pos hh, if_pos (by omega)]
      · rw [if_neg hh, if_neg (by omega)]
    rw [e1, e2, joinL, ih]
    simp [List.append_assoc]

theorem pre_count : ∀ (xs : List (List UInt8)) (i : Nat), plainL xs → i ≤ xs.length → (preL xs i).count 10 = i
  | xs, 0, _, _ => by simp [preL]
  | [], i + 1, _, h => by simp at h
  | y :: r, i + 1, hp, h => by
    have ih := pre_count r i (fun x hx => hp x (List.mem_cons_of_mem _ hx)) (by simpa using h)
    have e1 : preL (y :: r) (i + 1) = (y ++ [10]) ++ preL r i := by unfold preL; rw [List.take_succ_cons, List.map_cons, List.flatten_cons]
    have e2 : y.count 10 = 0 := List.count_eq_zero.2 (hp y (List.mem_cons_self ..))
    rw [e1, List.count_append, List.count_append, ih, e2]
    show 0 + 1 + i = i + 1
    omega
theorem pre_len (xs : List (List UInt8)) (i : Nat) (x : List UInt8) (h : xs[i]? = some x) : (preL xs (i + 1)).length = (preL xs i).length + x.length + 1 := by
  obtain ⟨hi, hx⟩ := List.getElem?_eq_some_iff.1 h
  unfold preL
  rw [List.take_add_one, List.map_append, List.flatten_append, List.getElem?_eq_getElem hi, hx, List.length_append]
  show _ + ((x ++ [10]) ++ []).length = _
  rw [List.append_nil, List.length_append]
  show _ + (x.length + 1) = _
  omega
theorem pre_last (xs : List (List UInt8)) (i : Nat) (hi : i ≤ xs.length) : preL xs i = [] ∨ ∃ p, preL xs i = p ++ [10] := by
  cases i with
  | zero => exact .inl (by simp [preL])
  | succ i =>
    obtain ⟨x, hx⟩ : ∃ x, xs[i]? = some x := ⟨_, List.getElem?_eq_getElem (by omega)⟩
    obtain ⟨hi', hx'⟩ := List.getElem?_eq_some_iff.1 hx
    refine .inr ⟨preL xs i ++ x, ?_⟩
    unfold preL
    rw [List.take_add_one, List.map_append, List.flatten_append, hx]
    show _ ++ ((x ++ [10]) ++ []) = _
    rw [List.append_nil, List.append_assoc]

theorem nl_mid (p x q : List UInt8) (k : Nat) (h1 : p.length ≤ k) (h2 : k < p.length + x.length) : nlAt (p ++ (x ++ q)) k → (10 : UInt8) ∈ x := by
  intro h
  unfold nlAt at h
  rw [List.getElem?_append_right h1, List.getElem?_append_left (by omega)] at h
  exact List.mem_of_getElem? h
theorem line_mid (p x q : List UInt8) : lineN (p ++ (x ++ q)) p.length = p.count 10 := by
  unfold lineN; rw [List.take_left]
theorem start_mid (p q : List UInt8) (h : p = [] ∨ ∃ r, p = r ++ [10]) : startF (p ++ q) p.length = p.length := by
  rcases h with rfl | ⟨r, rfl⟩
  · rfl
  · have e : (r ++ [(10 : UInt8)]).length = r.length + 1 := by simp
    rw [e, startF, if_pos]
    unfold nlAt
    rw [List.append_assoc, List.getElem?_append_right (Nat.le_refl _), Nat.sub_self]
    rfl
theorem end_mid (p x q : List UInt8) (hx : (10 : UInt8) ∉ x) (hq : q = [] ∨ ∃ r, q = 10 :: r) : endN (p ++ (x ++ q)) p.length = p.length + x.length := by
  refine endN_uniq _ _ _ (by omega) (by simp only [List.length_append]; omega) (fun k h1 h2 h => hx (nl_mid p x q k h1 h2 h)) ?_
  rcases hq with rfl | ⟨r, rfl⟩
  · exact .inl (by simp)
  · refine .inr ?_
    unfold nlAt
    rw [List.getElem?_append_right (by omega), List.getElem?_append_right (by omega), show p.length + x.length - p.length - x.length = 0 by omega]
    rfl

theorem post_form (xs : List (List UInt8)) (i : Nat) : postL xs i = [] ∨ ∃ r, postL xs i = 10 :: r := by
  unfold postL
  split
  · exact .inr ⟨_, rfl⟩
  · exact .inl rfl
/-- Line i begins behind the lines ahead. -/
theorem first_join (xs : List (List UInt8)) (hp : plainL xs) (i : Nat) (x : List UInt8) (h : xs[i]? = some x) : firstN (joinL xs) i = (preL xs i).length := by
  have hi := (List.getElem?_eq_some_iff.1 h).1
  rw [joinL_parts xs i x h]
  have h1 := first_line (preL xs i ++ (x ++ postL xs i)) (preL xs i).length (by simp only [List.length_append]; omega)
  rwa [line_mid, pre_count xs i hp (by omega), start_mid _ _ (pre_last xs i (by omega))] at h1
theorem end_join (xs : List (List UInt8)) (hp : plainL xs) (i : Nat) (x : List UInt8) (h : xs[i]? = some x) : endN (joinL xs) (preL xs i).length = (preL xs i).length + x.length := by
  rw [joinL_parts xs i x h]
  exact end_mid _ _ _ (hp x (List.mem_of_getElem? h)) (post_form xs i)
theorem at_join (xs : List (List UInt8)) (hp : plainL xs) (i c : Nat) (x : List UInt8) (h : xs[i]? = some x) (hc : x.length ≤ c) : atN (joinL xs) i c = (preL xs i).length + x.length := by
  unfold atN
  rw [first_join xs hp i x h, end_join xs hp i x h]
  omega
/-- There are as many lines as were put together. -/
theorem last_join (xs : List (List UInt8)) (hp : plainL xs) (h0 : 0 < xs.length) : lineN (joinL xs) (joinL xs).length = xs.length - 1 := by
  obtain ⟨x, hx⟩ : ∃ x, xs[xs.length - 1]? = some x := ⟨_, List.getElem?_eq_getElem (by omega)⟩
  have e : postL xs (xs.length - 1) = [] := by unfold postL; rw [if_neg (by omega)]
  unfold lineN
  rw [List.take_of_length_le (Nat.le_refl _), joinL_parts xs _ x hx, e, List.append_nil, List.count_append, pre_count xs _ hp (by omega), List.count_eq_zero.2 (hp x (List.mem_of_getElem? hx))]
  rfl
/-- The text as it grows: line i is put to what stands there, and a line feed if it is not the last one. -/
theorem join_grow (xs : List (List UInt8)) (i : Nat) (x : List UInt8) (h : xs[i]? = some x) : preL xs i ++ x ++ (if i + 1 < xs.length then [10] else []) = if i + 1 < xs.length then preL xs (i + 1) else joinL xs := by
  obtain ⟨hi, hx⟩ := List.getElem?_eq_some_iff.1 h
  by_cases hl : i + 1 < xs.length
  · rw [if_pos hl, if_pos hl]
    unfold preL
    rw [List.take_add_one, List.map_append, List.flatten_append, h]
    show _ = _ ++ ((x ++ [10]) ++ [])
    rw [List.append_nil, List.append_assoc]
  · rw [if_neg hl, if_neg hl, joinL_parts xs i x h, List.append_nil]
    have e : postL xs i = [] := by unfold postL; rw [if_neg hl]
    rw [e, List.append_nil]
end Go.Proofs.Ytdkoonnimfildaa
