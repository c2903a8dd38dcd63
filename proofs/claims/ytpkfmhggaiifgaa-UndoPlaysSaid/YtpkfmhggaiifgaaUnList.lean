/-
  Plain facts: an undo as one list of states and which one is now. No call is walked here.
-/
import Derived.Test.YtpkfmhggaiifgaaUnW
namespace Go.Proofs.Ytpkfmhggaiifgaa

/-- All states, the oldest one first. -/
def LU (u : US) : List (ByteArray × Int) := (u.was ++ u.now :: u.undone.reverse).map (·.2)
theorem LU_len (u : US) : (LU u).length = u.was.length + 1 + u.undone.length := by
  unfold LU
  rw [List.length_map, List.length_append, List.length_cons, List.length_reverse]; omega
theorem LU_now (u : US) : (LU u)[u.was.length]? = some u.now.2 := by
  unfold LU
  rw [List.getElem?_map, List.getElem?_append_right (Nat.le_refl _), Nat.sub_self]
  rfl
theorem LU_undo {u : US} {ps : List St} {p : St} (h : u.was = ps ++ [p]) (hf : u.was.length + u.undone.length ≤ 100) : LU (undoU u p) = LU u ∧ (undoU u p).was.length + 1 = u.was.length := by
  have hl : u.undone.length + 1 - 100 = 0 := by rw [h, List.length_append, List.length_cons, List.length_nil] at hf; omega
  constructor
  · unfold LU undoU pushU
    rw [hl, h]
    simp
  · show (u.was.dropLast).length + 1 = _
    rw [h]; simp
theorem LU_redo {u : US} {ps : List St} {p : St} (h : u.undone = ps ++ [p]) (hf : u.was.length + u.undone.length ≤ 100) : LU (redoU u p) = LU u ∧ (redoU u p).was.length = u.was.length + 1 := by
  have hl : u.was.length + 1 - 100 = 0 := by rw [h, List.length_append, List.length_cons, List.length_nil] at hf; omega
  constructor
  · unfold LU redoU pushU
    rw [hl, h]
    simp
  · show (pushU u.was u.now).length = _
    unfold pushU
    rw [hl]; simp
/-- A change of a group for which it is not open. -/
theorem LU_push {u : US} {p : St} {g : Int} (h : ¬ (0 < g ∧ g = u.group)) (hf : u.was.length ≤ 100) :
    LU (doU u p g) = ((LU u).take (u.was.length + 1) ++ [p.2]).drop (u.was.length + 1 - 100) ∧ (doU u p g).was.length = min (u.was.length + 1) 100 ∧ (doU u p g).undone = [] := by
  unfold doU
  rw [if_neg h]
  have e : (LU u).take (u.was.length + 1) = (u.was ++ [u.now]).map (·.2) := by
    unfold LU
    rw [← List.map_take, show u.was ++ u.now :: u.undone.reverse = (u.was ++ [u.now]) ++ u.undone.reverse by simp, List.take_left' (by simp)]
  refine ⟨?_, ?_, rfl⟩
  · rw [e]
    unfold LU pushU
    show ((u.was.drop (u.was.length + 1 - 100) ++ [u.now]) ++ p :: [].reverse).map (·.2) = _
    by_cases h1 : u.was.length + 1 - 100 = 0
    · rw [h1]; simp
    · have h2 : u.was.length + 1 - 100 = 1 := by omega
      rw [h2]
      cases hw : u.was with
      | nil => rw [hw] at h2; simp at h2
      | cons x r => simp
  · show (pushU u.was u.now).length = _
    unfold pushU
    rw [List.length_append, List.length_drop, List.length_cons, List.length_nil]; omega
/-- One of the group for which it is open. -/
theorem LU_open {u : US} {p : St} {g : Int} (h : 0 < g ∧ g = u.group) :
    LU (doU u p g) = (LU u).take u.was.length ++ [p.2] ∧ (doU u p g).was.length = u.was.length ∧ (doU u p g).undone = [] := by
  unfold doU
  rw [if_pos h]
  refine ⟨?_, rfl, rfl⟩
  unfold LU
  show (u.was ++ p :: [].reverse).map (·.2) = _
  rw [← List.map_take, List.take_left' rfl]
  simp
theorem LU_move (u : US) (c : Int) : LU (moveU u c) = (LU u).set u.was.length (u.now.2.1, c) := by
  unfold LU moveU
  show (u.was ++ (u.now.1, u.now.2.1, c) :: u.undone.reverse).map (·.2) = _
  rw [List.map_append, List.map_append, List.set_append, List.length_map, if_neg (Nat.lt_irrefl _), Nat.sub_self]
  rfl
end Go.Proofs.Ytpkfmhggaiifgaa
