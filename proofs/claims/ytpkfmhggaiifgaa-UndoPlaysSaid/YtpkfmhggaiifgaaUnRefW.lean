/-
  What lies in memory where the document's undo lies: one row of states, which one is now, its group. No call is walked here.
-/
import Derived.Test.YtpkfmhggaiifgaaRow
import Derived.Laws.OwnMore
namespace Go.Proofs.Ytpkfmhggaiifgaa
open Go.RowKit

theorem Try.infoRState : (Try.prog.info? 35).map (fun i => (i.zero, i.size, i.bytes)) = some (some (.agg #[.string ⟨#[]⟩, .int .i64 0]), 2, 24) := by kernel_rfl

def rfV (p : ByteArray × Int) : List Value := [.string p.1, .int .i64 p.2]
def rfC (l : List (ByteArray × Int)) : List Value := l.flatMap rfV
theorem rfC_len (l : List (ByteArray × Int)) : (rfC l).length = l.length * 2 := by
  unfold rfC
  induction l with
  | nil => rfl
  | cons p l ih => rw [List.flatMap_cons, List.length_append, ih, List.length_cons]; show 2 + _ = _; omega
theorem rfC_app (a b : List (ByteArray × Int)) : rfC (a ++ b) = rfC a ++ rfC b := by unfold rfC; rw [List.flatMap_append]
theorem rfC_one (p : ByteArray × Int) : rfC [p] = rfV p := by unfold rfC; simp
theorem rfC_take (l : List (ByteArray × Int)) (i : Nat) : (rfC l).take (i * 2) = rfC (l.take i) := by
  unfold rfC
  induction l generalizing i with
  | nil => simp
  | cons p l ih =>
    cases i with
    | zero => simp
    | succ i => rw [List.flatMap_cons, List.take_succ_cons, List.flatMap_cons, ← ih i, show (i + 1) * 2 = (i * 2 + 1) + 1 by omega]; rfl
theorem rfC_drop (l : List (ByteArray × Int)) (i : Nat) : (rfC l).drop (i * 2) = rfC (l.drop i) := by
  unfold rfC
  induction l generalizing i with
  | nil => simp
  | cons p l ih =>
    cases i with
    | zero => simp
    | succ i => rw [List.flatMap_cons, List.drop_succ_cons, ← ih i, show (i + 1) * 2 = (i * 2 + 1) + 1 by omega]; rfl
theorem rfC_cell (l : List (ByteArray × Int)) : ∀ u ∈ rfC l, u.oneCell' = true := by
  intro u hu
  unfold rfC at hu
  obtain ⟨p, _, hp⟩ := List.mem_flatMap.1 hu
  unfold rfV at hp
  simp only [List.mem_cons, List.not_mem_nil, or_false] at hp
  rcases hp with rfl | rfl <;> rfl
theorem rfC_at (l : List (ByteArray × Int)) (i : Nat) (p : ByteArray × Int) (h : l[i]? = some p) : (rfC l)[i * 2]? = some (.string p.1) ∧ (rfC l)[i * 2 + 1]? = some (.int .i64 p.2) := by
  have e : (rfC l).drop (i * 2) = rfV p ++ rfC (l.drop (i + 1)) := by
    have hlt := (List.getElem?_eq_some_iff.1 h).1
    rw [rfC_drop, List.drop_eq_getElem_cons hlt, (List.getElem?_eq_some_iff.1 h).2]
    unfold rfC
    rw [List.flatMap_cons]
  constructor
  · have := congrArg (fun l : List Value => l[0]?) e
    simpa [List.getElem?_drop, rfV] using this
  · have := congrArg (fun l : List Value => l[1]?) e
    simpa [List.getElem?_drop, rfV] using this
theorem rfC_set (l : List (ByteArray × Int)) (i : Nat) (p : ByteArray × Int) (h : i < l.length) : ((rfC l).set (i * 2) (.string p.1)).set (i * 2 + 1) (.int .i64 p.2) = rfC (l.set i p) := by
  induction l generalizing i with
  | nil => simp at h
  | cons q l ih =>
    cases i with
    | zero => rfl
    | succ i =>
      have h' : i < l.length := by simpa using h
      have := ih i h'
      show ((rfC (q :: l)).set ((i + 1) * 2) _).set ((i + 1) * 2 + 1) _ = rfC (q :: l.set i p)
      have e : ∀ l : List (ByteArray × Int), rfC (q :: l) = .string q.1 :: .int .i64 q.2 :: rfC l := fun _ => rfl
      rw [e, e, ← this, show (i + 1) * 2 = (i * 2 + 1) + 1 by omega]
      rfl
theorem rfC_set2 (l : List (ByteArray × Int)) (i : Nat) (p : ByteArray × Int) (c : Int) (h : l[i]? = some p) : (rfC l).set (i * 2 + 1) (.int .i64 c) = rfC (l.set i (p.1, c)) := by
  have hlt := (List.getElem?_eq_some_iff.1 h).1
  rw [← rfC_set l i (p.1, c) hlt]
  congr 1
  obtain ⟨h1, h2⟩ := List.getElem?_eq_some_iff.1 (rfC_at l i p h).1
  show rfC l = (rfC l).set (i * 2) (.string p.1)
  rw [← h2, List.set_getElem_self]

/-- The three cells of its block. -/
def blk3 (w : World) (R : Nat) (x0 x1 x2 : Value) : Prop := w.heap[R]? = some (.cells #[x0, x1, x2] 49 (0, 0))
section
variable {w : World} {R : Nat} {x0 x1 x2 : Value}
theorem blk3.lt (h : blk3 w R x0 x1 x2) : R < w.heap.size := (Array.getElem?_eq_some_iff.1 h).1
theorem blk3.set (h : blk3 w R x0 x1 x2) (i : Nat) (v : Value) : (w.setCell ⟨R, i, none⟩ v).heap[R]? = some (.cells (#[x0, x1, x2].modify i fun _ => v) 49 (0, 0)) := by
  unfold blk3 at h
  show (w.heap.modify R _)[R]? = _
  have hlt := (Array.getElem?_eq_some_iff.1 h).1
  obtain ⟨_, he⟩ := Array.getElem?_eq_some_iff.1 h
  rw [Array.getElem?_eq_getElem (by rw [Array.size_modify]; exact hlt), Array.getElem_modify_self, he]
  rfl
theorem blk3.set0 (h : blk3 w R x0 x1 x2) (v : Value) : blk3 (w.setCell ⟨R, 0, none⟩ v) R v x1 x2 := h.set 0 v
theorem blk3.set1 (h : blk3 w R x0 x1 x2) (v : Value) : blk3 (w.setCell ⟨R, 1, none⟩ v) R x0 v x2 := h.set 1 v
theorem blk3.set2 (h : blk3 w R x0 x1 x2) (v : Value) : blk3 (w.setCell ⟨R, 2, none⟩ v) R x0 x1 v := h.set 2 v
theorem blk3.cells (h : blk3 w R x0 x1 x2) : (w.cell? ⟨R, 0, none⟩ = some x0 ∧ w.cell? ⟨R, 1, none⟩ = some x1 ∧ w.cell? ⟨R, 2, none⟩ = some x2) ∧ ∀ o, w.frozen? ⟨R, o, none⟩ = false := by
  unfold blk3 at h
  refine ⟨⟨?_, ?_, ?_⟩, fun o => ?_⟩ <;> first | (unfold World.cell?; rw [h]; rfl) | (unfold World.frozen?; rw [h]; simp)
end

/-- The document's undo: all states, which one is now, the group that it is open for. -/
structure RefW (ok : Nat → Prop) (w : World) (R : Nat) (L : List (ByteArray × Int)) (t : Nat) (op : Int) (sl : Value) : Prop where
  blk : blk3 w R sl (.int .i64 (t : Int)) (.int .i64 op)
  out : ¬ ok R
  row : RowV ok w sl L.length (rfC L)
  now : t < L.length
  few : L.length ≤ 101
theorem RefW.keepW {ok : Nat → Prop} {w w' : World} {R t : Nat} {L : List (ByteArray × Int)} {op : Int} {sl : Value} (h : RefW ok w R L t op sl) (hk : KeepW ok w w') (hR : w'.heap[R]? = w.heap[R]?) : RefW ok w' R L t op sl :=
  ⟨hR.trans h.blk, h.out, h.row.keep hk, h.now, h.few⟩
theorem RefW.below {ok : Nat → Prop} {w w' : World} {R t : Nat} {L : List (ByteArray × Int)} {op : Int} {sl : Value} (h : RefW ok w R L t op sl) (hb : Below w.heap.size w w') : RefW ok w' R L t op sl :=
  h.keepW (keep_below ok hb) (hb.block _ h.blk.lt)
end Go.Proofs.Ytpkfmhggaiifgaa
