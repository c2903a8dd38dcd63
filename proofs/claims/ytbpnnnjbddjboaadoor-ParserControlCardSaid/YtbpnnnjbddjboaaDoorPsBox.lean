/-
  A box of a parser's state: the block known whole; what it holds behind its two stores; what Feed and its parts return. No call is walked here.
-/
import Derived.Test.YtbpnnnjbddjboaaDoorPsW
namespace Go.Proofs.YtbpnnnjbddjboaaDoor
open Go.RowKit

def blk2 (w : World) (B : Nat) (x0 x1 : Value) : Prop := w.heap[B]? = some (.cells #[x0, x1] 24 (0, 0))
theorem blk2.set {w : World} {B : Nat} {x0 x1 : Value} (h : blk2 w B x0 x1) (i : Nat) (v : Value) : (w.setCell ⟨B, i, none⟩ v).heap[B]? = some (.cells (#[x0, x1].modify i fun _ => v) 24 (0, 0)) := by
  unfold blk2 at h
  show (w.heap.modify B _)[B]? = _
  have hlt := (Array.getElem?_eq_some_iff.1 h).1
  obtain ⟨_, he⟩ := Array.getElem?_eq_some_iff.1 h
  rw [Array.getElem?_eq_getElem (by rw [Array.size_modify]; exact hlt), Array.getElem_modify_self, he]
  rfl
theorem blk2.set0 {w : World} {B : Nat} {x0 x1 : Value} (h : blk2 w B x0 x1) (v : Value) : blk2 (w.setCell ⟨B, 0, none⟩ v) B v x1 := h.set 0 v
theorem blk2.set1 {w : World} {B : Nat} {x0 x1 : Value} (h : blk2 w B x0 x1) (v : Value) : blk2 (w.setCell ⟨B, 1, none⟩ v) B x0 v := h.set 1 v
theorem blk2.cells {w : World} {B : Nat} {x0 x1 : Value} (h : blk2 w B x0 x1) : (w.cell? ⟨B, 0, none⟩ = some x0 ∧ w.cell? ⟨B, 1, none⟩ = some x1) ∧ w.frozen? ⟨B, 0, none⟩ = false ∧ w.frozen? ⟨B, 1, none⟩ = false := by
  unfold blk2 at h
  refine ⟨⟨?_, ?_⟩, ?_, ?_⟩ <;> first | (unfold World.cell?; rw [h]; rfl) | (unfold World.frozen?; rw [h]; simp)
theorem blk2.lt {w : World} {B : Nat} {x0 x1 : Value} (h : blk2 w B x0 x1) : B < w.heap.size := (Array.getElem?_eq_some_iff.1 h).1
theorem blk2.below {w w' : World} {B : Nat} {x0 x1 : Value} (h : blk2 w B x0 x1) (hb : Below w.heap.size w w') : blk2 w' B x0 x1 := (hb.block B h.lt).trans h
theorem blk2.new (w : World) (x0 x1 : Value) : blk2 (w.alloc (.cells #[x0, x1] 24)) w.heap.size x0 x1 := heap_alloc_new w _

/-- What Feed and its parts return: where one stands, what is asked for, in blocks of the call's own. -/
def FedW (w : World) (r : Ps × List Ac) (e : Ending) (w' : World) : Prop := ∃ v, e = .returned (.tuple #[stV r.1, v]) ∧ ActsW (FromP w.heap.size) w' v r.2 ∧ Below w.heap.size w w'

theorem acts_from {n m : Nat} {w : World} {v : Value} {l : List Ac} (h : ActsW (FromP n) w v l) (hm : m ≤ n) : ActsW (FromP m) w v l := h.any fun _ hk => Nat.le_trans hm hk

/-- The two stores into the box of the result. -/
theorem box_end {w w1 : World} {Q : Nat} {b0 b1 v : Value} {l : List Ac} (x0 x1 : Value) (hB : blk2 w1 Q b0 b1) (hQ : w.heap.size ≤ Q) (hb : Below w.heap.size w w1) (hA : ActsW (FromP (Q + 1)) w1 v l) :
    (((w1.setCell ⟨Q, 0, none⟩ x0).setCell ⟨Q, 1, none⟩ x1).cell? ⟨Q, 0, none⟩ = some x0 ∧ ((w1.setCell ⟨Q, 0, none⟩ x0).setCell ⟨Q, 1, none⟩ x1).cell? ⟨Q, 1, none⟩ = some x1) ∧
      Below w.heap.size w ((w1.setCell ⟨Q, 0, none⟩ x0).setCell ⟨Q, 1, none⟩ x1) ∧ ActsW (FromP w.heap.size) ((w1.setCell ⟨Q, 0, none⟩ x0).setCell ⟨Q, 1, none⟩ x1) v l := by
  have k1 : KeepW (fun k => k ≠ Q) w1 ((w1.setCell ⟨Q, 0, none⟩ x0).setCell ⟨Q, 1, none⟩ x1) := (keep_set Q 0 none x0 w1 (fun h => h rfl)).trans (keep_set Q 1 none x1 _ (fun h => h rfl))
  refine ⟨((hB.set0 x0).set1 x1).cells.1, KeepW.below hb k1 hb.size (fun k hk => by omega), acts_from (hA.keep (k1.mono fun k _ hk => ?_)) (by omega)⟩
  have : Q + 1 ≤ k := hk
  show k ≠ Q
  omega
/-- The same, with the box as it is then, and the actions still in blocks behind it. -/
theorem box_mid {w w1 : World} {Q : Nat} {b0 b1 v : Value} {l : List Ac} (x0 x1 : Value) (hB : blk2 w1 Q b0 b1) (hQ : w.heap.size ≤ Q) (hb : Below w.heap.size w w1) (hA : ActsW (FromP (Q + 1)) w1 v l) :
    blk2 ((w1.setCell ⟨Q, 0, none⟩ x0).setCell ⟨Q, 1, none⟩ x1) Q x0 x1 ∧ Below w.heap.size w ((w1.setCell ⟨Q, 0, none⟩ x0).setCell ⟨Q, 1, none⟩ x1) ∧ ActsW (FromP (Q + 1)) ((w1.setCell ⟨Q, 0, none⟩ x0).setCell ⟨Q, 1, none⟩ x1) v l := by
  have k1 : KeepW (fun k => k ≠ Q) w1 ((w1.setCell ⟨Q, 0, none⟩ x0).setCell ⟨Q, 1, none⟩ x1) := (keep_set Q 0 none x0 w1 (fun h => h rfl)).trans (keep_set Q 1 none x1 _ (fun h => h rfl))
  refine ⟨(hB.set0 x0).set1 x1, KeepW.below hb k1 hb.size (fun k hk => by omega), hA.keep (k1.mono fun k _ hk => ?_)⟩
  have : Q + 1 ≤ k := hk
  show k ≠ Q
  omega
/-- Another box stays, whatever is stored into the box of the result. -/
theorem held_set {V : World} {P Q : Nat} {a b : Value} (x y : Value) (h : V.cell? ⟨P, 0, none⟩ = some a ∧ V.cell? ⟨P, 1, none⟩ = some b) (hne : P ≠ Q) :
    ((V.setCell ⟨Q, 0, none⟩ x).setCell ⟨Q, 1, none⟩ y).cell? ⟨P, 0, none⟩ = some a ∧ ((V.setCell ⟨Q, 0, none⟩ x).setCell ⟨Q, 1, none⟩ y).cell? ⟨P, 1, none⟩ = some b := by
  have k1 : KeepW (fun k => k ≠ Q) V ((V.setCell ⟨Q, 0, none⟩ x).setCell ⟨Q, 1, none⟩ y) := (keep_set Q 0 none x V (fun h => h rfl)).trans (keep_set Q 1 none y _ (fun h => h rfl))
  exact ⟨k1.cell h.1 hne, k1.cell h.2 hne⟩
/-- The box of the result as it is made. -/
theorem box_new (w : World) (x0 x1 : Value) : Below w.heap.size w (w.alloc (.cells #[x0, x1] 24)) ∧ (w.alloc (.cells #[x0, x1] 24)).heap.size = w.heap.size + 1 ∧ blk2 (w.alloc (.cells #[x0, x1] 24)) w.heap.size x0 x1 :=
  ⟨(Below.refl _ _).alloc (Nat.le_refl _) _, Array.size_push _, blk2.new w x0 x1⟩
/-- A box of the state that came in, and one of the result. -/
theorem box_new2 (w : World) (n x0 : Value) (x1 y : Value) : Below w.heap.size w ((w.alloc (.cells #[n, y] 24)).alloc (.cells #[x0, x1] 24)) ∧ ((w.alloc (.cells #[n, y] 24)).alloc (.cells #[x0, x1] 24)).heap.size = w.heap.size + 2 ∧
    blk2 ((w.alloc (.cells #[n, y] 24)).alloc (.cells #[x0, x1] 24)) w.heap.size n y ∧ blk2 ((w.alloc (.cells #[n, y] 24)).alloc (.cells #[x0, x1] 24)) (w.heap.size + 1) x0 x1 := by
  obtain ⟨a1, a2, a3⟩ := box_new w n y
  obtain ⟨b1, b2, b3⟩ := box_new (w.alloc (.cells #[n, y] 24)) x0 x1
  rw [a2] at b2 b3
  exact ⟨a1.trans (b1.mono a1.size), by rw [b2], a3.below b1, b3⟩
end Go.Proofs.YtbpnnnjbddjboaaDoor
