/-
  Texts of this proof, one behind the other; each begins with its own remark.
-/
import Derived.Deep.Cut
import Derived.Test.YtjeomlickkpebaaGreatDoorBe4
import Derived.Test.YtjeomlickkpebaaGreatDoorBe7
/-
  limnerref10: Has, with: what each returns.
-/
namespace Go.Proofs.YtjeomlickkpebaaGreatDoor
open Go.RowKit

theorem bit_int (x k : Nat) : (((x : Int) / 2 ^ k).tmod 2 == 1) = x.testBit k := by
  have e : (x : Int) / 2 ^ k = ((x / 2 ^ k : Nat) : Int) := by rw [Int.natCast_ediv, Int.natCast_pow]; rfl
  have e2 : ((x / 2 ^ k : Nat) : Int).tmod 2 = ((x / 2 ^ k % 2 : Nat) : Int) := by rw [show (2 : Int) = ((2 : Nat) : Int) from rfl, ← Int.ofNat_tmod]
  rw [e, e2, Nat.testBit_eq_decide_div_mod_eq]
  by_cases h : x / 2 ^ k % 2 = 1
  · rw [h]; rfl
  · rw [decide_eq_false h]
    exact beq_eq_false_iff_ne.2 (by omega)
end Go.Proofs.YtjeomlickkpebaaGreatDoor

/-
  limnerref10.with: what it returns.
-/
namespace Go.Proofs.YtjeomlickkpebaaGreatDoor
open Go.RowKit

/-- A box that holds a set. -/
def boxS (w : World) (B : Nat) (s : St4) : Prop := w.heap[B]? = some (.cells #[.int .u64 (s.1 : Int), .int .u64 (s.2.1 : Int), .int .u64 (s.2.2.1 : Int), .int .u64 (s.2.2.2 : Int)] 51 (0, 0))
section
variable {w w' : World} {B : Nat} {s : St4}
theorem boxS.lt (h : boxS w B s) : B < w.heap.size := (Array.getElem?_eq_some_iff.1 h).1
theorem boxS.cells (h : boxS w B s) : (w.cell? ⟨B, 0, none⟩ = some (.int .u64 (s.1 : Int)) ∧ w.cell? ⟨B, 1, none⟩ = some (.int .u64 (s.2.1 : Int)) ∧ w.cell? ⟨B, 2, none⟩ = some (.int .u64 (s.2.2.1 : Int)) ∧ w.cell? ⟨B, 3, none⟩ = some (.int .u64 (s.2.2.2 : Int))) ∧ w.frozen? ⟨B, 0, none⟩ = false ∧ w.frozen? ⟨B, 1, none⟩ = false ∧ w.frozen? ⟨B, 2, none⟩ = false ∧ w.frozen? ⟨B, 3, none⟩ = false := by
  unfold boxS at h
  refine ⟨⟨?_, ?_, ?_, ?_⟩, ?_, ?_, ?_, ?_⟩ <;> first | (unfold World.cell?; rw [h]; rfl) | (unfold World.frozen?; rw [h]; simp)
theorem boxS.below (h : boxS w B s) (hb : Below w.heap.size w w') : boxS w' B s := (hb.block B h.lt).trans h
theorem boxS.keep {ok : Nat → Prop} (h : boxS w B s) (hk : KeepW ok w w') (ho : ok B) : boxS w' B s := (hk.same B h.lt ho).trans h
theorem boxS.set (h : boxS w B s) (j x : Nat) (hj : j < 4) : boxS (w.setCell ⟨B, j, none⟩ (.int .u64 (x : Int))) B (stR s j x) := by
  unfold boxS at h ⊢
  unfold World.setCell
  simp only [Array.getElem?_modify, if_true, h, Option.map_some]
  have h4 : j = 0 ∨ j = 1 ∨ j = 2 ∨ j = 3 := by omega
  rcases h4 with rfl | rfl | rfl | rfl <;> rfl
end
/-- A set stored into it whole. -/
def set4 (w : World) (B : Nat) (t : St4) : World := (((w.setCell ⟨B, 0, none⟩ (.int .u64 (t.1 : Int))).setCell ⟨B, 1, none⟩ (.int .u64 (t.2.1 : Int))).setCell ⟨B, 2, none⟩ (.int .u64 (t.2.2.1 : Int))).setCell ⟨B, 3, none⟩ (.int .u64 (t.2.2.2 : Int))
theorem boxS.all {w : World} {B : Nat} {s : St4} (h : boxS w B s) (t : St4) : boxS (set4 w B t) B t := (((h.set 0 t.1 (by decide)).set 1 t.2.1 (by decide)).set 2 t.2.2.1 (by decide)).set 3 t.2.2.2 (by decide)
theorem keep_set4 (w : World) (B : Nat) (t : St4) : KeepW (fun k => k ≠ B) w (set4 w B t) :=
  (((keep_set B 0 none _ w (fun h => h rfl)).trans (keep_set B 1 none _ _ (fun h => h rfl))).trans (keep_set B 2 none _ _ (fun h => h rfl))).trans (keep_set B 3 none _ _ (fun h => h rfl))
theorem boxS.new (w : World) (s : St4) : boxS (w.alloc (.cells #[.int .u64 (s.1 : Int), .int .u64 (s.2.1 : Int), .int .u64 (s.2.2.1 : Int), .int .u64 (s.2.2.2 : Int)] 51)) w.heap.size s := heap_alloc_new _ _
end Go.Proofs.YtjeomlickkpebaaGreatDoor
