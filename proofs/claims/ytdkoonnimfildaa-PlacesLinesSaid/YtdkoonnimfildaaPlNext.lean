/-
  Plain facts on going through a text line by line: where the next line begins; as far as one has come. And what lies in memory where a variable lies in a box. Nothing of the program.
-/
import Derived.Test.YtdkoonnimfildaaPlN
import Derived.Test.YtdkoonnimfildaaList
namespace Go.Proofs.Ytdkoonnimfildaa
open Go.RowKit

/-- Where what follows the line from p on begins: behind its line feed; the end, if there is none. -/
def nextN (b : List UInt8) (p : Nat) : Nat := min (endN b p + 1) b.length
theorem nextN_le (b : List UInt8) (p : Nat) : nextN b p ≤ b.length := Nat.min_le_right _ _
theorem nextN_gt (b : List UInt8) (p : Nat) (h : p < b.length) : p < nextN b p := by
  have := endN_ge b p
  unfold nextN; omega

/-- Gone over n lines, p is where the next one begins. -/
structure AtN (b : List UInt8) (l : Int) (n p : Nat) : Prop where
  le : p ≤ b.length
  start : startF b p = p
  line : lineN b p = n
  few : (n : Int) ≤ max 0 l
theorem atN_zero (b : List UInt8) (l : Int) : AtN b l 0 0 := ⟨Nat.zero_le _, rfl, by unfold lineN; simp, by omega⟩
theorem lineN_gap (b : List UInt8) (i : Nat) : ∀ a, i ≤ a → a ≤ b.length → (∀ k, i ≤ k → k < a → ¬ nlAt b k) → lineN b a = lineN b i
  | 0, h, _, _ => by rw [show i = 0 by omega]
  | a + 1, h, hl, hn => by
    by_cases e : i = a + 1
    · rw [e]
    · rw [lineN_step b a (by omega), if_neg (hn a (by omega) (by omega)), Nat.add_zero]
      exact lineN_gap b i a (by omega) (by omega) fun k h1 h2 => hn k h1 (by omega)
theorem AtN.step {b : List UInt8} {l : Int} {n p : Nat} (h : AtN b l n p) (he : endN b p < b.length) (hl : (n : Int) < l) : AtN b l (n + 1) (nextN b p) := by
  have hn : nlAt b (endN b p) := (endN_stop b p h.le).resolve_left (by omega)
  have e : nextN b p = endN b p + 1 := by unfold nextN; omega
  refine ⟨nextN_le b p, ?_, ?_, by omega⟩
  · rw [e, startF, if_pos hn]
  · rw [e, lineN_step b _ he, if_pos hn, lineN_gap b p _ (endN_ge b p) (by omega) fun k h1 h2 => endN_gap b p k h1 h2, h.line]
theorem firstF_over (b : List UInt8) : ∀ f i l, b.length ≤ i + f → i ≤ b.length → lineN b b.length - lineN b i ≤ l → firstF b f i (startF b i) l = startF b b.length
  | 0, i, l, h1, h2, _ => by rw [firstF, show i = b.length by omega]
  | f + 1, i, l, h1, h2, h3 => by
    unfold firstF
    have hm := lineN_mono b i b.length h2
    by_cases hi : i < b.length
    · have hs := lineN_step b i hi
      by_cases hl : 0 < l
      · rw [if_pos ⟨hi, hl⟩]
        by_cases hn : nlAt b i
        · rw [if_pos hn]
          rw [if_pos hn] at hs
          have := firstF_over b f (i + 1) (l - 1) (by omega) (by omega) (by omega)
          rwa [startF, if_pos hn] at this
        · rw [if_neg hn]
          rw [if_neg hn] at hs
          have := firstF_over b f (i + 1) l (by omega) (by omega) (by omega)
          rwa [startF, if_neg hn] at this
      · rw [if_neg fun h => hl h.2]
        exact (startF_none b i _ h2 fun k k1 k2 => lineN_same b i b.length (by omega) k k1 k2).symm
    · rw [if_neg fun h => hi h.1, show i = b.length by omega]
theorem first_over (b : List UInt8) (l : Nat) (h : lineN b b.length ≤ l) : firstN b l = startF b b.length := by
  have := firstF_over b b.length 0 l (by omega) (Nat.zero_le _) (by omega)
  exact this
/-- At the end: as many lines were gone over as were asked, or there are no more. -/
theorem AtN.first {b : List UInt8} {l : Int} {n p : Nat} (h : AtN b l n p) (hd : l ≤ (n : Int) ∨ endN b p = b.length) : p = firstN b l.toNat := by
  by_cases hl : l ≤ (n : Int)
  · have e : l.toNat = n := by have := h.few; omega
    rw [e, ← h.line, first_line b p h.le, h.start]
  · have he := hd.resolve_left hl
    have hg : ∀ k, p ≤ k → k < b.length → ¬ nlAt b k := fun k h1 h2 => endN_gap b p k h1 (by omega)
    have e := lineN_gap b p _ h.le (Nat.le_refl _) hg
    rw [first_over b _ (by rw [e, h.line]; omega), startF_none b p _ h.le hg, h.start]
/-- Asked to go over as many as there are bytes: to the last line. -/
theorem AtN.last {b : List UInt8} {n p : Nat} (h : AtN b (b.length : Int) n p) (hd : (b.length : Int) ≤ (n : Int) ∨ endN b p = b.length) : n = lineN b b.length ∧ p = startF b b.length := by
  have hg : ∀ k, p ≤ k → k < b.length → ¬ nlAt b k := by
    by_cases hl : (b.length : Int) ≤ (n : Int)
    · have : n ≤ p := by
        rw [← h.line]
        unfold lineN
        have := List.count_le_length (a := (10 : UInt8)) (l := b.take p)
        rw [List.length_take] at this
        omega
      intro k h1 h2; omega
    · have he := hd.resolve_left hl
      exact fun k h1 h2 => endN_gap b p k h1 (by omega)
  exact ⟨by rw [lineN_gap b p _ h.le (Nat.le_refl _) hg, h.line], by rw [startF_none b p _ h.le hg, h.start]⟩

/-- All but what lies at one place is as it was. -/
structure NearX (B : Nat) (W W' : World) : Prop where
  os : W'.os = W.os
  tape : W'.tape = W.tape
  output : W'.output = W.output
  size : W'.heap.size = W.heap.size
  same : ∀ k, k ≠ B → W'.heap[k]? = W.heap[k]?
theorem NearX.trans {B : Nat} {W V U : World} (h : NearX B W V) (g : NearX B V U) : NearX B W U :=
  ⟨g.os.trans h.os, g.tape.trans h.tape, g.output.trans h.output, g.size.trans h.size, fun k hk => (g.same k hk).trans (h.same k hk)⟩
theorem NearX.refl (B : Nat) (W : World) : NearX B W W := ⟨rfl, rfl, rfl, rfl, fun _ _ => rfl⟩
theorem nearX_drewN (B : Nat) (W : World) (q : Nat) : NearX B W (W.drewN q) := ⟨rfl, rfl, rfl, rfl, fun _ _ => rfl⟩
theorem nearX_drew (B : Nat) (W : World) : NearX B W W.drew := ⟨rfl, rfl, rfl, rfl, fun _ _ => rfl⟩
theorem nearX_set (B o : Nat) (x : Option Nat) (v : Value) (W : World) : NearX B W (W.setCell ⟨B, o, x⟩ v) :=
  ⟨rfl, rfl, rfl, by show (W.heap.modify _ _).size = _; rw [Array.size_modify], fun k hk => Below.heap_setCell W _ v k hk⟩
theorem NearX.below {B n : Nat} {w W W' : World} (h : Below n w W) (g : NearX B W W') (hB : n ≤ B) : Below n w W' :=
  ⟨g.os.trans h.os, g.tape.trans h.tape, g.output.trans h.output, by rw [g.size]; exact h.size, fun k hk => (g.same k (by omega)).trans (h.block k hk)⟩
/-- One value in a box. -/
def BoxV (W : World) (B : Nat) (v : Value) (t : TypeId) : Prop := W.heap[B]? = some (.cells #[v] t (0, 0))
theorem BoxV.cell {W : World} {B : Nat} {v : Value} {t : TypeId} (h : BoxV W B v t) : W.cell? ⟨B, 0, none⟩ = some v ∧ W.frozen? ⟨B, 0, none⟩ = false := by
  unfold BoxV at h
  constructor
  · unfold World.cell?; rw [h]; rfl
  · unfold World.frozen?; rw [h]; rfl
theorem BoxV.set {W : World} {B : Nat} {v : Value} {t : TypeId} (u : Value) (h : BoxV W B v t) : BoxV (W.setCell ⟨B, 0, none⟩ u) B u t := by
  unfold BoxV at h ⊢
  show (W.heap.modify B _)[B]? = _
  have hlt := (Array.getElem?_eq_some_iff.1 h).1
  obtain ⟨_, he⟩ := Array.getElem?_eq_some_iff.1 h
  rw [Array.getElem?_eq_getElem (by rw [Array.size_modify]; exact hlt), Array.getElem_modify_self, he]
  rfl
theorem BoxV.near {W W' : World} {B C : Nat} {v : Value} {t : TypeId} (h : BoxV W B v t) (g : NearX C W W') (hn : B ≠ C) : BoxV W' B v t := (g.same B hn).trans h
theorem BoxV.lt {W : World} {B : Nat} {v : Value} {t : TypeId} (h : BoxV W B v t) : B < W.heap.size := (Array.getElem?_eq_some_iff.1 h).1
end Go.Proofs.Ytdkoonnimfildaa
