/-
  Rows of cells behind a slice, whatever their elements: what a row holds, in which blocks; that it stays while those blocks stay; append onto one without room. No call is walked here.
-/
import Derived.Test.YtjeomlickkpebaaGreatDoorRows
import Derived.WalkKit
import Derived.WalkSpells
import Derived.WalkLawsBesides
import Derived.Lib.OthersKept
import Derived.Lib.Hide
import Derived.Deep.QuietTactic
import Derived.Deep.RegionHeld3
import Derived.BigQuiet
import Derived.WalkSmall
import Derived.Deep.DeepFit
import Derived.Deep.AppendSrc
import Derived.Maps.AppendAt
namespace Go.Proofs.YtjeomlickkpebaaGreatDoor
open Go.RowKit

theorem rlit (g o k : Nat) : (⟨g, o, none⟩ : Addr).add k = ⟨g, o + k, none⟩ := by unfold Addr.add; split <;> simp_all
theorem rlt {w : World} {p : Addr} {v : Value} (h : w.cell? p = some v) : p.block < w.heap.size := World.block_lt_of_cell? w p h

/-- The blocks that may stay do stay. -/
structure KeepW (ok : Nat → Prop) (w w' : World) : Prop where
  os : w'.os = w.os
  tape : w'.tape = w.tape
  output : w'.output = w.output
  size : w.heap.size ≤ w'.heap.size
  same : ∀ k, k < w.heap.size → ok k → w'.heap[k]? = w.heap[k]?
theorem KeepW.refl (ok : Nat → Prop) (w : World) : KeepW ok w w := ⟨rfl, rfl, rfl, Nat.le_refl _, fun _ _ _ => rfl⟩
theorem KeepW.trans {ok : Nat → Prop} {a b c : World} (h : KeepW ok a b) (g : KeepW ok b c) : KeepW ok a c :=
  ⟨g.os.trans h.os, g.tape.trans h.tape, g.output.trans h.output, Nat.le_trans h.size g.size, fun k hk ho => (g.same k (Nat.lt_of_lt_of_le hk h.size) ho).trans (h.same k hk ho)⟩
theorem KeepW.mono {ok ok' : Nat → Prop} {a b : World} (h : KeepW ok a b) (hm : ∀ k, k < a.heap.size → ok' k → ok k) : KeepW ok' a b :=
  ⟨h.os, h.tape, h.output, h.size, fun k hk ho => h.same k hk (hm k hk ho)⟩
theorem keep_below {w w' : World} (ok : Nat → Prop) (h : Below w.heap.size w w') : KeepW ok w w' := ⟨h.os, h.tape, h.output, h.size, fun k hk _ => h.block k hk⟩
theorem keep_drewN (ok : Nat → Prop) (w : World) (n : Nat) : KeepW ok w (w.drewN n) := ⟨rfl, rfl, rfl, Nat.le_refl _, fun _ _ _ => rfl⟩
theorem keep_drew (ok : Nat → Prop) (w : World) : KeepW ok w w.drew := ⟨rfl, rfl, rfl, Nat.le_refl _, fun _ _ _ => rfl⟩
theorem keep_set {ok : Nat → Prop} (B o : Nat) (x : Option Nat) (v : Value) (w : World) (hB : ¬ ok B) : KeepW ok w (w.setCell ⟨B, o, x⟩ v) :=
  ⟨rfl, rfl, rfl, by show _ ≤ (w.heap.modify _ _).size; rw [Array.size_modify]; exact Nat.le_refl _, fun k _ ho => Below.heap_setCell w _ v k fun e => hB (by rw [show k = B from e] at ho; exact ho)⟩
theorem KeepW.cell {ok : Nat → Prop} {w w' : World} (h : KeepW ok w w') {g o : Nat} {v : Value} (hc : w.cell? ⟨g, o, none⟩ = some v) (hg : ok g) : w'.cell? ⟨g, o, none⟩ = some v :=
  (World.cell?_of_block (a := ⟨g, o, none⟩) (h.same g (rlt hc) hg)).trans hc
/-- What was below all that may turn is as it was. -/
theorem KeepW.below {ok : Nat → Prop} {n : Nat} {a b c : World} (h : Below n a b) (g : KeepW ok b c) (hn : n ≤ b.heap.size) (ho : ∀ k, k < n → ok k) : Below n a c :=
  ⟨g.os.trans h.os, g.tape.trans h.tape, g.output.trans h.output, Nat.le_trans h.size g.size, fun k hk => (g.same k (by omega) (ho k hk)).trans (h.block k hk)⟩

/-- A slice of n elements that begins with these cells; its block is one of those. -/
def RowV (ok : Nat → Prop) (w : World) (v : Value) (n : Nat) (cs : List Value) : Prop :=
  ∃ ao cap, v = .slice ao n cap ∧ n ≤ cap ∧ (∀ a, ao = some a → ok a.block) ∧ ∀ (j : Nat) u, cs[j]? = some u → ∃ g o, ao = some ⟨g, o, none⟩ ∧ w.cell? ⟨g, o + j, none⟩ = some u
theorem RowV.keep {ok : Nat → Prop} {w w' : World} {v : Value} {n : Nat} {cs : List Value} (h : RowV ok w v n cs) (hk : KeepW ok w w') : RowV ok w' v n cs := by
  obtain ⟨ao, cap, hv, hn, ho, hc⟩ := h
  refine ⟨ao, cap, hv, hn, ho, fun j u hu => ?_⟩
  obtain ⟨g, o, ha, hg⟩ := hc j u hu
  exact ⟨g, o, ha, hk.cell hg (ho _ ha)⟩
theorem RowV.mono {ok ok' : Nat → Prop} {w : World} {v : Value} {n : Nat} {cs : List Value} (h : RowV ok w v n cs) (hm : ∀ k, k < w.heap.size → ok k → ok' k) (hn : 0 < cs.length) : RowV ok' w v n cs := by
  obtain ⟨ao, cap, hv, hnc, ho, hc⟩ := h
  obtain ⟨g, o, ha, hg⟩ := hc 0 _ (List.getElem?_eq_getElem hn)
  refine ⟨ao, cap, hv, hnc, fun a e => ?_, hc⟩
  have e2 : a = ⟨g, o, none⟩ := Option.some.inj (e.symm.trans ha)
  subst e2
  exact hm g (rlt hg) (ho _ e)
/-- What stands at one place of it. -/
theorem RowV.at_ {ok : Nat → Prop} {w : World} {v : Value} {n j : Nat} {u : Value} {cs : List Value} (h : RowV ok w v n cs) (hu : cs[j]? = some u) : ∃ g o cap, v = .slice (some ⟨g, o, none⟩) n cap ∧ n ≤ cap ∧ ok g ∧ ∀ (k : Nat) x, cs[k]? = some x → w.cell? ⟨g, o + k, none⟩ = some x := by
  obtain ⟨ao, cap, rfl, hn, ho, hc⟩ := h
  obtain ⟨g, o, rfl, _⟩ := hc j u hu
  refine ⟨g, o, cap, rfl, hn, ho _ rfl, fun k x hx => ?_⟩
  obtain ⟨g', o', e, hg⟩ := hc k x hx
  cases e
  exact hg
end Go.Proofs.YtjeomlickkpebaaGreatDoor
