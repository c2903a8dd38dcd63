/-
  What lies in memory while the wanted rows are put together: the row of texts, the row of places. No call is walked here.
-/
import Derived.Deep.AppendLies
import Derived.Laws.OwnMore
import Derived.Test.YtpkjaallhhjleaaGreatDoorBa28
import Derived.Test.YtpkjaallhhjleaaGreatDoorLStarts
namespace Go.Proofs.YtpkjaallhhjleaaGreatDoor
open Go.RowKit

/-- The wanted rows W behind v, and the places in block gs. -/
structure TxM (w4 wr : World) (v : Value) (W : List ByteArray) (gs : Nat) (P : List Nat) : Prop where
  below : Below w4.heap.size w4 wr
  own : wr.ownsRow w4.heap.size 9 1 v W.length (strC W)
  pl : ∀ (k p : Nat), P[k]? = some p → wr.cell? ⟨gs, k, none⟩ = some (.int .i64 (p : Int))
  ne : v.ownBlock ≠ some gs
  lt : P ≠ [] → gs < wr.heap.size
theorem TxM.next {w4 wr w' : World} {v : Value} {W : List ByteArray} {gs : Nat} {P : List Nat} (h : TxM w4 wr v W gs P) (hb : Below wr.heap.size wr w') : TxM w4 w' v W gs P := by
  refine ⟨h.below.trans (hb.mono h.below.size), ?_, fun k p hp => by rw [hb.cell (p := ⟨gs, k, none⟩) (rlt (h.pl k p hp))]; exact h.pl k p hp, h.ne, fun hP => Nat.lt_of_lt_of_le (h.lt hP) hb.size⟩
  have hg : wr.grownBy w' none := ⟨hb.os, hb.tape, hb.output, hb.size, fun k hk _ => hb.block k hk⟩
  exact h.own.kept hg (by cases v.ownBlock <;> simp)
/-- The row has grown, in its block or in a new one. -/
theorem TxM.grown {w4 wr w' : World} {v v' : Value} {W W' : List ByteArray} {gs : Nat} {P : List Nat} (h : TxM w4 wr v W gs P) (hg : wr.grownBy w' v.ownBlock) (ho : w'.ownsRow w4.heap.size 9 1 v' W'.length (strC W')) (hne : v'.ownBlock ≠ some gs) : TxM w4 w' v' W' gs P := by
  have hs := h.below.size
  refine ⟨⟨hg.os.trans h.below.os, hg.tape.trans h.below.tape, hg.output.trans h.below.output, Nat.le_trans hs hg.size, fun k hk => ?_⟩, ho, fun k p hp => ?_, hne, fun hP => Nat.lt_of_lt_of_le (h.lt hP) hg.size⟩
  · rw [hg.block k (by omega) (fun e => by have := (h.own.lt k e.symm).1; omega)]
    exact h.below.block k hk
  · have h1 := h.pl k p hp
    have hlt := rlt (p := ⟨gs, k, none⟩) h1
    rw [World.cell?_of_block (a := ⟨gs, k, none⟩) (hg.block gs hlt (fun e => h.ne e.symm))]
    exact h1
/-- A store into the row's last place. -/
theorem TxM.stored {w4 wr : World} {g n cap : Nat} {V : List ByteArray} {x y : ByteArray} {gs : Nat} {P : List Nat} (h : TxM w4 wr (.slice (some ⟨g, 0, none⟩) n cap) (V ++ [x]) gs P) : TxM w4 (wr.setCell ⟨g, V.length, none⟩ (.string y)) (.slice (some ⟨g, 0, none⟩) n cap) (V ++ [y]) gs P := by
  have hn : n = (V ++ [x]).length := by
    rcases h.own.2 with ⟨h', _⟩ | ⟨g', cap', cur, h', _⟩
    · cases h'
    · cases h'; rfl
  subst hn
  have ho : wr.ownsRow w4.heap.size 9 1 (.slice (some ⟨g, 0, none⟩) (V ++ [x]).length cap) (V ++ [x]).length (strC (V ++ [x])) := h.own
  obtain ⟨h1, h2⟩ := ho.stored V.length (.string y)
  have e : (strC (V ++ [x])).set V.length (.string y) = strC (V ++ [y]) := by
    rw [strC_app, strC_app, List.set_append_right _ _ (by rw [strC_len]; exact Nat.le_refl _), strC_len, Nat.sub_self]
    rfl
  rw [e] at h1
  refine h.grown h2 ?_ h.ne
  have el : (V ++ [y]).length = (V ++ [x]).length := by simp
  rw [el]
  exact h1
theorem TxM.cell {w4 wr : World} {v : Value} {W : List ByteArray} {gs : Nat} {P : List Nat} (h : TxM w4 wr v W gs P) (hW : 0 < W.length) : ∃ g cap, v = .slice (some ⟨g, 0, none⟩) W.length cap ∧ W.length ≤ cap ∧ (∀ i y, W[i]? = some y → wr.cell? ⟨g, i, none⟩ = some (.string y)) ∧ (∀ i, wr.frozen? ⟨g, i, none⟩ = false) ∧ g < wr.heap.size ∧ w4.heap.size ≤ g := by
  rcases h.own.2 with ⟨_, h0⟩ | ⟨g, cap, cur, hv, hg, hb, hn, _⟩
  · omega
  · subst hv
    have ho := h.own
    refine ⟨g, cap, rfl, hn, fun i y hi => ?_, fun i => ho.frozenAt i, (ho.lt g rfl).2, hg⟩
    have hlt := (List.getElem?_eq_some_iff.1 hi).1
    rw [ho.cellAt i (by omega)]
    exact strC_at hi
end Go.Proofs.YtpkjaallhhjleaaGreatDoor
