/-
  What the rows' list of four variables gives: the tables of widths and of the library; a world for the witness.
-/
import Derived.Test.YtdnldfgolbcjiaaDoorLaidT
import Derived.Test.YtdnldfgolbcjiaaDoorKyTab
import Derived.ProofKit
import Derived.OpenShut
import Derived.ChangeSame
import Derived.Carry
import Derived.Deep.DeepHandedRow
import Derived.Deep.Slices
import Derived.Lib.LaidTab
import Derived.Lib.SmallJoins
namespace Go.Proofs.YtdnldfgolbcjiaaDoor
open Go.ChangeShapes Go.WideShapes Go.ChangeAt Go.RowKit

theorem Tryd.laidOut : laidOutB Tryd.prog = true := by kernel_rfl
theorem Tryd.gFst : Tryd.prog.globalNamed "unicode/utf8.first" = some 2 := by kernel_rfl
theorem Tryd.gAcc : Tryd.prog.globalNamed "unicode/utf8.acceptRanges" = some 3 := by kernel_rfl
theorem Tryd.gFstType : (Tryd.prog.globals[2]?).map (·.type) = some 104 := by kernel_rfl
theorem Tryd.gAccType : (Tryd.prog.globals[3]?).map (·.type) = some 107 := by kernel_rfl
theorem Tryd.cellsFst : Tryd.prog.cellsOf 104 = 256 := by kernel_rfl
theorem Tryd.cellsAcc : Tryd.prog.cellsOf 106 = 2 := by kernel_rfl
theorem Tryd.cellsAccs : Tryd.prog.cellsOf 107 = 32 := by kernel_rfl
theorem Tryd.cellsByte : Tryd.prog.cellsOf 5 = 1 := by kernel_rfl

theorem first_data : Go.Pinned.utf8First = Lib.tabData .u8 (Go.Pinned.utf8FirstZ.map fun (n : Nat) => (n : Int)) := by
  unfold Go.Pinned.utf8First Go.Pinned.numbers Lib.tabData
  rw [List.map_map]
  rfl
theorem first_vals : Go.Pinned.utf8FirstZ = (List.range 256).map fstB := by decide +kernel
theorem fst_of_laid {H : Type} {enc : TypeId × Value → H} {W : World} {cs : Array Value} {fuel : Nat} {base : Nat} {sp : Nat → Bool} {held : Bool} {p : List MemPlace} (hv : W.var? Tryd.prog "unicode/utf8.first" = some cs)
    (hd : DataW.trod enc Tryd.prog W base sp held fuel 104 cs.toList = some (Lib.tabData .u8 (Go.Pinned.utf8FirstZ.map fun (n : Nat) => (n : Int)), p)) : ∀ k, k < 256 → W.cell? ⟨2, k, none⟩ = some (.int .u8 (fstB k : Nat)) := by
  have h1 := Lib.cells_of_tab Tryd.underlying104 Tryd.underlying5 Tryd.cellsByte Tryd.cellsFst hd
  rw [first_vals] at h1
  intro k hk
  rw [World.var?_cell Tryd.gFst hv k, ← Array.getElem?_toList, h1, List.getElem?_map, List.getElem?_map, List.getElem?_map, List.getElem?_range hk]
  rfl
theorem acc_of_laid {H : Type} {enc : TypeId × Value → H} {W : World} {cs : Array Value} {fuel : Nat} {base : Nat} {sp : Nat → Bool} {held : Bool} {p : List MemPlace} {L : List (Int × Int)} (hv : W.var? Tryd.prog "unicode/utf8.acceptRanges" = some cs)
    (hd : DataW.trod enc Tryd.prog W base sp held fuel 107 cs.toList = some (.agg (L.map fun x => .agg [.lit (.int .u8 x.1), .lit (.int .u8 x.2)]), p)) :
    ∀ i x, i < 16 → L[i]? = some x → W.cell? ⟨3, i * 2, none⟩ = some (.int .u8 x.1) ∧ W.cell? ⟨3, i * 2 + 1, none⟩ = some (.int .u8 x.2) := by
  obtain ⟨xs, m, _, hx, hl, hlen, hf⟩ := DataW.trod_array Tryd.underlying107 hd
  intro i x hi hLi
  have h1 := hf i hi
  rw [List.getElem?_eq_getElem (by omega), Tryd.cellsAcc] at h1
  obtain ⟨y0, y1, n, he, hl2, t0, t1⟩ := trod_struct2 Tryd.underlying106 h1
  simp only [Tryd.cellsByte] at t0 t1
  obtain ⟨a, e0, q0, _⟩ := DataW.trod_int Tryd.underlying5 t0
  obtain ⟨b, e1, q1, _⟩ := DataW.trod_int Tryd.underlying5 t1
  have hxx : xs.map (·.1) = L.map fun x => (.agg [.lit (.int .u8 x.1), .lit (.int .u8 x.2)] : DataW H) := by
    have h := congrArg Prod.fst hx
    simp only [DataW.agg.injEq] at h
    exact h.symm
  have h2 := congrArg (fun l : List (DataW H) => l[i]?) hxx
  simp only [List.getElem?_map, hLi, List.getElem?_eq_getElem (show i < xs.length by omega), Option.map_some, Option.some.injEq] at h2
  rw [he] at h2
  subst q0 q1
  simp only [DataW.agg.injEq, List.cons.injEq, DataW.lit.injEq, Lit.int.injEq, true_and, and_true] at h2
  obtain ⟨rfl, rfl⟩ := h2
  have f0 := congrArg (fun l : List Value => l[0]?) e0
  have f1 := congrArg (fun l : List Value => l[0]?) e1
  simp [List.getElem?_drop] at f0 f1
  rw [World.var?_cell Tryd.gAcc hv, World.var?_cell Tryd.gAcc hv]
  exact ⟨by simpa using f0, by simpa using f1⟩
def accL : List (Int × Int) := [(128, 191), (160, 191), (128, 159), (144, 191), (128, 143), (0, 0), (0, 0), (0, 0), (0, 0), (0, 0), (0, 0), (0, 0), (0, 0), (0, 0), (0, 0), (0, 0)]
theorem accL_at : ∀ i : Fin 16, accL[i.val]? = some ((accLo i.val : Int), (accHi i.val : Int)) := by decide +kernel

set_option maxRecDepth 20000 in
/-- WHAT THE ROWS' LIST GIVES. -/
theorem laidK_of_laid {W : World} (h : laidMet Tryd.prog [("unicode/utf8.acceptRanges", Rows.laid_unicode_utf8_acceptRanges), ("limner/widths.hiddenRuns", Rows.laid_limner_widths_hiddenRuns), ("limner/widths.wideRuns", Rows.laid_limner_widths_wideRuns), ("unicode/utf8.first", Rows.laid_unicode_utf8_first)] W) : TabK W.heap.size W := by
  obtain ⟨ps, ⟨g4, t4, cs4, f4, p4, q4, hg4, ht4, hv4, hd4, ⟨g5, t5, cs5, f5, p5, q5, hg5, ht5, hv5, hd5, ⟨g6, t6, cs6, f6, p6, q6, hg6, ht6, hv6, hd6, ⟨g9, t9, cs9, f9, p9, q9, hg9, ht9, hv9, hd9, _, _⟩, _⟩, _⟩, _⟩, _⟩ := h
  obtain rfl := Option.some.inj (Tryd.gAcc.symm.trans hg4)
  obtain rfl := Option.some.inj (Tryd.gAccType.symm.trans ht4)
  obtain rfl := Option.some.inj (Tryd.gHid.symm.trans hg5)
  obtain rfl := Option.some.inj (Tryd.gHidType.symm.trans ht5)
  obtain rfl := Option.some.inj (Tryd.gWid.symm.trans hg6)
  obtain rfl := Option.some.inj (Tryd.gWidType.symm.trans ht6)
  obtain rfl := Option.some.inj (Tryd.gFst.symm.trans hg9)
  obtain rfl := Option.some.inj (Tryd.gFstType.symm.trans ht9)
  have a9 := fst_of_laid hv9 (by rw [← first_data]; exact hd9)
  have a4 := acc_of_laid (L := accL) hv4 hd4
  have acc : ∀ i, i < 16 → W.cell? ⟨3, i * 2, none⟩ = some (.int .u8 (accLo i : Nat)) ∧ W.cell? ⟨3, i * 2 + 1, none⟩ = some (.int .u8 (accHi i : Nat)) := fun i hi => a4 i _ hi (accL_at ⟨i, hi⟩)
  have a5 := hid_of_laid hv5 hd5
  have a6 := wid_of_laid hv6 hd6
  have l1 := World.block_lt_of_cell? _ _ (a9 0 (by omega))
  have l2 := World.block_lt_of_cell? _ _ (acc 0 (by omega)).1
  have l3 := World.block_lt_of_cell? _ _ (a5 0 (by omega))
  have l4 := World.block_lt_of_cell? _ _ (a6 0 (by omega))
  exact ⟨⟨⟨l1, l2⟩, a9, acc⟩, ⟨⟨l3, l4⟩, a5, a6⟩, l1, l2, l3, l4⟩

/-- A WORLD FOR THE WITNESS: each of the four holds what its initialiser lays. -/
def rowU8 (l : List Nat) : Array Value := (l.map fun (n : Nat) => Value.int .u8 (n : Int)).toArray
def accC : Array Value := rowU8 [128, 191, 160, 191, 128, 159, 144, 191, 128, 143, 0, 0, 0, 0, 0, 0, 0, 0, 0, 0, 0, 0, 0, 0, 0, 0, 0, 0, 0, 0, 0, 0]
def fstC : Array Value := rowU8 Go.Pinned.utf8FirstZ
noncomputable def laidWorld (os : Os) : World :=
  { World.holding Tryd.prog os ⟨#[], #[], []⟩ with heap := ((((World.holding Tryd.prog os ⟨#[], #[], []⟩).heap.modify 2 (refill fstC)).modify 3 (refill accC)).modify 0 (refill hidCells)).modify 1 (refill widCells) }
end Go.Proofs.YtdnldfgolbcjiaaDoor
