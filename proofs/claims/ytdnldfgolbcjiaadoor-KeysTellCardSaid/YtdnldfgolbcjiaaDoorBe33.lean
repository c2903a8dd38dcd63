/-
  Texts of this proof, one behind the other; each begins with its own remark.
-/
import Derived.Test.YtdnldfgolbcjiaaDoorCards
import Derived.Test.YtdnldfgolbcjiaaDoorTie
import Derived.ProofKit
import Derived.OpenShut
import Derived.Deep.DeepHandedRow
import Derived.Lib.LaidTab
import Derived.ChangeSame
import Derived.Carry
import Derived.Deep.Slices
import Derived.Lib.SmallJoins
import Derived.Test.YtdnldfgolbcjiaaDoorBe15
import Derived.Test.YtdnldfgolbcjiaaDoorBe18
/-
  What a row's list gives of the tables of widths, one by one: their cells.
-/
namespace Go.Proofs.YtdnldfgolbcjiaaDoor
open Go.ChangeShapes Go.WideShapes Go.ChangeAt Go.RowKit

/-- A table of rows of integers that reads as the datum holds these integers, row by row. -/
theorem cells_of_rows {H : Type} {enc : TypeId × Value → H} {P : Program} {w : World} {base : Nat} {sp : Nat → Bool} {held : Bool} {fuel : Nat} {t e u : TypeId} {n m : Nat} {k : IntKind} {cs : List Value} {rows : List (List Int)} {p : List MemPlace}
    (ht : P.underlying t = some (.array n e)) (he : P.underlying e = some (.array m u)) (hu : P.underlying u = some (.int k)) (hcu : P.cellsOf u = 1) (hce : P.cellsOf e = m) (hct : P.cellsOf t = n * m)
    (h : DataW.trod enc P w base sp held fuel t cs = some (.agg (rows.map fun r => Lib.tabData k r), p)) :
    ∀ i, i < n → (cs.drop (i * m)).take m = (rows.getD i []).map fun z => Value.int k z := by
  cases fuel with
  | zero => simp [DataW.trod] at h
  | succ fuel =>
    simp only [DataW.trod, ht, hce, hct] at h
    split at h
    · rename_i hl
      obtain ⟨xs, hm, hx⟩ := Option.map_eq_some_iff.1 h
      have hxs : xs.map (·.1) = rows.map fun r => (Lib.tabData k r : DataW H) := by
        have := congrArg Prod.fst hx
        simpa using this
      intro i hi
      obtain ⟨b, hb, hf⟩ := Lib.mapM_at hm i i (by simp [hi])
      have h2 : (xs.map (·.1))[i]? = some b.1 := by simp [hb]
      rw [hxs] at h2
      simp only [List.getElem?_map, Option.map_eq_some_iff] at h2
      obtain ⟨r, hr, hrb⟩ := h2
      have hf' : DataW.trod enc P w base sp held fuel e ((cs.drop (i * m)).take m) = some (Lib.tabData k r, b.2) := by rw [hf, hrb]
      have := Lib.cells_of_tab he hu hcu hce hf'
      rw [this, List.getD, hr]; rfl
    · cases h

def hidRows : List (List Int) := [[0, 31], [127, 159], [768, 879], [8203, 8207], [8232, 8238], [65024, 65039], [65279, 65279]]
def widRows : List (List Int) := [[4352, 4447], [11904, 12350], [12353, 13311], [13312, 19903], [19968, 40959], [40960, 42191], [44032, 55203], [63744, 64255], [65072, 65135], [65281, 65376], [65504, 65510], [127744, 128591], [129280, 129535], [131072, 262141]]
theorem map_at (l : List Int) (j : Nat) (h : j < l.length) : (l.map fun z => Value.int .i32 z)[j]? = some (.int .i32 (l.getD j 0)) := by
  rw [List.getElem?_map, List.getD, List.getElem?_eq_getElem h]; rfl
theorem hidRows_at (i j : Nat) (hi : i < 7) (hj : j < 2) : ((hidRows.getD i []).map fun z => Value.int .i32 z)[j]? = some (.int .i32 (hidF.getD (i * 2 + j) 0)) := by
  have h : ∀ i : Fin 7, ∀ j : Fin 2, (hidRows.getD i.val []).length = 2 ∧ (hidRows.getD i.val []).getD j.val 0 = hidF.getD (i.val * 2 + j.val) 0 := by decide
  obtain ⟨h1, h2⟩ := h ⟨i, hi⟩ ⟨j, hj⟩
  simp only at h1 h2
  rw [← h2]
  exact map_at _ j (by rw [h1]; exact hj)
theorem widRows_at (i j : Nat) (hi : i < 14) (hj : j < 2) : ((widRows.getD i []).map fun z => Value.int .i32 z)[j]? = some (.int .i32 (widF.getD (i * 2 + j) 0)) := by
  have h : ∀ i : Fin 14, ∀ j : Fin 2, (widRows.getD i.val []).length = 2 ∧ (widRows.getD i.val []).getD j.val 0 = widF.getD (i.val * 2 + j.val) 0 := by decide
  obtain ⟨h1, h2⟩ := h ⟨i, hi⟩ ⟨j, hj⟩
  simp only at h1 h2
  rw [← h2]
  exact map_at _ j (by rw [h1]; exact hj)

theorem Tryd.gHid : Tryd.prog.globalNamed "limner/widths.hiddenRuns" = some 0 := by kernel_rfl
theorem Tryd.gWid : Tryd.prog.globalNamed "limner/widths.wideRuns" = some 1 := by kernel_rfl
theorem Tryd.gHidType : (Tryd.prog.globals[0]?).map (·.type) = some 101 := by kernel_rfl
theorem Tryd.gWidType : (Tryd.prog.globals[1]?).map (·.type) = some 103 := by kernel_rfl
theorem Tryd.cellsHid : Tryd.prog.cellsOf 101 = 7 * 2 := by kernel_rfl
theorem Tryd.cellsWid : Tryd.prog.cellsOf 103 = 14 * 2 := by kernel_rfl
theorem Tryd.cellsRun : Tryd.prog.cellsOf 100 = 2 := by kernel_rfl
theorem Tryd.cellsRune : Tryd.prog.cellsOf 21 = 1 := by kernel_rfl

/-- What one table's datum gives: its cells. -/
theorem hid_of_laid {W : World} {cs1 : Array Value} {fuel : Nat} {base : Nat} {sp : Nat → Bool} {held : Bool} {H : Type} {enc : TypeId × Value → H} {p : List MemPlace} (hv : W.var? Tryd.prog "limner/widths.hiddenRuns" = some cs1)
    (hd : DataW.trod enc Tryd.prog W base sp held fuel 101 cs1.toList = some (.agg (hidRows.map fun r => Lib.tabData .i32 r), p)) : ∀ k, k < 14 → W.cell? ⟨0, k, none⟩ = some (.int .i32 (hidF.getD k 0)) := by
  have c1 := cells_of_rows (rows := hidRows) Tryd.underlying101 Tryd.underlying100 Tryd.underlying21 Tryd.cellsRune Tryd.cellsRun Tryd.cellsHid hd
  intro k hk
  rw [World.var?_cell Tryd.gHid hv k]
  have h1 : ((cs1.toList.drop (k / 2 * 2)).take 2)[k % 2]? = ((hidRows.getD (k / 2) []).map fun z => Value.int .i32 z)[k % 2]? := by rw [c1 (k / 2) (by omega)]
  rw [hidRows_at (k / 2) (k % 2) (by omega) (by omega), List.getElem?_take, if_pos (by omega), List.getElem?_drop, show k / 2 * 2 + k % 2 = k by omega] at h1
  rw [← h1]; simp
theorem wid_of_laid {W : World} {cs2 : Array Value} {fuel : Nat} {base : Nat} {sp : Nat → Bool} {held : Bool} {H : Type} {enc : TypeId × Value → H} {p : List MemPlace} (hv : W.var? Tryd.prog "limner/widths.wideRuns" = some cs2)
    (hd : DataW.trod enc Tryd.prog W base sp held fuel 103 cs2.toList = some (.agg (widRows.map fun r => Lib.tabData .i32 r), p)) : ∀ k, k < 28 → W.cell? ⟨1, k, none⟩ = some (.int .i32 (widF.getD k 0)) := by
  have c2 := cells_of_rows (rows := widRows) Tryd.underlying103 Tryd.underlying100 Tryd.underlying21 Tryd.cellsRune Tryd.cellsRun Tryd.cellsWid hd
  intro k hk
  rw [World.var?_cell Tryd.gWid hv k]
  have h1 : ((cs2.toList.drop (k / 2 * 2)).take 2)[k % 2]? = ((widRows.getD (k / 2) []).map fun z => Value.int .i32 z)[k % 2]? := by rw [c2 (k / 2) (by omega)]
  rw [widRows_at (k / 2) (k % 2) (by omega) (by omega), List.getElem?_take, if_pos (by omega), List.getElem?_drop, show k / 2 * 2 + k % 2 = k by omega] at h1
  rw [← h1]; simp

/-- A world's block filled anew. -/
def refill (cs : Array Value) : Obj → Obj
  | .cells _ t frozen => .cells cs t frozen
  | o => o
def hidCells : Array Value := #[.int .i32 0, .int .i32 31, .int .i32 127, .int .i32 159, .int .i32 768, .int .i32 879, .int .i32 8203, .int .i32 8207, .int .i32 8232, .int .i32 8238, .int .i32 65024, .int .i32 65039, .int .i32 65279, .int .i32 65279]
def widCells : Array Value := #[.int .i32 4352, .int .i32 4447, .int .i32 11904, .int .i32 12350, .int .i32 12353, .int .i32 13311, .int .i32 13312, .int .i32 19903, .int .i32 19968, .int .i32 40959, .int .i32 40960, .int .i32 42191, .int .i32 44032, .int .i32 55203, .int .i32 63744, .int .i32 64255, .int .i32 65072, .int .i32 65135, .int .i32 65281, .int .i32 65376, .int .i32 65504, .int .i32 65510, .int .i32 127744, .int .i32 128591, .int .i32 129280, .int .i32 129535, .int .i32 131072, .int .i32 262141]
theorem own : ownKnob Tryd.prog.godebug = none := by kernel_rfl
end Go.Proofs.YtdnldfgolbcjiaaDoor

/-
  What the rows' list of four variables gives: the tables of widths and of the library; a world for the witness.
-/
namespace Go.Proofs.YtdnldfgolbcjiaaDoor
open Go.ChangeShapes Go.WideShapes Go.ChangeAt Go.RowKit

theorem Tryd.laidOut : laidOutB Tryd.prog = true := by kernel_rfl
theorem Tryd.gFst : Tryd.prog.globalNamed "unicode/utf8.first" = some 2 := by kernel_rfl
theorem Tryd.gAcc : Tryd.prog.globalNamed "unicode/utf8.acceptRanges" = some 3 := by kernel_rfl
theorem Tryd.gFstType : (Tryd.prog.globals[2]?).map (·.type) = some 104 := by kernel_rfl
theorem Tryd.gAccType : (Tryd.prog.globals[3]?).map (·.type) = some 107 := by kernel_rfl
theorem Tryd.cellsFst : Tryd.prog.cellsOf 104 = 256 := by kernel_rfl
theorem Tryd.cellsAcc : Tryd.prog.cellsOf 106 = 2 := by kernel_rfl
theorem Tryd.cellsAccs : Tryd.prog.cellsOf 107 = 32 := by kernel_rfl
theorem Tryd.cellsByte : Tryd.prog.cellsOf 5 = 1 := by kernel_rfl

theorem first_data : Go.Pinned.utf8First = Lib.tabData .u8 (Go.Pinned.utf8FirstZ.map fun (n : Nat) => (n : Int)) := by
  unfold Go.Pinned.utf8First Go.Pinned.numbers Lib.tabData
  rw [List.map_map]
  rfl
theorem first_vals : Go.Pinned.utf8FirstZ = (List.range 256).map fstB := by decide +kernel
theorem fst_of_laid {H : Type} {enc : TypeId × Value → H} {W : World} {cs : Array Value} {fuel : Nat} {base : Nat} {sp : Nat → Bool} {held : Bool} {p : List MemPlace} (hv : W.var? Tryd.prog "unicode/utf8.first" = some cs)
    (hd : DataW.trod enc Tryd.prog W base sp held fuel 104 cs.toList = some (Lib.tabData .u8 (Go.Pinned.utf8FirstZ.map fun (n : Nat) => (n : Int)), p)) : ∀ k, k < 256 → W.cell? ⟨2, k, none⟩ = some (.int .u8 (fstB k : Nat)) := by
  have h1 := Lib.cells_of_tab Tryd.underlying104 Tryd.underlying5 Tryd.cellsByte Tryd.cellsFst hd
  rw [first_vals] at h1
  intro k hk
  rw [World.var?_cell Tryd.gFst hv k, ← Array.getElem?_toList, h1, List.getElem?_map, List.getElem?_map, List.getElem?_map, List.getElem?_range hk]
  rfl
theorem acc_of_laid {H : Type} {enc : TypeId × Value → H} {W : World} {cs : Array Value} {fuel : Nat} {base : Nat} {sp : Nat → Bool} {held : Bool} {p : List MemPlace} {L : List (Int × Int)} (hv : W.var? Tryd.prog "unicode/utf8.acceptRanges" = some cs)
    (hd : DataW.trod enc Tryd.prog W base sp held fuel 107 cs.toList = some (.agg (L.map fun x => .agg [.lit (.int .u8 x.1), .lit (.int .u8 x.2)]), p)) :
    ∀ i x, i < 16 → L[i]? = some x → W.cell? ⟨3, i * 2, none⟩ = some (.int .u8 x.1) ∧ W.cell? ⟨3, i * 2 + 1, none⟩ = some (.int .u8 x.2) := by
  obtain ⟨xs, m, _, hx, hl, hlen, hf⟩ := DataW.trod_array Tryd.underlying107 hd
  intro i x hi hLi
  have h1 := hf i hi
  rw [List.getElem?_eq_getElem (by omega), Tryd.cellsAcc] at h1
  obtain ⟨y0, y1, n, he, hl2, t0, t1⟩ := trod_struct2 Tryd.underlying106 h1
  simp only [Tryd.cellsByte] at t0 t1
  obtain ⟨a, e0, q0, _⟩ := DataW.trod_int Tryd.underlying5 t0
  obtain ⟨b, e1, q1, _⟩ := DataW.trod_int Tryd.underlying5 t1
  have hxx : xs.map (·.1) = L.map fun x => (.agg [.lit (.int .u8 x.1), .lit (.int .u8 x.2)] : DataW H) := by
    have h := congrArg Prod.fst hx
    simp only [DataW.agg.injEq] at h
    exact h.symm
  have h2 := congrArg (fun l : List (DataW H) => l[i]?) hxx
  simp only [List.getElem?_map, hLi, List.getElem?_eq_getElem (show i < xs.length by omega), Option.map_some, Option.some.injEq] at h2
  rw [he] at h2
  subst q0 q1
  simp only [DataW.agg.injEq, List.cons.injEq, DataW.lit.injEq, Lit.int.injEq, true_and, and_true] at h2
  obtain ⟨rfl, rfl⟩ := h2
  have f0 := congrArg (fun l : List Value => l[0]?) e0
  have f1 := congrArg (fun l : List Value => l[0]?) e1
  simp [List.getElem?_drop] at f0 f1
  rw [World.var?_cell Tryd.gAcc hv, World.var?_cell Tryd.gAcc hv]
  exact ⟨by simpa using f0, by simpa using f1⟩
def accL : List (Int × Int) := [(128, 191), (160, 191), (128, 159), (144, 191), (128, 143), (0, 0), (0, 0), (0, 0), (0, 0), (0, 0), (0, 0), (0, 0), (0, 0), (0, 0), (0, 0), (0, 0)]
theorem accL_at : ∀ i : Fin 16, accL[i.val]? = some ((accLo i.val : Int), (accHi i.val : Int)) := by decide +kernel

set_option maxRecDepth 20000 in
/-- WHAT THE ROWS' LIST GIVES. -/
theorem laidK_of_laid {W : World} (h : laidMet Tryd.prog [("unicode/utf8.acceptRanges", Rows.laid_unicode_utf8_acceptRanges), ("limner/widths.hiddenRuns", Rows.laid_limner_widths_hiddenRuns), ("limner/widths.wideRuns", Rows.laid_limner_widths_wideRuns), ("unicode/utf8.first", Rows.laid_unicode_utf8_first)] W) : TabK W.heap.size W := by
  obtain ⟨ps, ⟨g4, t4, cs4, f4, p4, q4, hg4, ht4, hv4, hd4, ⟨g5, t5, cs5, f5, p5, q5, hg5, ht5, hv5, hd5, ⟨g6, t6, cs6, f6, p6, q6, hg6, ht6, hv6, hd6, ⟨g9, t9, cs9, f9, p9, q9, hg9, ht9, hv9, hd9, _, _⟩, _⟩, _⟩, _⟩, _⟩ := h
  obtain rfl := Option.some.inj (Tryd.gAcc.symm.trans hg4)
  obtain rfl := Option.some.inj (Tryd.gAccType.symm.trans ht4)
  obtain rfl := Option.some.inj (Tryd.gHid.symm.trans hg5)
  obtain rfl := Option.some.inj (Tryd.gHidType.symm.trans ht5)
  obtain rfl := Option.some.inj (Tryd.gWid.symm.trans hg6)
  obtain rfl := Option.some.inj (Tryd.gWidType.symm.trans ht6)
  obtain rfl := Option.some.inj (Tryd.gFst.symm.trans hg9)
  obtain rfl := Option.some.inj (Tryd.gFstType.symm.trans ht9)
  have a9 := fst_of_laid hv9 (by rw [← first_data]; exact hd9)
  have a4 := acc_of_laid (L := accL) hv4 hd4
  have acc : ∀ i, i < 16 → W.cell? ⟨3, i * 2, none⟩ = some (.int .u8 (accLo i : Nat)) ∧ W.cell? ⟨3, i * 2 + 1, none⟩ = some (.int .u8 (accHi i : Nat)) := fun i hi => a4 i _ hi (accL_at ⟨i, hi⟩)
  have a5 := hid_of_laid hv5 hd5
  have a6 := wid_of_laid hv6 hd6
  have l1 := World.block_lt_of_cell? _ _ (a9 0 (by omega))
  have l2 := World.block_lt_of_cell? _ _ (acc 0 (by omega)).1
  have l3 := World.block_lt_of_cell? _ _ (a5 0 (by omega))
  have l4 := World.block_lt_of_cell? _ _ (a6 0 (by omega))
  exact ⟨⟨⟨l1, l2⟩, a9, acc⟩, ⟨⟨l3, l4⟩, a5, a6⟩, l1, l2, l3, l4⟩

/-- A WORLD FOR THE WITNESS: each of the four holds what its initialiser lays. -/
def rowU8 (l : List Nat) : Array Value := (l.map fun (n : Nat) => Value.int .u8 (n : Int)).toArray
def accC : Array Value := rowU8 [128, 191, 160, 191, 128, 159, 144, 191, 128, 143, 0, 0, 0, 0, 0, 0, 0, 0, 0, 0, 0, 0, 0, 0, 0, 0, 0, 0, 0, 0, 0, 0]
def fstC : Array Value := rowU8 Go.Pinned.utf8FirstZ
noncomputable def laidWorld (os : Os) : World :=
  { World.holding Tryd.prog os ⟨#[], #[], []⟩ with heap := ((((World.holding Tryd.prog os ⟨#[], #[], []⟩).heap.modify 2 (refill fstC)).modify 3 (refill accC)).modify 0 (refill hidCells)).modify 1 (refill widCells) }
end Go.Proofs.YtdnldfgolbcjiaaDoor
