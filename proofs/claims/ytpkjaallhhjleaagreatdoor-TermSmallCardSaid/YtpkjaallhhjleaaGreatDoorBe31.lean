/-
  Texts of this proof, one behind the other; each begins with its own remark.
-/
import Derived.Test.YtpkjaallhhjleaaGreatDoorCards
import Derived.Test.YtpkjaallhhjleaaGreatDoorTie
import Derived.ProofKit
import Derived.OpenShut
import Derived.Deep.DeepHandedRow
import Derived.Lib.LaidTab
import Derived.ChangeSame
import Derived.Carry
import Derived.Deep.Slices
import Derived.Lib.SmallJoins
import Derived.Test.YtpkjaallhhjleaaGreatDoorBe5
import Derived.Test.YtpkjaallhhjleaaGreatDoorBe30
/-
  What a row's list gives of the tables of widths, one by one: their cells.
-/
namespace Go.Proofs.YtpkjaallhhjleaaGreatDoor
open Go.ChangeShapes Go.WideShapes Go.ChangeAt Go.RowKit

/-- A table of rows of integers that reads as the datum holds these integers, row by row. -/
theorem cells_of_rows {H : Type} {enc : TypeId × Value → H} {P : Program} {w : World} {base : Nat} {sp : Nat → Bool} {held : Bool} {fuel : Nat} {t e u : TypeId} {n m : Nat} {k : IntKind} {cs : List Value} {rows : List (List Int)} {p : List MemPlace}
    (ht : P.underlying t = some (.array n e)) (he : P.underlying e = some (.array m u)) (hu : P.underlying u = some (.int k)) (hcu : P.cellsOf u = 1) (hce : P.cellsOf e = m) (hct : P.cellsOf t = n * m)
    (h : DataW.trod enc P w base sp held fuel t cs = some (.agg (rows.map fun r => Lib.tabData k r), p)) :
    ∀ i, i < n → (cs.drop (i * m)).take m = (rows.getD i []).map fun z => Value.int k z := by
  cases fuel with
  | zero => simp [DataW.trod] at h
  | succ fuel =>
    simp only [DataW.trod, ht, hce, hct] at h
    split at h
    · rename_i hl
      obtain ⟨xs, hm, hx⟩ := Option.map_eq_some_iff.1 h
      have hxs : xs.map (·.1) = rows.map fun r => (Lib.tabData k r : DataW H) := by
        have := congrArg Prod.fst hx
        simpa using this
      intro i hi
      obtain ⟨b, hb, hf⟩ := Lib.mapM_at hm i i (by simp [hi])
      have h2 : (xs.map (·.1))[i]? = some b.1 := by simp [hb]
      rw [hxs] at h2
      simp only [List.getElem?_map, Option.map_eq_some_iff] at h2
      obtain ⟨r, hr, hrb⟩ := h2
      have hf' : DataW.trod enc P w base sp held fuel e ((cs.drop (i * m)).take m) = some (Lib.tabData k r, b.2) := by rw [hf, hrb]
      have := Lib.cells_of_tab he hu hcu hce hf'
      rw [this, List.getD, hr]; rfl
    · cases h

def hidRows : List (List Int) := [[0, 31], [127, 159], [768, 879], [8203, 8207], [8232, 8238], [65024, 65039], [65279, 65279]]
def widRows : List (List Int) := [[4352, 4447], [11904, 12350], [12353, 13311], [13312, 19903], [19968, 40959], [40960, 42191], [44032, 55203], [63744, 64255], [65072, 65135], [65281, 65376], [65504, 65510], [127744, 128591], [129280, 129535], [131072, 262141]]
theorem map_at (l : List Int) (j : Nat) (h : j < l.length) : (l.map fun z => Value.int .i32 z)[j]? = some (.int .i32 (l.getD j 0)) := by
  rw [List.getElem?_map, List.getD, List.getElem?_eq_getElem h]; rfl
theorem hidRows_at (i j : Nat) (hi : i < 7) (hj : j < 2) : ((hidRows.getD i []).map fun z => Value.int .i32 z)[j]? = some (.int .i32 (hidF.getD (i * 2 + j) 0)) := by
  have h : ∀ i : Fin 7, ∀ j : Fin 2, (hidRows.getD i.val []).length = 2 ∧ (hidRows.getD i.val []).getD j.val 0 = hidF.getD (i.val * 2 + j.val) 0 := by decide
  obtain ⟨h1, h2⟩ := h ⟨i, hi⟩ ⟨j, hj⟩
  simp only at h1 h2
  rw [← h2]
  exact map_at _ j (by rw [h1]; exact hj)
theorem widRows_at (i j : Nat) (hi : i < 14) (hj : j < 2) : ((widRows.getD i []).map fun z => Value.int .i32 z)[j]? = some (.int .i32 (widF.getD (i * 2 + j) 0)) := by
  have h : ∀ i : Fin 14, ∀ j : Fin 2, (widRows.getD i.val []).length = 2 ∧ (widRows.getD i.val []).getD j.val 0 = widF.getD (i.val * 2 + j.val) 0 := by decide
  obtain ⟨h1, h2⟩ := h ⟨i, hi⟩ ⟨j, hj⟩
  simp only at h1 h2
  rw [← h2]
  exact map_at _ j (by rw [h1]; exact hj)

theorem Tryz.gHid : Tryz.prog.globalNamed "limner/widths.hiddenRuns" = some 1 := by kernel_rfl
theorem Tryz.gWid : Tryz.prog.globalNamed "limner/widths.wideRuns" = some 2 := by kernel_rfl
theorem Tryz.gHidType : (Tryz.prog.globals[1]?).map (·.type) = some 118 := by kernel_rfl
theorem Tryz.gWidType : (Tryz.prog.globals[2]?).map (·.type) = some 120 := by kernel_rfl
theorem Tryz.cellsHid : Tryz.prog.cellsOf 118 = 7 * 2 := by kernel_rfl
theorem Tryz.cellsWid : Tryz.prog.cellsOf 120 = 14 * 2 := by kernel_rfl
theorem Tryz.cellsRun : Tryz.prog.cellsOf 117 = 2 := by kernel_rfl
theorem Tryz.cellsRune : Tryz.prog.cellsOf 21 = 1 := by kernel_rfl

/-- What one table's datum gives: its cells. -/
theorem hid_of_laid {W : World} {cs1 : Array Value} {fuel : Nat} {base : Nat} {sp : Nat → Bool} {held : Bool} {H : Type} {enc : TypeId × Value → H} {p : List MemPlace} (hv : W.var? Tryz.prog "limner/widths.hiddenRuns" = some cs1)
    (hd : DataW.trod enc Tryz.prog W base sp held fuel 118 cs1.toList = some (.agg (hidRows.map fun r => Lib.tabData .i32 r), p)) : ∀ k, k < 14 → W.cell? ⟨1, k, none⟩ = some (.int .i32 (hidF.getD k 0)) := by
  have c1 := cells_of_rows (rows := hidRows) Tryz.underlying118 Tryz.underlying117 Tryz.underlying21 Tryz.cellsRune Tryz.cellsRun Tryz.cellsHid hd
  intro k hk
  rw [World.var?_cell Tryz.gHid hv k]
  have h1 : ((cs1.toList.drop (k / 2 * 2)).take 2)[k % 2]? = ((hidRows.getD (k / 2) []).map fun z => Value.int .i32 z)[k % 2]? := by rw [c1 (k / 2) (by omega)]
  rw [hidRows_at (k / 2) (k % 2) (by omega) (by omega), List.getElem?_take, if_pos (by omega), List.getElem?_drop, show k / 2 * 2 + k % 2 = k by omega] at h1
  rw [← h1]; simp
theorem wid_of_laid {W : World} {cs2 : Array Value} {fuel : Nat} {base : Nat} {sp : Nat → Bool} {held : Bool} {H : Type} {enc : TypeId × Value → H} {p : List MemPlace} (hv : W.var? Tryz.prog "limner/widths.wideRuns" = some cs2)
    (hd : DataW.trod enc Tryz.prog W base sp held fuel 120 cs2.toList = some (.agg (widRows.map fun r => Lib.tabData .i32 r), p)) : ∀ k, k < 28 → W.cell? ⟨2, k, none⟩ = some (.int .i32 (widF.getD k 0)) := by
  have c2 := cells_of_rows (rows := widRows) Tryz.underlying120 Tryz.underlying117 Tryz.underlying21 Tryz.cellsRune Tryz.cellsRun Tryz.cellsWid hd
  intro k hk
  rw [World.var?_cell Tryz.gWid hv k]
  have h1 : ((cs2.toList.drop (k / 2 * 2)).take 2)[k % 2]? = ((widRows.getD (k / 2) []).map fun z => Value.int .i32 z)[k % 2]? := by rw [c2 (k / 2) (by omega)]
  rw [widRows_at (k / 2) (k % 2) (by omega) (by omega), List.getElem?_take, if_pos (by omega), List.getElem?_drop, show k / 2 * 2 + k % 2 = k by omega] at h1
  rw [← h1]; simp

/-- A world's block filled anew. -/
def refill (cs : Array Value) : Obj → Obj
  | .cells _ t frozen => .cells cs t frozen
  | o => o
def hidCells : Array Value := #[.int .i32 0, .int .i32 31, .int .i32 127, .int .i32 159, .int .i32 768, .int .i32 879, .int .i32 8203, .int .i32 8207, .int .i32 8232, .int .i32 8238, .int .i32 65024, .int .i32 65039, .int .i32 65279, .int .i32 65279]
def widCells : Array Value := #[.int .i32 4352, .int .i32 4447, .int .i32 11904, .int .i32 12350, .int .i32 12353, .int .i32 13311, .int .i32 13312, .int .i32 19903, .int .i32 19968, .int .i32 40959, .int .i32 40960, .int .i32 42191, .int .i32 44032, .int .i32 55203, .int .i32 63744, .int .i32 64255, .int .i32 65072, .int .i32 65135, .int .i32 65281, .int .i32 65376, .int .i32 65504, .int .i32 65510, .int .i32 127744, .int .i32 128591, .int .i32 129280, .int .i32 129535, .int .i32 131072, .int .i32 262141]
theorem own : ownKnob Tryz.prog.godebug = none := by kernel_rfl
end Go.Proofs.YtpkjaallhhjleaaGreatDoor

/-
  What the rows' list of nine variables gives: the tables of widths and of the library, the two blanks; a world for the witness.
-/
namespace Go.Proofs.YtpkjaallhhjleaaGreatDoor
open Go.ChangeShapes Go.WideShapes Go.ChangeAt Go.RowKit

theorem Tryz.laidOut : laidOutB Tryz.prog = true := by kernel_rfl
theorem Tryz.cellsInt6 : Tryz.prog.cellsOf 3 = 1 := by kernel_rfl
theorem Tryz.cellsBool6 : Tryz.prog.cellsOf 4 = 1 := by kernel_rfl
theorem Tryz.cellsRune6 : Tryz.prog.cellsOf 21 = 1 := by kernel_rfl
theorem Tryz.cellsByte6 : Tryz.prog.cellsOf 5 = 1 := by kernel_rfl
theorem Tryz.cellsSty6 : Tryz.prog.cellsOf 38 = 4 := by kernel_rfl
theorem Tryz.cellsCel6 : Tryz.prog.cellsOf 82 = 6 := by kernel_rfl
theorem Tryz.gFst : Tryz.prog.globalNamed "unicode/utf8.first" = some 3 := by kernel_rfl
theorem Tryz.gAcc : Tryz.prog.globalNamed "unicode/utf8.acceptRanges" = some 4 := by kernel_rfl
theorem Tryz.gFstType : (Tryz.prog.globals[3]?).map (·.type) = some 162 := by kernel_rfl
theorem Tryz.gAccType : (Tryz.prog.globals[4]?).map (·.type) = some 165 := by kernel_rfl
theorem Tryz.gPowType : (Tryz.prog.globals[7]?).map (·.type) = some 177 := by kernel_rfl
theorem Tryz.cellsFst : Tryz.prog.cellsOf 162 = 256 := by kernel_rfl
theorem Tryz.cellsAcc : Tryz.prog.cellsOf 164 = 2 := by kernel_rfl
theorem Tryz.cellsAccs : Tryz.prog.cellsOf 165 = 32 := by kernel_rfl
theorem Tryz.cellsPow : Tryz.prog.cellsOf 177 = 20 := by kernel_rfl
theorem Tryz.cellsByte : Tryz.prog.cellsOf 5 = 1 := by kernel_rfl
theorem Tryz.cellsU64 : Tryz.prog.cellsOf 151 = 1 := by kernel_rfl

theorem first_data : Go.Pinned.utf8First = Lib.tabData .u8 (Go.Pinned.utf8FirstZ.map fun (n : Nat) => (n : Int)) := by
  unfold Go.Pinned.utf8First Go.Pinned.numbers Lib.tabData
  rw [List.map_map]
  rfl
theorem first_vals : Go.Pinned.utf8FirstZ = (List.range 256).map fstB := by decide +kernel
theorem fst_of_laid {H : Type} {enc : TypeId × Value → H} {W : World} {cs : Array Value} {fuel : Nat} {base : Nat} {sp : Nat → Bool} {held : Bool} {p : List MemPlace} (hv : W.var? Tryz.prog "unicode/utf8.first" = some cs)
    (hd : DataW.trod enc Tryz.prog W base sp held fuel 162 cs.toList = some (Lib.tabData .u8 (Go.Pinned.utf8FirstZ.map fun (n : Nat) => (n : Int)), p)) : ∀ k, k < 256 → W.cell? ⟨3, k, none⟩ = some (.int .u8 (fstB k : Nat)) := by
  have h1 := Lib.cells_of_tab Tryz.underlying162 Tryz.underlying5 Tryz.cellsByte Tryz.cellsFst hd
  rw [first_vals] at h1
  intro k hk
  rw [World.var?_cell Tryz.gFst hv k, ← Array.getElem?_toList, h1, List.getElem?_map, List.getElem?_map, List.getElem?_map, List.getElem?_range hk]
  rfl
theorem acc_of_laid {H : Type} {enc : TypeId × Value → H} {W : World} {cs : Array Value} {fuel : Nat} {base : Nat} {sp : Nat → Bool} {held : Bool} {p : List MemPlace} {L : List (Int × Int)} (hv : W.var? Tryz.prog "unicode/utf8.acceptRanges" = some cs)
    (hd : DataW.trod enc Tryz.prog W base sp held fuel 165 cs.toList = some (.agg (L.map fun x => .agg [.lit (.int .u8 x.1), .lit (.int .u8 x.2)]), p)) :
    ∀ i x, i < 16 → L[i]? = some x → W.cell? ⟨4, i * 2, none⟩ = some (.int .u8 x.1) ∧ W.cell? ⟨4, i * 2 + 1, none⟩ = some (.int .u8 x.2) := by
  obtain ⟨xs, m, _, hx, hl, hlen, hf⟩ := DataW.trod_array Tryz.underlying165 hd
  intro i x hi hLi
  have h1 := hf i hi
  rw [List.getElem?_eq_getElem (by omega), Tryz.cellsAcc] at h1
  obtain ⟨y0, y1, n, he, hl2, t0, t1⟩ := trod_struct2 Tryz.underlying164 h1
  simp only [Tryz.cellsByte] at t0 t1
  obtain ⟨a, e0, q0, _⟩ := DataW.trod_int Tryz.underlying5 t0
  obtain ⟨b, e1, q1, _⟩ := DataW.trod_int Tryz.underlying5 t1
  have hxx : xs.map (·.1) = L.map fun x => (.agg [.lit (.int .u8 x.1), .lit (.int .u8 x.2)] : DataW H) := by
    have h := congrArg Prod.fst hx
    simp only [DataW.agg.injEq] at h
    exact h.symm
  have h2 := congrArg (fun l : List (DataW H) => l[i]?) hxx
  simp only [List.getElem?_map, hLi, List.getElem?_eq_getElem (show i < xs.length by omega), Option.map_some, Option.some.injEq] at h2
  rw [he] at h2
  subst q0 q1
  simp only [DataW.agg.injEq, List.cons.injEq, DataW.lit.injEq, Lit.int.injEq, true_and, and_true] at h2
  obtain ⟨rfl, rfl⟩ := h2
  have f0 := congrArg (fun l : List Value => l[0]?) e0
  have f1 := congrArg (fun l : List Value => l[0]?) e1
  simp [List.getElem?_drop] at f0 f1
  rw [World.var?_cell Tryz.gAcc hv, World.var?_cell Tryz.gAcc hv]
  exact ⟨by simpa using f0, by simpa using f1⟩
def accL : List (Int × Int) := [(128, 191), (160, 191), (128, 159), (144, 191), (128, 143), (0, 0), (0, 0), (0, 0), (0, 0), (0, 0), (0, 0), (0, 0), (0, 0), (0, 0), (0, 0), (0, 0)]
theorem accL_at : ∀ i : Fin 16, accL[i.val]? = some ((accLo i.val : Int), (accHi i.val : Int)) := by decide +kernel

theorem Tryz.gBlk : Tryz.prog.globalNamed "limner/grids.blank" = some 0 := by kernel_rfl
theorem Tryz.gBlkType : (Tryz.prog.globals[0]?).map (·.type) = some 82 := by kernel_rfl

theorem Tryz.gTBlk : Tryz.prog.globalNamed "limner/term.blank" = some 5 := by kernel_rfl
theorem Tryz.gTBlkType : (Tryz.prog.globals[5]?).map (·.type) = some 82 := by kernel_rfl
set_option maxRecDepth 20000 in
/-- A cell of a frame that reads as this datum holds these cells. -/
theorem cel_reads {H : Type} {enc : TypeId × Value → H} {w : World} {base : Nat} {spare : Nat → Bool} {held : Bool} {cs : List Value} {fuel : Nat} {p : List MemPlace} (h : DataW.trod enc Tryz.prog w base spare held fuel 82 cs = some (.agg [.lit (.int .i32 32), .lit (.int .i64 1), .agg [.lit (.int .i64 0), .lit (.bool false), .lit (.bool false), .lit (.bool false)]], p)) :
    cs = celV blkC := by
  obtain ⟨y0, y1, y2, n, hx, hl, h0, h1, h2⟩ := Go.Deep.trod_struct3 Tryz.underlying82 h
  rw [Tryz.cellsCel6] at hl
  match cs, hl with
  | [c0, c1, c2, c3, c4, c5], _ =>
    simp only [Tryz.cellsInt6, Tryz.cellsRune6, Tryz.cellsSty6] at h0 h1 h2
    obtain ⟨z0, z1, z2, z3, n2, hx2, _, k0, k1, k2, k3⟩ := Go.Joins.trod_struct4 Tryz.underlying38 h2
    simp only [Tryz.cellsInt6, Tryz.cellsBool6] at k0 k1 k2 k3
    obtain ⟨a, e0, q0, _⟩ := DataW.trod_int Tryz.underlying21 h0
    obtain ⟨b, e1, q1, _⟩ := DataW.trod_int Tryz.underlying3 h1
    obtain ⟨f0, e2, q2, _⟩ := DataW.trod_int Tryz.underlying3 k0
    obtain ⟨f1, e3, q3⟩ := DataW.trod_bool Tryz.underlying4 k1
    obtain ⟨f2, e4, q4⟩ := DataW.trod_bool Tryz.underlying4 k2
    obtain ⟨f3, e5, q5⟩ := DataW.trod_bool Tryz.underlying4 k3
    subst q0 q1 q2 q3 q4 q5 hx2
    simp at e0 e1 e2 e3 e4 e5 hx
    obtain ⟨⟨r0, r1, r2, r3, r4, r5⟩, _⟩ := hx
    subst e0 e1 e2 e3 e4 e5 r0 r1 r2 r3 r4 r5
    rfl


set_option maxRecDepth 20000 in
/-- WHAT THE ROWS' LIST GIVES. -/
theorem laidT_of_laid {W : World} (h : laidMet Tryz.prog [("math/bits.deBruijn32tab", Rows.laid_math_bits_deBruijn32tab), ("math/bits.deBruijn64tab", Rows.laid_math_bits_deBruijn64tab), ("internal/strconv.uint64pow10", Rows.laid_internal_strconv_uint64pow10), ("unicode/utf8.acceptRanges", Rows.laid_unicode_utf8_acceptRanges), ("limner/widths.hiddenRuns", Rows.laid_limner_widths_hiddenRuns), ("limner/widths.wideRuns", Rows.laid_limner_widths_wideRuns), ("limner/grids.blank", Rows.laid_limner_grids_blank), ("limner/term.blank", Rows.laid_limner_term_blank), ("unicode/utf8.first", Rows.laid_unicode_utf8_first)] W) : LaidT W := by
  obtain ⟨ps, ⟨_, _, _, _, _, _, _, _, _, _, ⟨_, _, _, _, _, _, _, _, _, _, ⟨g3, t3, cs3, f3, p3, q3, hg3, ht3, hv3, hd3, ⟨g4, t4, cs4, f4, p4, q4, hg4, ht4, hv4, hd4, ⟨g5, t5, cs5, f5, p5, q5, hg5, ht5, hv5, hd5, ⟨g6, t6, cs6, f6, p6, q6, hg6, ht6, hv6, hd6, ⟨g7, t7, cs7, f7, p7, q7, hg7, ht7, hv7, hd7, ⟨g8, t8, cs8, f8, p8, q8, hg8, ht8, hv8, hd8, ⟨g9, t9, cs9, f9, p9, q9, hg9, ht9, hv9, hd9, _, _⟩, _⟩, _⟩, _⟩, _⟩, _⟩, _⟩, _⟩, _⟩, _⟩ := h
  obtain rfl := Option.some.inj (Tryz.gPow.symm.trans hg3)
  obtain rfl := Option.some.inj (Tryz.gPowType.symm.trans ht3)
  obtain rfl := Option.some.inj (Tryz.gAcc.symm.trans hg4)
  obtain rfl := Option.some.inj (Tryz.gAccType.symm.trans ht4)
  obtain rfl := Option.some.inj (Tryz.gHid.symm.trans hg5)
  obtain rfl := Option.some.inj (Tryz.gHidType.symm.trans ht5)
  obtain rfl := Option.some.inj (Tryz.gWid.symm.trans hg6)
  obtain rfl := Option.some.inj (Tryz.gWidType.symm.trans ht6)
  obtain rfl := Option.some.inj (Tryz.gBlk.symm.trans hg7)
  obtain rfl := Option.some.inj (Tryz.gBlkType.symm.trans ht7)
  obtain rfl := Option.some.inj (Tryz.gTBlk.symm.trans hg8)
  obtain rfl := Option.some.inj (Tryz.gTBlkType.symm.trans ht8)
  obtain rfl := Option.some.inj (Tryz.gFst.symm.trans hg9)
  obtain rfl := Option.some.inj (Tryz.gFstType.symm.trans ht9)
  have a9 := fst_of_laid hv9 (by rw [← first_data]; exact hd9)
  have a4 := acc_of_laid (L := accL) hv4 hd4
  have a3 : Lib.TabIs Tryz.prog W "internal/strconv.uint64pow10" .u64 Lib.pow10Tab := by
    unfold Lib.TabIs
    rw [hv3, ← Lib.cells_of_tab (zs := Lib.pow10Tab) Tryz.underlying177 Tryz.underlying151 Tryz.cellsU64 Tryz.cellsPow hd3]
  have acc : ∀ i, i < 16 → W.cell? ⟨4, i * 2, none⟩ = some (.int .u8 (accLo i : Nat)) ∧ W.cell? ⟨4, i * 2 + 1, none⟩ = some (.int .u8 (accHi i : Nat)) := fun i hi => a4 i _ hi (accL_at ⟨i, hi⟩)
  have a5 := hid_of_laid hv5 hd5
  have a6 := wid_of_laid hv6 hd6
  have a7 := cel_reads hd7
  have a8 := cel_reads hd8
  have c : ∀ k, W.cell? ⟨0, k, none⟩ = (celV blkC)[k]? := fun k => by
    rw [World.var?_cell Tryz.gBlk hv7 k, ← a7]; simp
  have b : cell6 W 0 0 blkC := ⟨c 0, c 1, c 2, c 3, c 4, c 5⟩
  have c2 : ∀ k, W.cell? ⟨5, k, none⟩ = (celV blkC)[k]? := fun k => by
    rw [World.var?_cell Tryz.gTBlk hv8 k, ← a8]; simp
  have b2 : cell6 W 5 0 blkC := ⟨c2 0, c2 1, c2 2, c2 3, c2 4, c2 5⟩
  exact ⟨⟨⟨⟨World.block_lt_of_cell? _ _ (a5 0 (by omega)), World.block_lt_of_cell? _ _ (a6 0 (by omega))⟩, a5, a6⟩, ⟨b.lt, b⟩⟩,
    ⟨⟨⟨World.block_lt_of_cell? _ _ (a9 0 (by omega)), World.block_lt_of_cell? _ _ (acc 0 (by omega)).1⟩, a9, acc⟩, World.block_lt_of_cell? _ _ (a3.cell Tryz.gPow 0 (by rw [Lib.pow10Tab_length]; omega)), a3⟩, ⟨b2.lt, b2⟩⟩

/-- A WORLD FOR THE WITNESS: each of the nine holds what its initialiser lays. -/
def rowU8 (l : List Nat) : Array Value := (l.map fun (n : Nat) => Value.int .u8 (n : Int)).toArray
def rowU64 (l : List Nat) : Array Value := (l.map fun (n : Nat) => Value.int .u64 (n : Int)).toArray
def d32C : Array Value := rowU8 [0, 1, 28, 2, 29, 14, 24, 3, 30, 22, 20, 15, 25, 17, 4, 8, 31, 27, 13, 23, 21, 19, 16, 7, 26, 12, 18, 6, 11, 5, 10, 9]
def d64C : Array Value := rowU8 [0, 1, 56, 2, 57, 49, 28, 3, 61, 58, 42, 50, 38, 29, 17, 4, 62, 47, 59, 36, 45, 43, 51, 22, 53, 39, 33, 30, 24, 18, 12, 5, 63, 55, 48, 27, 60, 41, 37, 16, 46, 35, 44, 21, 52, 32, 23, 11, 54, 26, 40, 15, 34, 20, 31, 10, 25, 14, 19, 9, 13, 8, 7, 6]
def powC : Array Value := rowU64 [1, 10, 100, 1000, 10000, 100000, 1000000, 10000000, 100000000, 1000000000, 10000000000, 100000000000, 1000000000000, 10000000000000, 100000000000000, 1000000000000000, 10000000000000000, 100000000000000000, 1000000000000000000, 10000000000000000000]
def accC : Array Value := rowU8 [128, 191, 160, 191, 128, 159, 144, 191, 128, 143, 0, 0, 0, 0, 0, 0, 0, 0, 0, 0, 0, 0, 0, 0, 0, 0, 0, 0, 0, 0, 0, 0]
def fstC : Array Value := rowU8 Go.Pinned.utf8FirstZ
def blkCells : Array Value := #[.int .i32 32, .int .i64 1, .int .i64 0, .bool false, .bool false, .bool false]
set_option maxRecDepth 20000 in
noncomputable def laidWorld (os : Os) : World :=
  { World.holding Tryz.prog os ⟨#[], #[], []⟩ with heap := (((((((((World.holding Tryz.prog os ⟨#[], #[], []⟩).heap.modify 3 (refill fstC)).modify 4 (refill accC)).modify 7 (refill powC)).modify 8 (refill d32C)).modify 9 (refill d64C)).modify 1 (refill hidCells)).modify 2 (refill widCells)).modify 0 (refill blkCells)).modify 5 (refill blkCells) }

set_option maxRecDepth 20000
section
variable {H : Type} {enc : TypeId × Value → H} {w : World} {base b0 : Nat} {spare : Nat → Bool} {held : Bool} {v : Value} {d : DataW H} {p : List MemPlace} {r : Reach}
theorem open_arrU8 {T : TypeId} {n : Nat} (hT : Tryz.prog.underlying T = some (.array n 5)) (hC : Tryz.prog.cellsOf T = n) (hv : Value.okWide Tryz.prog w r b0 T v) (h : DataW.Trod enc Tryz.prog w base spare held T v d p) :
    ∃ cs : Array Value, v = .agg cs ∧ cs.size = n ∧ ∀ i, i < n → ∃ z : Int, cs[i]? = some (.int .u8 z) ∧ 0 ≤ z ∧ z ≤ 255 := by
  simp only [Value.okWide, hT] at hv
  obtain ⟨cs, rfl, hsz, _⟩ := hv
  rw [hC] at hsz
  obtain ⟨fuel, hf⟩ := h
  obtain ⟨xs, m, _, _, _, hlen, hx⟩ := DataW.trod_array hT hf
  refine ⟨cs, rfl, hsz, fun i hi => ?_⟩
  have h1 := hx i hi
  rw [List.getElem?_eq_getElem (by omega), Tryz.cellsByte6, Nat.mul_one] at h1
  obtain ⟨z, hz, _, wz⟩ := DataW.trod_int Tryz.underlying5 h1
  have hci : i < cs.size := by omega
  have e : cs[i]? = some (.int .u8 z) := by
    have h2 := congrArg (fun l : List Value => l[0]?) hz
    simp only [List.getElem?_take, List.getElem?_drop, Nat.add_zero] at h2
    simpa [Value.cells, hci] using h2
  refine ⟨z, e, ?_⟩
  simp only [Lit.wf, Bool.and_eq_true, decide_eq_true_eq] at wz
  rwa [show IntKind.u8.min = 0 by decide, show IntKind.u8.max = 255 by decide] at wz
end
end Go.Proofs.YtpkjaallhhjleaaGreatDoor
