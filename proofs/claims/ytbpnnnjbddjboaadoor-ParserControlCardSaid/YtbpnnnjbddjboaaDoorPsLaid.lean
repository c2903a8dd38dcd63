/-
  What the rows' list of five variables gives: the two tables of utf8, the powers of ten; a world for the witness.
-/
import Derived.Test.YtbpnnnjbddjboaaDoorPsFirst
import Derived.Test.YtbpnnnjbddjboaaDoorCards
import Derived.Test.YtbpnnnjbddjboaaDoorTie
import Derived.ProofKit
import Derived.OpenShut
import Derived.ChangeSame
import Derived.Carry
import Derived.Deep.DeepHandedRow
import Derived.Lib.LaidTab
import Derived.Lib.SmallJoins
namespace Go.Proofs.YtbpnnnjbddjboaaDoor
open Go.ChangeShapes Go.WideShapes Go.ChangeAt Go.RowKit

theorem Tryd.laidOut : laidOutB Tryd.prog = true := by kernel_rfl
theorem Tryd.gFst : Tryd.prog.globalNamed "unicode/utf8.first" = some 0 := by kernel_rfl
theorem Tryd.gAcc : Tryd.prog.globalNamed "unicode/utf8.acceptRanges" = some 1 := by kernel_rfl
theorem Tryd.gFstType : (Tryd.prog.globals[0]?).map (·.type) = some 74 := by kernel_rfl
theorem Tryd.gAccType : (Tryd.prog.globals[1]?).map (·.type) = some 77 := by kernel_rfl
theorem Tryd.gPowType : (Tryd.prog.globals[3]?).map (·.type) = some 93 := by kernel_rfl
theorem Tryd.cellsFst : Tryd.prog.cellsOf 74 = 256 := by kernel_rfl
theorem Tryd.cellsAcc : Tryd.prog.cellsOf 76 = 2 := by kernel_rfl
theorem Tryd.cellsAccs : Tryd.prog.cellsOf 77 = 32 := by kernel_rfl
theorem Tryd.cellsPow : Tryd.prog.cellsOf 93 = 20 := by kernel_rfl
theorem Tryd.cellsByte : Tryd.prog.cellsOf 5 = 1 := by kernel_rfl
theorem Tryd.cellsU64 : Tryd.prog.cellsOf 84 = 1 := by kernel_rfl

theorem first_data : Go.Pinned.utf8First = Lib.tabData .u8 (Go.Pinned.utf8FirstZ.map fun (n : Nat) => (n : Int)) := by
  unfold Go.Pinned.utf8First Go.Pinned.numbers Lib.tabData
  rw [List.map_map]
  rfl
theorem first_vals : Go.Pinned.utf8FirstZ = (List.range 256).map fstB := by decide +kernel
theorem fst_of_laid {H : Type} {enc : TypeId × Value → H} {W : World} {cs : Array Value} {fuel : Nat} {base : Nat} {sp : Nat → Bool} {held : Bool} {p : List MemPlace} (hv : W.var? Tryd.prog "unicode/utf8.first" = some cs)
    (hd : DataW.trod enc Tryd.prog W base sp held fuel 74 cs.toList = some (Lib.tabData .u8 (Go.Pinned.utf8FirstZ.map fun (n : Nat) => (n : Int)), p)) : ∀ k, k < 256 → W.cell? ⟨0, k, none⟩ = some (.int .u8 (fstB k : Nat)) := by
  have h1 := Lib.cells_of_tab Tryd.underlying74 Tryd.underlying5 Tryd.cellsByte Tryd.cellsFst hd
  rw [first_vals] at h1
  intro k hk
  rw [World.var?_cell Tryd.gFst hv k, ← Array.getElem?_toList, h1, List.getElem?_map, List.getElem?_map, List.getElem?_map, List.getElem?_range hk]
  rfl
theorem acc_of_laid {H : Type} {enc : TypeId × Value → H} {W : World} {cs : Array Value} {fuel : Nat} {base : Nat} {sp : Nat → Bool} {held : Bool} {p : List MemPlace} {L : List (Int × Int)} (hv : W.var? Tryd.prog "unicode/utf8.acceptRanges" = some cs)
    (hd : DataW.trod enc Tryd.prog W base sp held fuel 77 cs.toList = some (.agg (L.map fun x => .agg [.lit (.int .u8 x.1), .lit (.int .u8 x.2)]), p)) :
    ∀ i x, i < 16 → L[i]? = some x → W.cell? ⟨1, i * 2, none⟩ = some (.int .u8 x.1) ∧ W.cell? ⟨1, i * 2 + 1, none⟩ = some (.int .u8 x.2) := by
  obtain ⟨xs, m, _, hx, hl, hlen, hf⟩ := DataW.trod_array Tryd.underlying77 hd
  intro i x hi hLi
  have h1 := hf i hi
  rw [List.getElem?_eq_getElem (by omega), Tryd.cellsAcc] at h1
  obtain ⟨y0, y1, n, he, hl2, t0, t1⟩ := trod_struct2 Tryd.underlying76 h1
  simp only [Tryd.cellsByte] at t0 t1
  obtain ⟨a, e0, q0, _⟩ := DataW.trod_int Tryd.underlying5 t0
  obtain ⟨b, e1, q1, _⟩ := DataW.trod_int Tryd.underlying5 t1
  have hxx : xs.map (·.1) = L.map fun x => (.agg [.lit (.int .u8 x.1), .lit (.int .u8 x.2)] : DataW H) := by
    have h := congrArg Prod.fst hx
    simp only [DataW.agg.injEq] at h
    exact h.symm
  have h2 := congrArg (fun l : List (DataW H) => l[i]?) hxx
  simp only [List.getElem?_map, hLi, List.getElem?_eq_getElem (show i < xs.length by omega), Option.map_some, Option.some.injEq] at h2
  rw [he] at h2
  subst q0 q1
  simp only [DataW.agg.injEq, List.cons.injEq, DataW.lit.injEq, Lit.int.injEq, true_and, and_true] at h2
  obtain ⟨rfl, rfl⟩ := h2
  have f0 := congrArg (fun l : List Value => l[0]?) e0
  have f1 := congrArg (fun l : List Value => l[0]?) e1
  simp [List.getElem?_drop] at f0 f1
  rw [World.var?_cell Tryd.gAcc hv, World.var?_cell Tryd.gAcc hv]
  exact ⟨by simpa using f0, by simpa using f1⟩
def accL : List (Int × Int) := [(128, 191), (160, 191), (128, 159), (144, 191), (128, 143), (0, 0), (0, 0), (0, 0), (0, 0), (0, 0), (0, 0), (0, 0), (0, 0), (0, 0), (0, 0), (0, 0)]
theorem accL_at : ∀ i : Fin 16, accL[i.val]? = some ((accLo i.val : Int), (accHi i.val : Int)) := by decide +kernel

/-- WHAT THE ROWS' LIST GIVES. -/
theorem laidP_of_laid {W : World} (h : laidMet Tryd.prog [("math/bits.deBruijn32tab", Rows.laid_math_bits_deBruijn32tab), ("math/bits.deBruijn64tab", Rows.laid_math_bits_deBruijn64tab), ("internal/strconv.uint64pow10", Rows.laid_internal_strconv_uint64pow10), ("unicode/utf8.acceptRanges", Rows.laid_unicode_utf8_acceptRanges), ("unicode/utf8.first", Rows.laid_unicode_utf8_first)] W) : LaidP W := by
  obtain ⟨ps, ⟨_, _, _, _, _, _, _, _, _, _, ⟨_, _, _, _, _, _, _, _, _, _, ⟨g3, t3, cs3, f3, p3, q3, hg3, ht3, hv3, hd3, ⟨g4, t4, cs4, f4, p4, q4, hg4, ht4, hv4, hd4, ⟨g5, t5, cs5, f5, p5, q5, hg5, ht5, hv5, hd5, _, _⟩, _⟩, _⟩, _⟩, _⟩, _⟩ := h
  obtain rfl := Option.some.inj (Tryd.gPow.symm.trans hg3)
  obtain rfl := Option.some.inj (Tryd.gPowType.symm.trans ht3)
  obtain rfl := Option.some.inj (Tryd.gAcc.symm.trans hg4)
  obtain rfl := Option.some.inj (Tryd.gAccType.symm.trans ht4)
  obtain rfl := Option.some.inj (Tryd.gFst.symm.trans hg5)
  obtain rfl := Option.some.inj (Tryd.gFstType.symm.trans ht5)
  have a5 := fst_of_laid hv5 (by rw [← first_data]; exact hd5)
  have a4 := acc_of_laid (L := accL) hv4 hd4
  have a3 : Lib.TabIs Tryd.prog W "internal/strconv.uint64pow10" .u64 Lib.pow10Tab := by
    unfold Lib.TabIs
    rw [hv3, ← Lib.cells_of_tab (zs := Lib.pow10Tab) Tryd.underlying93 Tryd.underlying84 Tryd.cellsU64 Tryd.cellsPow hd3]
  have acc : ∀ i, i < 16 → W.cell? ⟨1, i * 2, none⟩ = some (.int .u8 (accLo i : Nat)) ∧ W.cell? ⟨1, i * 2 + 1, none⟩ = some (.int .u8 (accHi i : Nat)) := fun i hi => a4 i _ hi (accL_at ⟨i, hi⟩)
  exact ⟨⟨⟨World.block_lt_of_cell? _ _ (a5 0 (by omega)), World.block_lt_of_cell? _ _ (acc 0 (by omega)).1⟩, a5, acc⟩, World.block_lt_of_cell? _ _ (a3.cell Tryd.gPow 0 (by rw [Lib.pow10Tab_length]; omega)), a3⟩

/-- A WORLD FOR THE WITNESS: each of the five holds what its initialiser lays. -/
def refill (cs : Array Value) : Obj → Obj
  | .cells _ t frozen => .cells cs t frozen
  | o => o
def rowU8 (l : List Nat) : Array Value := (l.map fun (n : Nat) => Value.int .u8 (n : Int)).toArray
def rowU64 (l : List Nat) : Array Value := (l.map fun (n : Nat) => Value.int .u64 (n : Int)).toArray
def d32C : Array Value := rowU8 [0, 1, 28, 2, 29, 14, 24, 3, 30, 22, 20, 15, 25, 17, 4, 8, 31, 27, 13, 23, 21, 19, 16, 7, 26, 12, 18, 6, 11, 5, 10, 9]
def d64C : Array Value := rowU8 [0, 1, 56, 2, 57, 49, 28, 3, 61, 58, 42, 50, 38, 29, 17, 4, 62, 47, 59, 36, 45, 43, 51, 22, 53, 39, 33, 30, 24, 18, 12, 5, 63, 55, 48, 27, 60, 41, 37, 16, 46, 35, 44, 21, 52, 32, 23, 11, 54, 26, 40, 15, 34, 20, 31, 10, 25, 14, 19, 9, 13, 8, 7, 6]
def powC : Array Value := rowU64 [1, 10, 100, 1000, 10000, 100000, 1000000, 10000000, 100000000, 1000000000, 10000000000, 100000000000, 1000000000000, 10000000000000, 100000000000000, 1000000000000000, 10000000000000000, 100000000000000000, 1000000000000000000, 10000000000000000000]
def accC : Array Value := rowU8 [128, 191, 160, 191, 128, 159, 144, 191, 128, 143, 0, 0, 0, 0, 0, 0, 0, 0, 0, 0, 0, 0, 0, 0, 0, 0, 0, 0, 0, 0, 0, 0]
def fstC : Array Value := rowU8 Go.Pinned.utf8FirstZ
noncomputable def laidWorld (os : Os) : World :=
  { World.holding Tryd.prog os ⟨#[], #[], []⟩ with heap := (((((World.holding Tryd.prog os ⟨#[], #[], []⟩).heap.modify 0 (refill fstC)).modify 1 (refill accC)).modify 3 (refill powC)).modify 4 (refill d32C)).modify 5 (refill d64C) }
theorem own : ownKnob Tryd.prog.godebug = none := by kernel_rfl
end Go.Proofs.YtbpnnnjbddjboaaDoor
