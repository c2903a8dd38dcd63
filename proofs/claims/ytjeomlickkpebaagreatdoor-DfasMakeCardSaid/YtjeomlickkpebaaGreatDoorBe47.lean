/-
  What the rows' list of five variables gives: the sentinel of a fault of a number, and the powers of ten. No call is walked here.
-/
import Derived.Test.YtjeomlickkpebaaGreatDoorBe44
import Derived.Test.YtjeomlickkpebaaGreatDoorBe43
namespace Go.Proofs.YtjeomlickkpebaaGreatDoor
open Go.ChangeShapes Go.WideShapes Go.ChangeAt Go.RowKit

theorem Tryz.gPow : Tryz.prog.globalNamed "internal/strconv.uint64pow10" = some 0 := by kernel_rfl
theorem Tryz.gPowType : (Tryz.prog.globals[0]?).map (·.type) = some 184 := by kernel_rfl
theorem Tryz.cellsPow : Tryz.prog.cellsOf 184 = 20 := by kernel_rfl
theorem Tryz.cellsPowU : Tryz.prog.cellsOf 50 = 1 := by kernel_rfl
set_option maxRecDepth 20000 in
theorem powW_of_laid {W : World} (h : laidMet Tryz.prog [("math/bits.deBruijn32tab", Rows.laid_math_bits_deBruijn32tab), ("math/bits.deBruijn64tab", Rows.laid_math_bits_deBruijn64tab), ("internal/strconv.uint64pow10", Rows.laid_internal_strconv_uint64pow10), ("strconv.ErrRange", Rows.laid_strconv_ErrRange), ("strconv.ErrSyntax", Rows.laid_strconv_ErrSyntax)] W) : PowW W := by
  obtain ⟨ps, ⟨_, _, _, _, _, _, _, _, _, _, ⟨_, _, _, _, _, _, _, _, _, _, ⟨g3, t3, cs3, f3, p3, q3, hg3, ht3, hv3, hd3, _, _⟩, _⟩, _⟩, _⟩ := h
  obtain rfl := Option.some.inj (Tryz.gPow.symm.trans hg3)
  obtain rfl := Option.some.inj (Tryz.gPowType.symm.trans ht3)
  have a3 : Lib.TabIs Tryz.prog W "internal/strconv.uint64pow10" .u64 Lib.pow10Tab := by
    unfold Lib.TabIs
    rw [hv3, ← Lib.cells_of_tab (zs := Lib.pow10Tab) Tryz.underlying184 Tryz.underlying50 Tryz.cellsPowU Tryz.cellsPow hd3]
  have hlt := World.block_lt_of_cell? _ _ (a3.cell Tryz.gPow 0 (by rw [Lib.pow10Tab_length]; omega))
  intro w' hb
  have h2 := a3
  unfold Lib.TabIs at h2 ⊢
  rw [← h2]
  unfold World.var?
  rw [Tryz.gPow]
  simp only [Option.bind_some]
  rw [(keep_below (fun _ => True) hb).same _ hlt trivial]
theorem envW_of_laid {W : World} (h : laidMet Tryz.prog [("math/bits.deBruijn32tab", Rows.laid_math_bits_deBruijn32tab), ("math/bits.deBruijn64tab", Rows.laid_math_bits_deBruijn64tab), ("internal/strconv.uint64pow10", Rows.laid_internal_strconv_uint64pow10), ("strconv.ErrRange", Rows.laid_strconv_ErrRange), ("strconv.ErrSyntax", Rows.laid_strconv_ErrSyntax)] W) : EnvW W := ⟨errW_of_laid h, powW_of_laid h⟩
end Go.Proofs.YtjeomlickkpebaaGreatDoor
