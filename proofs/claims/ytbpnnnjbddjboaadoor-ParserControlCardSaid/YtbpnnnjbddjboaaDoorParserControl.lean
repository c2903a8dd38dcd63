/-
  ParserControl: a control within an escape, or a sequence, is asked for at once; the sequence goes on behind it: the law's walk, all ways together: it returns true.
-/
import Derived.Test.YtbpnnnjbddjboaaDoorPsCtlA
import Derived.Test.YtbpnnnjbddjboaaDoorPsCtlB
import Derived.Test.YtbpnnnjbddjboaaDoorPsCtlC
namespace Go.Proofs.YtbpnnnjbddjboaaDoor
open Go.RowKit

theorem ctl_any (x : Prt) (pv : Value) (at' c : Int) (w : World) (hP : LaidP w) (h : PrtW w pv x) (a0 : 0 ≤ at') (a1 : at' ≤ 255) (c0 : 0 ≤ c) (c1 : c ≤ 255) :
    Calls Tryd.prog 7 #[.agg #[.int .u8 x.1, .int .i32 x.2.1, .int .u8 x.2.2.1, pv], .int .u8 at', .int .u8 c] w fun e w' => e = .returned (.bool true) ∧ Below w.heap.size w w' := by
  by_cases h24 : c % 27 = 24
  · exact ctl_a x pv at' c w hP h a0 a1 c0 c1 h24
  · by_cases h26 : c % 27 = 26
    · exact ctl_b x pv at' c w hP h a0 a1 c0 c1 h26
    · exact ctl_c x pv at' c w hP h a0 a1 c0 c1 ⟨h24, h26⟩
end Go.Proofs.YtbpnnnjbddjboaaDoor
