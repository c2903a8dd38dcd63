/-
  What the laws' inputs read as: a part by value, a slice of parts. No call is walked here.
-/
import Derived.Test.YtbpnnnjbddjboaaDoorParserParts
import Derived.ProofKit
import Derived.Lib.SmallJoins
import Derived.Deep.Slices
import Derived.OpenShut
import Derived.Carry
namespace Go.Proofs.YtbpnnnjbddjboaaDoor
open Go.ChangeShapes Go.WideShapes Go.ChangeAt Go.RowKit

theorem Tryd.cellsInt7 : Tryd.prog.cellsOf 3 = 1 := by kernel_rfl
theorem Tryd.cellsRune7 : Tryd.prog.cellsOf 21 = 1 := by kernel_rfl
theorem Tryd.cellsByte7 : Tryd.prog.cellsOf 5 = 1 := by kernel_rfl
theorem Tryd.cellsInts7 : Tryd.prog.cellsOf 32 = 1 := by kernel_rfl
theorem Tryd.cellsPart7 : Tryd.prog.cellsOf 40 = 4 := by kernel_rfl

section
variable {H : Type} {enc : TypeId × Value → H} {w : World} {base b0 : Nat} {spare : Nat → Bool} {held : Bool} {v : Value} {d : DataW H} {p : List MemPlace} {r : Reach}

set_option maxRecDepth 20000 in
/-- A slice of ints. -/
theorem open_intz {cs : List Value} {fuel : Nat} {y : DataW H × List MemPlace} (h : DataW.trod enc Tryd.prog w base spare held fuel 32 cs = some y) :
    ∃ (l : List Int) (pv : Value), cs = [pv] ∧ RowV AnyP w pv l.length (intsZ l) ∧ ∀ z ∈ l, -9223372036854775808 ≤ z ∧ z ≤ 9223372036854775807 := by
  rcases Go.Deep.open_slice Tryd.underlying32 h with ⟨hcs, _⟩ | ⟨a, len, cap, m, n, D, Pl, hcs, _, hl, hm, hz, _, hx⟩
  · exact ⟨[], .slice none 0 0, hcs, RowV.nil _ _, fun _ h => by cases h⟩
  · have hlen : len ≤ m := by rw [hz]; split <;> omega
    have each : ∀ i, i < len → ∃ z : Int, ∃ g o, a = ⟨g, o, none⟩ ∧ w.cell? ⟨g, o + i, none⟩ = some (.int .i64 z) ∧ -9223372036854775808 ≤ z ∧ z ≤ 9223372036854775807 := by
      intro i hi
      obtain ⟨cs1, hcs1, ht⟩ := hx i (by omega)
      obtain ⟨z, e0, _, wz⟩ := DataW.trod_int Tryd.underlying3 ht
      rw [Tryd.cellsInt7] at hcs1
      obtain ⟨_, hl1, hc⟩ := World.cells?_some hcs1
      obtain ⟨cs0, hcs0, _⟩ := hx 0 (by omega)
      rw [Tryd.cellsInt7] at hcs0
      obtain ⟨_, hl0, hc0⟩ := World.cells?_some hcs0
      have hspot : a.spot = none := by
        obtain ⟨u, hu⟩ : ∃ u, cs0[0]? = some u := ⟨_, List.getElem?_eq_getElem (by omega)⟩
        have h0 := hc0 0 (by omega)
        rw [hu] at h0
        simpa [Addr.add] using World.cell?_spot h0
      obtain ⟨b, off, spot⟩ := a
      have hs' : spot = none := hspot
      subst hs'
      simp only [Lit.wf, Bool.and_eq_true, decide_eq_true_eq] at wz
      rw [show IntKind.i64.min = -9223372036854775808 by decide, show IntKind.i64.max = 9223372036854775807 by decide] at wz
      refine ⟨z, b, off, rfl, ?_, wz⟩
      have := hc 0 (by omega)
      rw [e0] at this
      simpa [add_plain] using this
    obtain ⟨F, hF⟩ := Go.Deep.choose_lt each
    have hlf : ((List.range len).map F).length = len := by simp
    refine ⟨(List.range len).map F, .slice (some a) len cap, hcs, ?_, fun z hz' => ?_⟩
    · rw [hlf]
      refine ⟨some a, cap, rfl, by omega, fun _ _ => trivial, fun j u hu => ?_⟩
      unfold intsZ at hu
      rw [List.getElem?_map, List.getElem?_map] at hu
      by_cases hj : j < len
      · rw [List.getElem?_range hj] at hu
        obtain ⟨g, o, rfl, hc, _⟩ := hF j hj
        simp only [Option.map_some, Option.some.injEq] at hu
        exact ⟨g, o, rfl, by rw [hc, hu]⟩
      · rw [List.getElem?_eq_none (by simp; omega)] at hu
        cases hu
    · obtain ⟨i, hi, rfl⟩ := List.mem_map.1 hz'
      obtain ⟨_, _, _, _, h2⟩ := hF i (List.mem_range.1 hi)
      exact h2
theorem part_cells {cs : List Value} {fuel : Nat} {y : DataW H × List MemPlace} (h : DataW.trod enc Tryd.prog w base spare held fuel 40 cs = some y) :
    ∃ (x : Prt) (pv : Value), cs = [.int .u8 x.1, .int .i32 x.2.1, .int .u8 x.2.2.1, pv] ∧ PrtW w pv x := by
  obtain ⟨y0, y1, y2, y3, n, _, hl, h0, h1, h2, h3⟩ := Go.Joins.trod_struct4 Tryd.underlying40 h
  rw [Tryd.cellsPart7] at hl
  match cs, hl with
  | [c0, c1, c2, c3], _ =>
    simp only [Tryd.cellsInts7, Tryd.cellsRune7, Tryd.cellsByte7] at h0 h1 h2 h3
    obtain ⟨a, e0, _, w0⟩ := DataW.trod_int Tryd.underlying5 h0
    obtain ⟨b, e1, _, _⟩ := DataW.trod_int Tryd.underlying21 h1
    obtain ⟨c, e2, _, w2⟩ := DataW.trod_int Tryd.underlying5 h2
    obtain ⟨l, pv, e3, hr, hz⟩ := open_intz h3
    simp at e0 e1 e2 e3
    subst e0 e1 e2 e3
    simp only [Lit.wf, Bool.and_eq_true, decide_eq_true_eq] at w0 w2
    rw [show IntKind.u8.min = 0 by decide, show IntKind.u8.max = 255 by decide] at w0 w2
    exact ⟨(a, b, c, l), _, rfl, hr, w0, w2, hz⟩
set_option maxRecDepth 20000 in
theorem open_part (hv : Value.okWide Tryd.prog w r b0 40 v) (h : DataW.Trod enc Tryd.prog w base spare held 40 v d p) :
    ∃ (x : Prt) (pv : Value), v = .agg #[.int .u8 x.1, .int .i32 x.2.1, .int .u8 x.2.2.1, pv] ∧ PrtW w pv x := by
  obtain ⟨cs, rfl, _⟩ := okWide_struct Tryd.underlying40 hv
  obtain ⟨fuel, hf⟩ := h
  obtain ⟨x, pv, hcs, hx⟩ := part_cells hf
  refine ⟨x, pv, ?_, hx⟩
  simp [Value.cells] at hcs
  rw [show cs = #[.int .u8 x.1, .int .i32 x.2.1, .int .u8 x.2.2.1, pv] from Array.toList_inj.1 hcs]
set_option maxRecDepth 20000 in
theorem open_parts (hv : Value.okWide Tryd.prog w r b0 37 v) (h : DataW.Trod enc Tryd.prog w base spare held 37 v d p) :
    ∃ l : List Prt, PrtsW w v l := by
  obtain ⟨a0, len0, cap0, rfl⟩ := okWide_slice Tryd.underlying37 hv
  obtain ⟨fuel, hf⟩ := h
  rcases Go.Deep.open_slice Tryd.underlying37 hf with ⟨hcs, _⟩ | ⟨a, len, cap, m, n, D, Pl, hcs, _, hl, hm, hz, _, hx⟩
  · simp [Value.cells] at hcs
    obtain ⟨rfl, rfl, rfl⟩ := hcs
    exact ⟨[], none, 0, rfl, Nat.le_refl _, fun i x hx => by simp at hx⟩
  · simp [Value.cells] at hcs
    obtain ⟨rfl, rfl, rfl⟩ := hcs
    have hlen : len0 ≤ m := by rw [hz]; split <;> omega
    have each : ∀ i, i < len0 → ∃ x : Prt, ∃ g o pv, a = ⟨g, o, none⟩ ∧ w.cell? ⟨g, o + i * 4, none⟩ = some (.int .u8 x.1) ∧ w.cell? ⟨g, o + i * 4 + 1, none⟩ = some (.int .i32 x.2.1) ∧ w.cell? ⟨g, o + i * 4 + 2, none⟩ = some (.int .u8 x.2.2.1) ∧ w.cell? ⟨g, o + i * 4 + 3, none⟩ = some pv ∧ PrtW w pv x := by
      intro i hi
      obtain ⟨cs1, hcs1, ht⟩ := hx i (by omega)
      obtain ⟨x, pv, rfl, hX⟩ := part_cells ht
      rw [Tryd.cellsPart7] at hcs1
      obtain ⟨_, hl1, hc⟩ := World.cells?_some hcs1
      obtain ⟨cs0, hcs0, _⟩ := hx 0 (by omega)
      rw [Tryd.cellsPart7] at hcs0
      obtain ⟨_, hl0, hc0⟩ := World.cells?_some hcs0
      have hspot : a.spot = none := by
        obtain ⟨u, hu⟩ : ∃ u, cs0[0]? = some u := ⟨_, List.getElem?_eq_getElem (by omega)⟩
        have h0 := hc0 0 (by omega)
        rw [hu] at h0
        simpa [Addr.add] using World.cell?_spot h0
      obtain ⟨b, off, spot⟩ := a
      have hs' : spot = none := hspot
      subst hs'
      refine ⟨x, b, off, pv, rfl, ?_, ?_, ?_, ?_, hX⟩
      · have := hc 0 (by omega); simpa [add_plain] using this
      · have := hc 1 (by omega); simpa [add_plain] using this
      · have := hc 2 (by omega); simpa [add_plain] using this
      · have := hc 3 (by omega); simpa [add_plain] using this
    obtain ⟨F, hF⟩ := Go.Deep.choose_lt each
    have hlf : ((List.range len0).map F).length = len0 := by simp
    refine ⟨(List.range len0).map F, some a, cap0, by rw [hlf], by omega, fun i x hxi => ?_⟩
    rw [List.getElem?_map] at hxi
    by_cases hj : i < len0
    · rw [List.getElem?_range hj] at hxi
      obtain ⟨g, o, pv, rfl, c0, c1, c2, c3, hX⟩ := hF i hj
      cases hxi
      exact ⟨g, o, pv, rfl, c0, c1, c2, c3, hX⟩
    · rw [List.getElem?_eq_none (by simp; omega)] at hxi
      cases hxi
end
end Go.Proofs.YtbpnnnjbddjboaaDoor
