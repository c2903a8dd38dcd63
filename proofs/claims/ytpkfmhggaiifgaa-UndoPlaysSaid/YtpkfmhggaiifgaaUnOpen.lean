/-
  What the laws' inputs read as: a row of bytes; a row of acts. No call is walked here.
-/
import Derived.Test.YtpkfmhggaiifgaaRow
import Derived.ProofKit
import Derived.Lib.SmallJoins
import Derived.SliceStrings
import Derived.Deep.Slices
import Derived.OpenShut
import Derived.Carry
namespace Go.Proofs.Ytpkfmhggaiifgaa
open Go.ChangeShapes Go.WideShapes Go.ChangeAt Go.RowKit

theorem Try.laidOut : laidOutB Try.prog = true := by kernel_rfl
theorem Try.cellsU8u : Try.prog.cellsOf 5 = 1 := by kernel_rfl
theorem Try.cellsIntu : Try.prog.cellsOf 3 = 1 := by kernel_rfl
theorem Try.cellsActu : Try.prog.cellsOf 31 = 4 := by kernel_rfl

/-- A row of bytes. -/
def U8sW (w : World) (v : Value) (l : List Int) : Prop :=
  ∃ ao cap, v = .slice ao l.length cap ∧ ∀ (i : Nat) x, l[i]? = some x → 0 ≤ x ∧ x ≤ 255 ∧ ∃ g o, ao = some ⟨g, o, none⟩ ∧ w.cell? ⟨g, o + i, none⟩ = some (.int .u8 x)
theorem U8sW.below {w w' : World} {v : Value} {l : List Int} (h : U8sW w v l) (hb : Below w.heap.size w w') : U8sW w' v l := by
  obtain ⟨ao, cap, hv, hc⟩ := h
  refine ⟨ao, cap, hv, fun i x hx => ?_⟩
  obtain ⟨h1, h2, g, o, ha, c0⟩ := hc i x hx
  exact ⟨h1, h2, g, o, ha, by rw [hb.cell (p := ⟨g, o + i, none⟩) (rlt c0)]; exact c0⟩

/-- A row of acts: kind, text, cursor, group. -/
def UActsW (w : World) (v : Value) (l : List (Int × Int × Int × Int)) : Prop :=
  ∃ ao cap, v = .slice ao l.length cap ∧ ∀ (i : Nat) x, l[i]? = some x → (0 ≤ x.1 ∧ x.1 ≤ 255 ∧ 0 ≤ x.2.1 ∧ x.2.1 ≤ 255) ∧ ∃ g o, ao = some ⟨g, o, none⟩ ∧ w.cell? ⟨g, o + i * 4, none⟩ = some (.int .u8 x.1) ∧
    w.cell? ⟨g, o + i * 4 + 1, none⟩ = some (.int .u8 x.2.1) ∧ w.cell? ⟨g, o + i * 4 + 2, none⟩ = some (.int .i64 x.2.2.1) ∧ w.cell? ⟨g, o + i * 4 + 3, none⟩ = some (.int .i64 x.2.2.2)
theorem UActsW.below {w w' : World} {v : Value} {l : List (Int × Int × Int × Int)} (h : UActsW w v l) (hb : Below w.heap.size w w') : UActsW w' v l := by
  obtain ⟨ao, cap, hv, hc⟩ := h
  refine ⟨ao, cap, hv, fun i x hx => ?_⟩
  obtain ⟨h1, g, o, ha, c0, c1, c2, c3⟩ := hc i x hx
  have hlt : g < w.heap.size := rlt (p := ⟨g, o + i * 4, none⟩) c0
  exact ⟨h1, g, o, ha, by rw [hb.cell (p := ⟨g, o + i * 4, none⟩) hlt]; exact c0, by rw [hb.cell (p := ⟨g, o + i * 4 + 1, none⟩) hlt]; exact c1,
    by rw [hb.cell (p := ⟨g, o + i * 4 + 2, none⟩) hlt]; exact c2, by rw [hb.cell (p := ⟨g, o + i * 4 + 3, none⟩) hlt]; exact c3⟩

section
variable {H : Type} {enc : TypeId × Value → H} {w : World} {base b0 : Nat} {spare : Nat → Bool} {held : Bool} {v : Value} {d : DataW H} {p : List MemPlace} {r : Reach}

theorem u8_cell {cs : List Value} {fuel : Nat} {x : DataW H × List MemPlace} (h : DataW.trod enc Try.prog w base spare held fuel 5 cs = some x) : ∃ z : Int, cs = [.int .u8 z] ∧ 0 ≤ z ∧ z ≤ 255 := by
  obtain ⟨z, e, _, wz⟩ := DataW.trod_int Try.underlying5 h
  simp only [Lit.wf, Bool.and_eq_true, decide_eq_true_eq] at wz
  rw [show IntKind.u8.min = 0 by decide, show IntKind.u8.max = 255 by decide] at wz
  exact ⟨z, e, wz.1, wz.2⟩

theorem open_u8s (hv : Value.okWide Try.prog w r b0 57 v) (h : DataW.Trod enc Try.prog w base spare held 57 v d p) : ∃ l, U8sW w v l := by
  obtain ⟨a0, len, cap, rfl⟩ := okWide_slice Try.underlying57 hv
  obtain ⟨fuel, hf⟩ := h
  rcases Go.Deep.open_slice Try.underlying57 hf with ⟨hcs, _⟩ | ⟨a, len', cap', m, n, D, Pl, hcs, _, hl, hm, hz, _, hx⟩
  · simp [Value.cells] at hcs
    obtain ⟨rfl, rfl, rfl⟩ := hcs
    exact ⟨[], none, 0, rfl, fun i x h => by simp at h⟩
  · simp [Value.cells] at hcs
    obtain ⟨rfl, rfl, rfl⟩ := hcs
    have hlen : len ≤ m := by rw [hz]; split <;> omega
    have each : ∀ i, i < len → ∃ x : Int, 0 ≤ x ∧ x ≤ 255 ∧ ∃ g o, a = ⟨g, o, none⟩ ∧ w.cell? ⟨g, o + i, none⟩ = some (.int .u8 x) := by
      intro i hi
      obtain ⟨cs, hcs, ht⟩ := hx i (by omega)
      obtain ⟨cs0, hcs0, _⟩ := hx 0 (by omega)
      rw [Try.cellsU8u] at hcs hcs0
      obtain ⟨_, _, hc⟩ := World.cells?_some hcs
      obtain ⟨_, hl0, hc0⟩ := World.cells?_some hcs0
      obtain ⟨z, rfl, z0, z1⟩ := u8_cell ht
      have hspot : a.spot = none := by
        obtain ⟨u, hu⟩ : ∃ u, cs0[0]? = some u := ⟨_, List.getElem?_eq_getElem (by omega)⟩
        have h0 := hc0 0 (by omega)
        rw [hu] at h0
        simpa [Addr.add] using World.cell?_spot h0
      obtain ⟨b, off, spot⟩ := a
      have hs' : spot = none := hspot
      subst hs'
      refine ⟨z, z0, z1, b, off, rfl, ?_⟩
      have := hc 0 (by omega); simpa [rlit] using this
    obtain ⟨F, hF⟩ := Go.Deep.choose_lt each
    refine ⟨(List.range len).map F, some a, cap, by simp, fun i x hx' => ?_⟩
    rw [List.getElem?_map] at hx'
    by_cases hi : i < len
    · rw [List.getElem?_range hi] at hx'
      simp at hx'
      subst hx'
      obtain ⟨k0, k1, g, o, rfl, hh⟩ := hF i hi
      exact ⟨k0, k1, g, o, rfl, hh⟩
    · rw [List.getElem?_eq_none (by simp; omega)] at hx'
      simp at hx'

/-- The four cells of an act. -/
theorem uact_cells {cs : List Value} {fuel : Nat} {x : DataW H × List MemPlace} (h : DataW.trod enc Try.prog w base spare held fuel 31 cs = some x) :
    ∃ (k t c g : Int), cs = [.int .u8 k, .int .u8 t, .int .i64 c, .int .i64 g] ∧ 0 ≤ k ∧ k ≤ 255 ∧ 0 ≤ t ∧ t ≤ 255 := by
  obtain ⟨y0, y1, y2, y3, n, _, hl, h0, h1, h2, h3⟩ := Go.Joins.trod_struct4 Try.underlying31 h
  rw [Try.cellsActu] at hl
  match cs, hl with
  | [c0, c1, c2, c3], _ =>
    simp only [Try.cellsIntu, Try.cellsU8u] at h0 h1 h2 h3
    obtain ⟨k, e0, k0, k1⟩ := u8_cell h0
    obtain ⟨t, e1, t0, t1⟩ := u8_cell h1
    obtain ⟨c, e2, _, _⟩ := DataW.trod_int Try.underlying3 h2
    obtain ⟨g, e3, _, _⟩ := DataW.trod_int Try.underlying3 h3
    simp at e0 e1 e2 e3
    subst e0 e1 e2 e3
    exact ⟨k, t, c, g, rfl, k0, k1, t0, t1⟩

theorem open_uacts (hv : Value.okWide Try.prog w r b0 22 v) (h : DataW.Trod enc Try.prog w base spare held 22 v d p) : ∃ l, UActsW w v l := by
  obtain ⟨a0, len, cap, rfl⟩ := okWide_slice Try.underlying22 hv
  obtain ⟨fuel, hf⟩ := h
  rcases Go.Deep.open_slice Try.underlying22 hf with ⟨hcs, _⟩ | ⟨a, len', cap', m, n, D, Pl, hcs, _, hl, hm, hz, _, hx⟩
  · simp [Value.cells] at hcs
    obtain ⟨rfl, rfl, rfl⟩ := hcs
    exact ⟨[], none, 0, rfl, fun i x h => by simp at h⟩
  · simp [Value.cells] at hcs
    obtain ⟨rfl, rfl, rfl⟩ := hcs
    have hlen : len ≤ m := by rw [hz]; split <;> omega
    have each : ∀ i, i < len → ∃ x : Int × Int × Int × Int, (0 ≤ x.1 ∧ x.1 ≤ 255 ∧ 0 ≤ x.2.1 ∧ x.2.1 ≤ 255) ∧ ∃ g o, a = ⟨g, o, none⟩ ∧ w.cell? ⟨g, o + i * 4, none⟩ = some (.int .u8 x.1) ∧
        w.cell? ⟨g, o + i * 4 + 1, none⟩ = some (.int .u8 x.2.1) ∧ w.cell? ⟨g, o + i * 4 + 2, none⟩ = some (.int .i64 x.2.2.1) ∧ w.cell? ⟨g, o + i * 4 + 3, none⟩ = some (.int .i64 x.2.2.2) := by
      intro i hi
      obtain ⟨cs, hcs, ht⟩ := hx i (by omega)
      obtain ⟨k, t, c, g, rfl, k0, k1, t0, t1⟩ := uact_cells ht
      obtain ⟨cs0, hcs0, _⟩ := hx 0 (by omega)
      rw [Try.cellsActu] at hcs hcs0
      obtain ⟨_, _, hc⟩ := World.cells?_some hcs
      obtain ⟨_, hl0, hc0⟩ := World.cells?_some hcs0
      have hspot : a.spot = none := by
        obtain ⟨u, hu⟩ : ∃ u, cs0[0]? = some u := ⟨_, List.getElem?_eq_getElem (by omega)⟩
        have h0 := hc0 0 (by omega)
        rw [hu] at h0
        simpa [Addr.add] using World.cell?_spot h0
      obtain ⟨b, off, spot⟩ := a
      have hs' : spot = none := hspot
      subst hs'
      refine ⟨(k, t, c, g), ⟨k0, k1, t0, t1⟩, b, off, rfl, ?_, ?_, ?_, ?_⟩
      · have := hc 0 (by omega); simpa [rlit] using this
      · have := hc 1 (by omega); simpa [rlit] using this
      · have := hc 2 (by omega); simpa [rlit] using this
      · have := hc 3 (by omega); simpa [rlit] using this
    obtain ⟨F, hF⟩ := Go.Deep.choose_lt each
    refine ⟨(List.range len).map F, some a, cap, by simp, fun i x hx' => ?_⟩
    rw [List.getElem?_map] at hx'
    by_cases hi : i < len
    · rw [List.getElem?_range hi] at hx'
      simp at hx'
      subst hx'
      obtain ⟨k0, g, o, rfl, hh⟩ := hF i hi
      exact ⟨k0, g, o, rfl, hh⟩
    · rw [List.getElem?_eq_none (by simp; omega)] at hx'
      simp at hx'
end
end Go.Proofs.Ytpkfmhggaiifgaa
