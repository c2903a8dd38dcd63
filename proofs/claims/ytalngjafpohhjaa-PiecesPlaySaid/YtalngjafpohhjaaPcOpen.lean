/-
  What the laws' inputs read as: an act, a row of acts, a row of strings, an array of two or three numbers of 16 bits. No call is walked here.
-/
import Derived.Test.YtalngjafpohhjaaPcsW
import Derived.ProofKit
import Derived.Lib.SmallJoins
import Derived.SliceStrings
import Derived.Deep.Slices
import Derived.OpenShut
import Derived.Carry
namespace Go.Proofs.Ytalngjafpohhjaa
open Go.ChangeShapes Go.WideShapes Go.ChangeAt Go.RowKit

theorem Try.laidOut : laidOutB Try.prog = true := by kernel_rfl
theorem Try.cellsStr : Try.prog.cellsOf 9 = 1 := by kernel_rfl
theorem Try.cellsU16 : Try.prog.cellsOf 47 = 1 := by kernel_rfl

section
variable {H : Type} {enc : TypeId × Value → H} {w : World} {base b0 : Nat} {spare : Nat → Bool} {held : Bool} {v : Value} {d : DataW H} {p : List MemPlace} {r : Reach}

theorem open_strsW (hv : Value.okWide Try.prog w r b0 31 v) (h : DataW.Trod enc Try.prog w base spare held 31 v d p) : ∃ xs, StrsW w v xs := by
  obtain ⟨a0, len, cap, rfl⟩ := okWide_slice Try.underlying31 hv
  obtain ⟨fuel, hf⟩ := h
  rcases open_strings Try.underlying31 Try.underlying9 Try.cellsStr hf with ⟨hcs, _⟩ | ⟨a, len', cap', ss, hcs, _, hl, hm, hz, _, hcell, _⟩
  · simp [Value.cells] at hcs
    obtain ⟨rfl, rfl, rfl⟩ := hcs
    exact ⟨[], StrsW.nil w⟩
  · simp [Value.cells] at hcs
    obtain ⟨rfl, rfl, rfl⟩ := hcs
    have hlen : len ≤ ss.length := by rw [hz]; split <;> omega
    have hl2 : (ss.take len).length = len := by rw [List.length_take]; omega
    refine ⟨ss.take len, some a, cap, by rw [hl2], by omega, fun i x hx => ?_⟩
    rw [List.getElem?_take] at hx
    split at hx
    · rename_i hi
      have hc := hcell i (by omega)
      obtain ⟨b, off, spot⟩ := a
      have h0 := hcell 0 (by omega)
      have hspot : spot = none := by simpa [Addr.add] using World.cell?_spot h0
      subst hspot
      refine ⟨b, off, rfl, ?_⟩
      rw [← Go.WideShapes.add_plain, hc, List.getD_eq_getElem?_getD, hx]
      rfl
    · cases hx

theorem open_arrU16 {T : TypeId} {n : Nat} (hT : Try.prog.underlying T = some (.array n 47)) (hC : Try.prog.cellsOf T = n) (hv : Value.okWide Try.prog w r b0 T v) (h : DataW.Trod enc Try.prog w base spare held T v d p) :
    ∃ cs : Array Value, v = .agg cs ∧ cs.size = n ∧ ∀ i, i < n → ∃ z : Int, cs[i]? = some (.int .u16 z) ∧ 0 ≤ z ∧ z ≤ 65535 := by
  simp only [Value.okWide, hT] at hv
  obtain ⟨cs, rfl, hsz, _⟩ := hv
  rw [hC] at hsz
  obtain ⟨fuel, hf⟩ := h
  obtain ⟨xs, m, _, _, _, hlen, hx⟩ := DataW.trod_array hT hf
  refine ⟨cs, rfl, hsz, fun i hi => ?_⟩
  have h1 := hx i hi
  rw [List.getElem?_eq_getElem (by omega), Try.cellsU16, Nat.mul_one] at h1
  obtain ⟨z, hz, _, wz⟩ := DataW.trod_int Try.underlying47 h1
  have hci : i < cs.size := by omega
  have e : cs[i]? = some (.int .u16 z) := by
    have h2 := congrArg (fun l : List Value => l[0]?) hz
    simp only [List.getElem?_take, List.getElem?_drop, Nat.add_zero] at h2
    simpa [Value.cells, hci] using h2
  refine ⟨z, e, ?_⟩
  simp only [Lit.wf, Bool.and_eq_true, decide_eq_true_eq] at wz
  rwa [show IntKind.u16.min = 0 by decide, show IntKind.u16.max = 65535 by decide] at wz

theorem Try.cellsInt' : Try.prog.cellsOf 3 = 1 := by kernel_rfl
theorem Try.cellsU8' : Try.prog.cellsOf 5 = 1 := by kernel_rfl
theorem Try.cellsAct : Try.prog.cellsOf 33 = 4 := by kernel_rfl

/-- The four cells of an act. -/
theorem act_cells {cs : List Value} {fuel : Nat} {x : DataW H × List MemPlace} (h : DataW.trod enc Try.prog w base spare held fuel 33 cs = some x) :
    ∃ (k f t : Int) (s : ByteArray), cs = [.int .u8 k, .int .i64 f, .int .i64 t, .string s] ∧ 0 ≤ k ∧ k ≤ 255 := by
  obtain ⟨y0, y1, y2, y3, n, _, hl, h0, h1, h2, h3⟩ := Go.Joins.trod_struct4 Try.underlying33 h
  rw [Try.cellsAct] at hl
  match cs, hl with
  | [c0, c1, c2, c3], _ =>
    simp only [Try.cellsInt', Try.cellsU8', Try.cellsStr] at h0 h1 h2 h3
    obtain ⟨k, e0, _, wk⟩ := DataW.trod_int Try.underlying5 h0
    obtain ⟨f, e1, _, _⟩ := DataW.trod_int Try.underlying3 h1
    obtain ⟨t, e2, _, _⟩ := DataW.trod_int Try.underlying3 h2
    obtain ⟨s, e3, _, _⟩ := DataW.trod_string Try.underlying9 h3
    simp at e0 e1 e2 e3
    subst e0 e1 e2 e3
    simp only [Lit.wf, Bool.and_eq_true, decide_eq_true_eq] at wk
    rw [show IntKind.u8.min = 0 by decide, show IntKind.u8.max = 255 by decide] at wk
    exact ⟨k, f, t, s, rfl, wk.1, wk.2⟩

theorem open_act (hv : Value.okWide Try.prog w r b0 33 v) (h : DataW.Trod enc Try.prog w base spare held 33 v d p) :
    ∃ (k f t : Int) (s : ByteArray), v = .agg #[.int .u8 k, .int .i64 f, .int .i64 t, .string s] := by
  obtain ⟨cs, rfl, _⟩ := okWide_struct Try.underlying33 hv
  obtain ⟨fuel, hf⟩ := h
  obtain ⟨k, f, t, s, hcs, _⟩ := act_cells hf
  refine ⟨k, f, t, s, ?_⟩
  simp [Value.cells] at hcs
  rw [show cs = #[.int .u8 k, .int .i64 f, .int .i64 t, .string s] from Array.toList_inj.1 hcs]

/-- A row of acts: kind, from, to, text. -/
def ActsW (w : World) (v : Value) (l : List (Int × Int × Int × ByteArray)) : Prop :=
  ∃ ao cap, v = .slice ao l.length cap ∧ ∀ (i : Nat) x, l[i]? = some x → 0 ≤ x.1 ∧ x.1 ≤ 255 ∧ ∃ g o, ao = some ⟨g, o, none⟩ ∧ w.cell? ⟨g, o + i * 4, none⟩ = some (.int .u8 x.1) ∧
    w.cell? ⟨g, o + i * 4 + 1, none⟩ = some (.int .i64 x.2.1) ∧ w.cell? ⟨g, o + i * 4 + 2, none⟩ = some (.int .i64 x.2.2.1) ∧ w.cell? ⟨g, o + i * 4 + 3, none⟩ = some (.string x.2.2.2)
theorem ActsW.below {w w' : World} {v : Value} {l : List (Int × Int × Int × ByteArray)} (h : ActsW w v l) (hb : Below w.heap.size w w') : ActsW w' v l := by
  obtain ⟨ao, cap, hv, hc⟩ := h
  refine ⟨ao, cap, hv, fun i x hx => ?_⟩
  obtain ⟨h1, h2, g, o, ha, c0, c1, c2, c3⟩ := hc i x hx
  have hlt : g < w.heap.size := cell_lt (p := ⟨g, o + i * 4, none⟩) c0
  exact ⟨h1, h2, g, o, ha, by rw [hb.cell (p := ⟨g, o + i * 4, none⟩) hlt]; exact c0, by rw [hb.cell (p := ⟨g, o + i * 4 + 1, none⟩) hlt]; exact c1,
    by rw [hb.cell (p := ⟨g, o + i * 4 + 2, none⟩) hlt]; exact c2, by rw [hb.cell (p := ⟨g, o + i * 4 + 3, none⟩) hlt]; exact c3⟩

theorem open_acts (hv : Value.okWide Try.prog w r b0 22 v) (h : DataW.Trod enc Try.prog w base spare held 22 v d p) : ∃ l, ActsW w v l := by
  obtain ⟨a0, len, cap, rfl⟩ := okWide_slice Try.underlying22 hv
  obtain ⟨fuel, hf⟩ := h
  rcases Go.Deep.open_slice Try.underlying22 hf with ⟨hcs, _⟩ | ⟨a, len', cap', m, n, D, Pl, hcs, _, hl, hm, hz, _, hx⟩
  · simp [Value.cells] at hcs
    obtain ⟨rfl, rfl, rfl⟩ := hcs
    exact ⟨[], none, 0, rfl, fun i x h => by simp at h⟩
  · simp [Value.cells] at hcs
    obtain ⟨rfl, rfl, rfl⟩ := hcs
    have hlen : len ≤ m := by rw [hz]; split <;> omega
    have each : ∀ i, i < len → ∃ x : Int × Int × Int × ByteArray, 0 ≤ x.1 ∧ x.1 ≤ 255 ∧ ∃ g o, a = ⟨g, o, none⟩ ∧ w.cell? ⟨g, o + i * 4, none⟩ = some (.int .u8 x.1) ∧
        w.cell? ⟨g, o + i * 4 + 1, none⟩ = some (.int .i64 x.2.1) ∧ w.cell? ⟨g, o + i * 4 + 2, none⟩ = some (.int .i64 x.2.2.1) ∧ w.cell? ⟨g, o + i * 4 + 3, none⟩ = some (.string x.2.2.2) := by
      intro i hi
      obtain ⟨cs, hcs, ht⟩ := hx i (by omega)
      obtain ⟨k, f, t, s, rfl, k0, k1⟩ := act_cells ht
      obtain ⟨cs0, hcs0, _⟩ := hx 0 (by omega)
      rw [Try.cellsAct] at hcs hcs0
      obtain ⟨_, _, hc⟩ := World.cells?_some hcs
      obtain ⟨_, hl0, hc0⟩ := World.cells?_some hcs0
      have hspot : a.spot = none := by
        obtain ⟨u, hu⟩ : ∃ u, cs0[0]? = some u := ⟨_, List.getElem?_eq_getElem (by omega)⟩
        have h0 := hc0 0 (by omega)
        rw [hu] at h0
        simpa [Addr.add] using World.cell?_spot h0
      obtain ⟨b, off, spot⟩ := a
      have hs' : spot = none := hspot
      subst hs'
      refine ⟨(k, f, t, s), k0, k1, b, off, rfl, ?_, ?_, ?_, ?_⟩
      · have := hc 0 (by omega); simpa [add_plain] using this
      · have := hc 1 (by omega); simpa [add_plain] using this
      · have := hc 2 (by omega); simpa [add_plain] using this
      · have := hc 3 (by omega); simpa [add_plain] using this
    obtain ⟨F, hF⟩ := Go.Deep.choose_lt each
    refine ⟨(List.range len).map F, some a, cap, by simp, fun i x hx' => ?_⟩
    rw [List.getElem?_map] at hx'
    by_cases hi : i < len
    · rw [List.getElem?_range hi] at hx'
      simp at hx'
      subst hx'
      obtain ⟨k0, k1, g, o, rfl, hh⟩ := hF i hi
      exact ⟨k0, k1, g, o, rfl, hh⟩
    · rw [List.getElem?_eq_none (by simp; omega)] at hx'
      simp at hx'
end
end Go.Proofs.Ytalngjafpohhjaa
