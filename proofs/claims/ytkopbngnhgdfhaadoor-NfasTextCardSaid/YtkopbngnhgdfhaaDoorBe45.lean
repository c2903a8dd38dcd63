/-
  Texts of this proof, one behind the other; each begins with its own remark.
-/
import Derived.Test.YtkopbngnhgdfhaaDoorCards
import Derived.Test.YtkopbngnhgdfhaaDoorTie
import Derived.ProofKit
import Derived.OpenShut
import Derived.ChangeSame
import Derived.Carry
import Derived.LaidLaws
import Derived.Deep.DeepHandedRow
import Derived.Lib.LaidTab
import Derived.Lib.SmallJoins
import Derived.SliceStrings
import Derived.Deep.Slices
import Derived.Deep.AppendSrc
import Derived.Maps.AppendAt
import Derived.Test.YtkopbngnhgdfhaaDoorBe26
import Derived.Test.YtkopbngnhgdfhaaDoorBe35
import Derived.Test.YtkopbngnhgdfhaaDoorBe7
/-
  What the rows' list of five variables gives: the sentinel of a fault of a number; a world for the witness.
-/
namespace Go.Proofs.YtkopbngnhgdfhaaDoor
open Go.ChangeShapes Go.WideShapes Go.ChangeAt Go.RowKit

theorem Tryd.laidOut : laidOutB Tryd.prog = true := by kernel_rfl
theorem Tryd.gSyn : Tryd.prog.globalNamed "strconv.ErrSyntax" = some 1 := by kernel_rfl
theorem Tryd.gSynType : (Tryd.prog.globals[1]?).map (·.type) = some 109 := by kernel_rfl
/-- WHAT THE ROWS' LIST GIVES. -/
theorem errW_of_laid {W : World} (h : laidMet Tryd.prog [("math/bits.deBruijn32tab", Rows.laid_math_bits_deBruijn32tab), ("math/bits.deBruijn64tab", Rows.laid_math_bits_deBruijn64tab), ("internal/strconv.uint64pow10", Rows.laid_internal_strconv_uint64pow10), ("strconv.ErrRange", Rows.laid_strconv_ErrRange), ("strconv.ErrSyntax", Rows.laid_strconv_ErrSyntax)] W) : ErrW W := by
  obtain ⟨ps, ⟨_, _, _, _, _, _, _, _, _, _, ⟨_, _, _, _, _, _, _, _, _, _, ⟨_, _, _, _, _, _, _, _, _, _, ⟨_, _, _, _, _, _, _, _, _, _, ⟨g5, t5, cs5, f5, p5, q5, hg5, ht5, hv5, hd5, _, _⟩, _⟩, _⟩, _⟩, _⟩, _⟩ := h
  obtain rfl := Option.some.inj (Tryd.gSyn.symm.trans hg5)
  obtain rfl := Option.some.inj (Tryd.gSynType.symm.trans ht5)
  obtain ⟨_, u, v, hcs, _⟩ := iface_of_trod Tryd.underlying109 hd5
  have h0 := World.var?_cell Tryd.gSyn hv5 0
  refine ⟨.iface u v, ?_, .inr ⟨u, v, rfl⟩⟩
  rw [h0, ← Array.getElem?_toList, hcs]
  rfl
/-- A WORLD FOR THE WITNESS: each of the five holds what its initialiser lays. -/
def refill (cs : Array Value) : Obj → Obj
  | .cells _ t frozen => .cells cs t frozen
  | o => o
def rowU8 (l : List Nat) : Array Value := (l.map fun (n : Nat) => Value.int .u8 (n : Int)).toArray
def rowU64 (l : List Nat) : Array Value := (l.map fun (n : Nat) => Value.int .u64 (n : Int)).toArray
def d32C : Array Value := rowU8 [0, 1, 28, 2, 29, 14, 24, 3, 30, 22, 20, 15, 25, 17, 4, 8, 31, 27, 13, 23, 21, 19, 16, 7, 26, 12, 18, 6, 11, 5, 10, 9]
def d64C : Array Value := rowU8 [0, 1, 56, 2, 57, 49, 28, 3, 61, 58, 42, 50, 38, 29, 17, 4, 62, 47, 59, 36, 45, 43, 51, 22, 53, 39, 33, 30, 24, 18, 12, 5, 63, 55, 48, 27, 60, 41, 37, 16, 46, 35, 44, 21, 52, 32, 23, 11, 54, 26, 40, 15, 34, 20, 31, 10, 25, 14, 19, 9, 13, 8, 7, 6]
def powC : Array Value := rowU64 [1, 10, 100, 1000, 10000, 100000, 1000000, 10000000, 100000000, 1000000000, 10000000000, 100000000000, 1000000000000, 10000000000000, 100000000000000, 1000000000000000, 10000000000000000, 100000000000000000, 1000000000000000000, 10000000000000000000]
noncomputable def low : Nat := (World.holding Tryd.prog default ⟨#[], #[], []⟩).heap.size
noncomputable def laidWorld (os : Os) : World :=
  let w0 := World.holding Tryd.prog os ⟨#[.cells #[.string ⟨#[118, 97, 108, 117, 101, 32, 111, 117, 116, 32, 111, 102, 32, 114, 97, 110, 103, 101]⟩] 170, .cells #[.string ⟨#[105, 110, 118, 97, 108, 105, 100, 32, 115, 121, 110, 116, 97, 120]⟩] 170], #[], []⟩
  { w0 with heap := ((((w0.heap.modify 3 (refill powC)).modify 4 (refill d32C)).modify 5 (refill d64C)).modify 2 (refill #[.iface 168 (.pointer (some ⟨low, 0, none⟩))])).modify 1 (refill #[.iface 168 (.pointer (some ⟨low + 1, 0, none⟩))]) }
theorem own : ownKnob Tryd.prog.godebug = none := by kernel_rfl
end Go.Proofs.YtkopbngnhgdfhaaDoor

/-
  What a law's input reads as that is a row of strings. No call is walked here.
-/
namespace Go.Proofs.YtkopbngnhgdfhaaDoor
open Go.ChangeShapes Go.WideShapes Go.ChangeAt Go.RowKit

theorem Tryd.cellsStr : Tryd.prog.cellsOf 9 = 1 := by kernel_rfl

section
variable {H : Type} {enc : TypeId × Value → H} {w : World} {base b0 : Nat} {spare : Nat → Bool} {held : Bool} {v : Value} {d : DataW H} {p : List MemPlace} {r : Reach}

set_option maxRecDepth 100000 in
theorem open_strsW (hv : Value.okWide Tryd.prog w r b0 34 v) (h : DataW.Trod enc Tryd.prog w base spare held 34 v d p) : ∃ xs, StrsW w v xs := by
  obtain ⟨a0, len, cap, rfl⟩ := okWide_slice Tryd.underlying34 hv
  obtain ⟨fuel, hf⟩ := h
  rcases open_strings Tryd.underlying34 Tryd.underlying9 Tryd.cellsStr hf with ⟨hcs, _⟩ | ⟨a, len', cap', ss, hcs, _, hl, hm, hz, _, hcell, _⟩
  · simp [Value.cells] at hcs
    obtain ⟨rfl, rfl, rfl⟩ := hcs
    exact ⟨[], StrsW.nil w⟩
  · simp [Value.cells] at hcs
    obtain ⟨rfl, rfl, rfl⟩ := hcs
    have hlen : len ≤ ss.length := by rw [hz]; split <;> omega
    have hl2 : (ss.take len).length = len := by rw [List.length_take]; omega
    refine ⟨ss.take len, some a, cap, by rw [hl2], by omega, fun i x hx => ?_⟩
    rw [List.getElem?_take] at hx
    split at hx
    · rename_i hi
      have hc := hcell i (by omega)
      obtain ⟨b, off, spot⟩ := a
      have h0 := hcell 0 (by omega)
      have hspot : spot = none := by simpa [Addr.add] using World.cell?_spot h0
      subst hspot
      refine ⟨b, off, rfl, ?_⟩
      rw [← Go.WideShapes.add_plain, hc, List.getD_eq_getElem?_getD, hx]
      rfl
    · cases hx
end
end Go.Proofs.YtkopbngnhgdfhaaDoor

/-
  What laws' inputs read as: a row of bytes; a row of numbers. No call is walked here.
-/
namespace Go.Proofs.YtkopbngnhgdfhaaDoor
open Go.ChangeShapes Go.WideShapes Go.ChangeAt Go.RowKit

theorem Tryd.cellsU8u : Tryd.prog.cellsOf 5 = 1 := by kernel_rfl
theorem Tryd.cellsIntu : Tryd.prog.cellsOf 3 = 1 := by kernel_rfl

/-- A row of bytes. -/
def U8sW (w : World) (v : Value) (l : List Int) : Prop :=
  ∃ ao cap, v = .slice ao l.length cap ∧ ∀ (i : Nat) x, l[i]? = some x → 0 ≤ x ∧ x ≤ 255 ∧ ∃ g o, ao = some ⟨g, o, none⟩ ∧ w.cell? ⟨g, o + i, none⟩ = some (.int .u8 x)
theorem U8sW.below {w w' : World} {v : Value} {l : List Int} (h : U8sW w v l) (hb : Below w.heap.size w w') : U8sW w' v l := by
  obtain ⟨ao, cap, hv, hc⟩ := h
  refine ⟨ao, cap, hv, fun i x hx => ?_⟩
  obtain ⟨h1, h2, g, o, ha, c0⟩ := hc i x hx
  exact ⟨h1, h2, g, o, ha, by rw [hb.cell (p := ⟨g, o + i, none⟩) (rlt c0)]; exact c0⟩

/-- A row of numbers. -/
def IntsO (w : World) (v : Value) (l : List Int) : Prop :=
  ∃ ao cap, v = .slice ao l.length cap ∧ l.length ≤ cap ∧ ∀ (i : Nat) x, l[i]? = some x → ∃ g o, ao = some ⟨g, o, none⟩ ∧ w.cell? ⟨g, o + i, none⟩ = some (.int .i64 x)
theorem IntsO.ints {w : World} {v : Value} {l : List Int} (h : IntsO w v l) (hl : l.length ≤ 1000000) : IntsW w v l := by
  obtain ⟨ao, cap, hv, hn, hc⟩ := h
  refine ⟨⟨ao, cap, hv, hn, fun i x hx => ?_⟩, hl⟩
  unfold numC at hx
  rw [List.getElem?_map] at hx
  obtain ⟨y, hy, rfl⟩ := Option.map_eq_some_iff.1 hx
  obtain ⟨g, o, ha, hg⟩ := hc i y hy
  exact ⟨g, o, ha, trivial, hg⟩
section
variable {H : Type} {enc : TypeId × Value → H} {w : World} {base b0 : Nat} {spare : Nat → Bool} {held : Bool} {v : Value} {d : DataW H} {p : List MemPlace} {r : Reach}

theorem u8_cell {cs : List Value} {fuel : Nat} {x : DataW H × List MemPlace} (h : DataW.trod enc Tryd.prog w base spare held fuel 5 cs = some x) : ∃ z : Int, cs = [.int .u8 z] ∧ 0 ≤ z ∧ z ≤ 255 := by
  obtain ⟨z, e, _, wz⟩ := DataW.trod_int Tryd.underlying5 h
  simp only [Lit.wf, Bool.and_eq_true, decide_eq_true_eq] at wz
  rw [show IntKind.u8.min = 0 by decide, show IntKind.u8.max = 255 by decide] at wz
  exact ⟨z, e, wz.1, wz.2⟩

set_option maxRecDepth 100000 in
theorem open_u8s (hv : Value.okWide Tryd.prog w r b0 57 v) (h : DataW.Trod enc Tryd.prog w base spare held 57 v d p) : ∃ l, U8sW w v l := by
  obtain ⟨a0, len, cap, rfl⟩ := okWide_slice Tryd.underlying57 hv
  obtain ⟨fuel, hf⟩ := h
  rcases Go.Deep.open_slice Tryd.underlying57 hf with ⟨hcs, _⟩ | ⟨a, len', cap', m, n, D, Pl, hcs, _, hl, hm, hz, _, hx⟩
  · simp [Value.cells] at hcs
    obtain ⟨rfl, rfl, rfl⟩ := hcs
    exact ⟨[], none, 0, rfl, fun i x h => by simp at h⟩
  · simp [Value.cells] at hcs
    obtain ⟨rfl, rfl, rfl⟩ := hcs
    have hlen : len ≤ m := by rw [hz]; split <;> omega
    have each : ∀ i, i < len → ∃ x : Int, 0 ≤ x ∧ x ≤ 255 ∧ ∃ g o, a = ⟨g, o, none⟩ ∧ w.cell? ⟨g, o + i, none⟩ = some (.int .u8 x) := by
      intro i hi
      obtain ⟨cs, hcs, ht⟩ := hx i (by omega)
      obtain ⟨cs0, hcs0, _⟩ := hx 0 (by omega)
      rw [Tryd.cellsU8u] at hcs hcs0
      obtain ⟨_, _, hc⟩ := World.cells?_some hcs
      obtain ⟨_, hl0, hc0⟩ := World.cells?_some hcs0
      obtain ⟨z, rfl, z0, z1⟩ := u8_cell ht
      have hspot : a.spot = none := by
        obtain ⟨u, hu⟩ : ∃ u, cs0[0]? = some u := ⟨_, List.getElem?_eq_getElem (by omega)⟩
        have h0 := hc0 0 (by omega)
        rw [hu] at h0
        simpa [Addr.add] using World.cell?_spot h0
      obtain ⟨b, off, spot⟩ := a
      have hs' : spot = none := hspot
      subst hs'
      refine ⟨z, z0, z1, b, off, rfl, ?_⟩
      have := hc 0 (by omega); simpa [rlit] using this
    obtain ⟨F, hF⟩ := Go.Deep.choose_lt each
    refine ⟨(List.range len).map F, some a, cap, by simp, fun i x hx' => ?_⟩
    rw [List.getElem?_map] at hx'
    by_cases hi : i < len
    · rw [List.getElem?_range hi] at hx'
      simp at hx'
      subst hx'
      obtain ⟨k0, k1, g, o, rfl, hh⟩ := hF i hi
      exact ⟨k0, k1, g, o, rfl, hh⟩
    · rw [List.getElem?_eq_none (by simp; omega)] at hx'
      simp at hx'

theorem int_cell {cs : List Value} {fuel : Nat} {x : DataW H × List MemPlace} (h : DataW.trod enc Tryd.prog w base spare held fuel 3 cs = some x) : ∃ z : Int, cs = [.int .i64 z] := by
  obtain ⟨z, e, _, _⟩ := DataW.trod_int Tryd.underlying3 h
  exact ⟨z, e⟩

set_option maxRecDepth 100000 in
theorem open_ints (hv : Value.okWide Tryd.prog w r b0 46 v) (h : DataW.Trod enc Tryd.prog w base spare held 46 v d p) : ∃ l, IntsO w v l := by
  obtain ⟨a0, len, cap, rfl⟩ := okWide_slice Tryd.underlying46 hv
  obtain ⟨fuel, hf⟩ := h
  rcases Go.Deep.open_slice Tryd.underlying46 hf with ⟨hcs, _⟩ | ⟨a, len', cap', m, n, D, Pl, hcs, _, hl, hm, hz, _, hx⟩
  · simp [Value.cells] at hcs
    obtain ⟨rfl, rfl, rfl⟩ := hcs
    exact ⟨[], none, 0, rfl, Nat.le_refl _, fun i x h => by simp at h⟩
  · simp [Value.cells] at hcs
    obtain ⟨rfl, rfl, rfl⟩ := hcs
    have hlen : len ≤ m := by rw [hz]; split <;> omega
    have each : ∀ i, i < len → ∃ x : Int, ∃ g o, a = ⟨g, o, none⟩ ∧ w.cell? ⟨g, o + i, none⟩ = some (.int .i64 x) := by
      intro i hi
      obtain ⟨cs, hcs, ht⟩ := hx i (by omega)
      obtain ⟨cs0, hcs0, _⟩ := hx 0 (by omega)
      rw [Tryd.cellsIntu] at hcs hcs0
      obtain ⟨_, _, hc⟩ := World.cells?_some hcs
      obtain ⟨_, hl0, hc0⟩ := World.cells?_some hcs0
      obtain ⟨z, rfl⟩ := int_cell ht
      have hspot : a.spot = none := by
        obtain ⟨u, hu⟩ : ∃ u, cs0[0]? = some u := ⟨_, List.getElem?_eq_getElem (by omega)⟩
        have h0 := hc0 0 (by omega)
        rw [hu] at h0
        simpa [Addr.add] using World.cell?_spot h0
      obtain ⟨b, off, spot⟩ := a
      have hs' : spot = none := hspot
      subst hs'
      refine ⟨z, b, off, rfl, ?_⟩
      have := hc 0 (by omega); simpa [rlit] using this
    obtain ⟨F, hF⟩ := Go.Deep.choose_lt each
    refine ⟨(List.range len).map F, some a, cap, by simp, by simp; omega, fun i x hx' => ?_⟩
    rw [List.getElem?_map] at hx'
    by_cases hi : i < len
    · rw [List.getElem?_range hi] at hx'
      simp at hx'
      subst hx'
      obtain ⟨g, o, rfl, hh⟩ := hF i hi
      exact ⟨g, o, rfl, hh⟩
    · rw [List.getElem?_eq_none (by simp; omega)] at hx'
      simp at hx'

end
end Go.Proofs.YtkopbngnhgdfhaaDoor

/-
  append onto a slice of strings that has no room, or is the call's own: what it makes. No call is walked here.
-/
namespace Go.Proofs.YtkopbngnhgdfhaaDoor
open Go.RowKit

theorem Tryd.infoStr : (Tryd.prog.info? 9).map (fun i => (i.zero, i.size, i.bytes)) = some (some (.string ⟨#[]⟩), 1, 16) := by kernel_rfl

def strL (xs : List ByteArray) : List Value := xs.map Value.string
theorem strL_len (xs : List ByteArray) : (strL xs).length = xs.length := by unfold strL; rw [List.length_map]
theorem strL_get (xs : List ByteArray) (i : Nat) (u : Value) (h : (strL xs)[i]? = some u) : ∃ x, xs[i]? = some x ∧ u = .string x := by
  unfold strL at h
  rw [List.getElem?_map] at h
  cases hx : xs[i]? with
  | none => rw [hx] at h; simp at h
  | some x => rw [hx] at h; simp at h; exact ⟨x, rfl, h.symm⟩
theorem strL_at (xs : List ByteArray) (i : Nat) (x : ByteArray) (h : xs[i]? = some x) : (strL xs)[i]? = some (.string x) := by
  unfold strL; rw [List.getElem?_map, h]; rfl

theorem own_strs {w : World} {B : Nat} {v : Value} {xs : List ByteArray} (h : w.ownsRow B 9 1 v xs.length (strL xs)) : StrsW w v xs := by
  rcases h.2 with ⟨rfl, h0⟩ | ⟨g, cap, cur, rfl, hB, hg, hn, _⟩
  · obtain rfl := List.eq_nil_of_length_eq_zero h0
    exact StrsW.nil w
  · refine ⟨_, cap, rfl, hn, fun i x hx => ⟨g, 0, rfl, ?_⟩⟩
    have := h.cells (g := g) rfl i _ (strL_at xs i x hx)
    rw [Nat.zero_add]
    rwa [show (⟨g, 0, none⟩ : Addr).add i = ⟨g, i, none⟩ by unfold Addr.add; split <;> simp_all] at this
theorem own_below {w w' : World} {B e size n : Nat} {v : Value} {xs : List Value} (h : w.ownsRow B e size v n xs) (hb : Below w.heap.size w w') : w'.ownsRow B e size v n xs := by
  refine ⟨h.1, ?_⟩
  rcases h.2 with h0 | ⟨g, cap, cur, hv, hg0, hg, rest⟩
  · exact .inl h0
  · exact .inr ⟨g, cap, cur, hv, hg0, (hb.block g (Array.getElem?_eq_some_iff.1 hg).1).trans hg, rest⟩

/-- A slice of strings that has no room, or is the call's own from block B on. -/
def FitW (ok : Nat → Prop) (B : Nat) (w : World) (v : Value) (xs : List ByteArray) : Prop :=
  StrsW w v xs ∧ ((∃ ao, v = .slice ao xs.length xs.length ∧ OkV ok v) ∨ w.ownsRow B 9 1 v xs.length (strL xs))
theorem FitW.below {ok : Nat → Prop} {B : Nat} {w w' : World} {v : Value} {xs : List ByteArray} (h : FitW ok B w v xs) (hb : Below w.heap.size w w') : FitW ok B w' v xs :=
  ⟨h.1.below hb, h.2.imp id fun k => own_below k hb⟩
theorem FitW.ok {ok : Nat → Prop} {B : Nat} {w : World} {v : Value} {xs : List ByteArray} (h : FitW ok B w v xs) (hok : ∀ k, B ≤ k → ok k) : OkV ok v := by
  rcases h.2 with ⟨_, _, ho⟩ | hown
  · exact ho
  · intro a n c e _
    exact hok _ (hown.lt a.block (by rw [e]; rfl)).1

theorem add_lit (g o k : Nat) : (⟨g, o, none⟩ : Addr).add k = ⟨g, o + k, none⟩ := by unfold Addr.add; split <;> simp_all

set_option maxHeartbeats 1000000 in
theorem run_app {ok : Nat → Prop} {B : Nat} {w : World} {v u : Value} {xs ys : List ByteArray} (ty : TypeId) (hf : FitW ok B w v xs) (hB : B ≤ w.heap.size) (hs : StrsW w u ys) (hle : xs.length + ys.length ≤ 1000000) :
    ∃ v' w', (Builtin.append_ #[34, 34] ty #[v, u]).run Tryd.prog w = .ok v' w' ∧ FitW ok B w' v' (xs ++ ys) ∧ Below B w w' := by
  obtain ⟨i0, hi, hz0, hz1, hz2⟩ := info_parts Tryd.infoStr
  have ht : Tryd.prog.underlying 34 = some (.slice 9) := Tryd.underlying34
  by_cases h0 : ys = []
  · subst h0
    refine ⟨v, w, ?_, by rw [List.append_nil]; exact hf, Below.refl _ _⟩
    obtain ⟨ao, cap, rfl, hcap, hcell⟩ := hf.1
    obtain ⟨ao2, c2, rfl, _, _⟩ := hs
    cases ao <;> cases ao2 <;> simp [Builtin.append_, run_underlying ht, sizeOf, typeInfo, hi, Builtin.lenOf, Builtin.firstCells, loadCells, loadCellsFrom, hcap, storeCells]
  · obtain ⟨ao2, c2, rfl, hc2, hcell2⟩ := hs
    obtain ⟨y, hy⟩ : ∃ y, ys[0]? = some y := by
      cases ys with
      | nil => exact absurd rfl h0
      | cons y r => exact ⟨y, rfl⟩
    obtain ⟨g2, o2, rfl, _⟩ := hcell2 0 y hy
    have hnews : ∀ j u, (strL ys)[j]? = some u → w.cell? ((⟨g2, o2, none⟩ : Addr).add j) = some u := by
      intro j u hu
      obtain ⟨x, hx, rfl⟩ := strL_get ys j u hu
      obtain ⟨g, o, he, hc⟩ := hcell2 j x hx
      cases he
      rw [add_lit]; exact hc
    have h1 : ∀ u ∈ strL ys, u.oneCell' = true := by
      intro u hu
      obtain ⟨x, _, rfl⟩ := List.mem_map.1 hu
      rfl
    have hl : (strL ys).length = ys.length * 1 := by rw [strL_len, Nat.mul_one]
    have happ : strL xs ++ strL ys = strL (xs ++ ys) := by unfold strL; rw [List.map_append]
    rcases hf.2 with ⟨ao, hv, _⟩ | hown
    · subst hv
      obtain ⟨ao', cap', he, hcap, hcell⟩ := hf.1
      cases he
      have hold : (Builtin.firstCells i0.size xs.length (.slice ao xs.length xs.length)).run Tryd.prog w.drew = .ok (strL xs).toArray w.drew := by
        cases ao with
        | none =>
          have hx : xs = [] := by
            cases xs with
            | nil => rfl
            | cons x r => obtain ⟨_, _, hh, _⟩ := hcell 0 x rfl; cases hh
          subst hx
          exact run_firstCells_none w.drew i0.size 0 0 0
        | some a =>
          refine run_firstCells_some w.drew i0.size xs.length a xs.length xs.length (strL xs) (by rw [strL_len, hz1, Nat.mul_one]) (fun j u hu => ?_)
          obtain ⟨x, hx, rfl⟩ := strL_get xs j u hu
          obtain ⟨g, o, he, hc⟩ := hcell j x hx
          cases he
          rw [add_lit]; exact hc
      have hy1 : 0 < ys.length := List.length_pos_iff.2 h0
      have hsrc : Src Tryd.prog i0.size 34 (.slice (some ⟨g2, o2, none⟩) ys.length c2) ys.length (strL ys) w := Src.ofSlice w ht _ _ _ _ (by rw [hl, hz1]) hnews h1
      have hr := run_append_grow_src w 34 34 ty 9 i0 _ ht hi hz0 ao xs.length xs.length (strL xs) hold _ ys.length (strL ys) hsrc (by omega) (by omega) (growslice_fits (by omega) (by rw [hz2]; omega))
      rw [happ] at hr
      have hge := grownCap_ge w (xs.length + ys.length) xs.length 9
      have hcm : grownCap w (xs.length + ys.length) xs.length 9 ≤ maxLen := grownCap_le_maxLen w _ _ _ (by unfold maxLen; omega)
      have hown' : (w.drew.alloc (.cells ((strL (xs ++ ys)).toArray ++ Builtin.zeroCells (Value.string ⟨#[]⟩).cells (grownCap w (xs.length + ys.length) xs.length 9 - (xs.length + ys.length))) 9)).ownsRow B 9 1 (.slice (some ⟨w.heap.size, 0, none⟩) (xs.length + ys.length) (grownCap w (xs.length + ys.length) xs.length 9)) (xs ++ ys).length (strL (xs ++ ys)) := by
        refine ⟨by rw [strL_len, Nat.mul_one], .inr ⟨w.heap.size, _, _, by rw [List.length_append], hB, heap_alloc_new w.drew _, by rw [List.length_append]; exact hge, hcm, ?_, ?_⟩⟩
        · rw [Array.size_append, size_zeroCells, List.size_toArray, strL_len, List.length_append]
          show _ + _ * 1 = _
          omega
        · rw [Array.toList_append, Nat.mul_one, ← strL_len (xs ++ ys)]
          exact List.take_left
      rw [← List.length_append] at hown' hr
      exact ⟨_, _, hr, ⟨own_strs hown', .inr hown'⟩, ((Below.refl B w).drew).alloc hB _⟩
    · obtain ⟨v', w', hr, hown', hgr, _⟩ := run_append_own (P := Tryd.prog) w B 34 ty 9 i0 _ 1 16 ht hi hz0 hz1 hz2 rfl (by decide) v xs.length (strL xs) hown ⟨g2, o2, none⟩ ys.length c2 (strL ys) hl hnews h1 (by unfold maxLen; omega) (by omega) hB
      rw [happ, ← List.length_append] at hown'
      exact ⟨v', w', hr, ⟨own_strs hown', .inr hown'⟩, (Below.refl B w).grown hgr hB fun k hk => (hown.lt k hk).1⟩

theorem wp_app {w w' : World} {v u v' : Value} {o : Oper} {a : Act} {K : Act → World → Prop} {Q : Exit → Act → World → Prop} (s x : Operand) (t : TypeId)
    (ho : o.op = .call { callee := .builtin .append, args := #[s, x], argTypes := #[t, t] })
    (hs : a.eval s = v) (hx : a.eval x = u) (hr : (Builtin.append_ #[t, t] o.type #[v, u]).run Tryd.prog w = .ok v' w') (h : K (a.put o.dst v') w') : o.wp Tryd.prog a w K Q := by
  unfold Oper.wp execOp
  simp only [ho, resolve, invoke, builtin, Sem.run_bind, Sem.run_pure, Result.andThen_ok, List.map_toArray, List.map_cons, List.map_nil, hs, hx, hr]
  exact h
theorem wpList_app {w w' : World} {v u v' : Value} {ops : Array Oper} {rest : List Oper} {o : Oper} {a : Act} {Q : Exit → Act → World → Prop} (hgd : o.guard = none) (s x : Operand) (t : TypeId)
    (ho : o.op = .call { callee := .builtin .append, args := #[s, x], argTypes := #[t, t] })
    (hs : a.eval s = v) (hx : a.eval x = u) (hr : (Builtin.append_ #[t, t] o.type #[v, u]).run Tryd.prog w = .ok v' w') (h : wpList Tryd.prog ops Q rest (a.put o.dst v') w') : wpList Tryd.prog ops Q (o :: rest) a w :=
  wpList_plain hgd fun _ hK => wp_app s x t ho hs hx hr (hK _ _ h)

/-- The same at a step of a region that draws its order. -/
theorem step_app {ok : Nat → Prop} {w : World} {B : Nat} {v u : Value} {xs ys : List ByteArray} {ops : Array Oper} {o : Oper} {a : Act} {K : Act → World → Prop} {Q : Exit → Act → World → Prop} {E : Prop} (hgd : o.guard = none) (s x : Operand)
    (ho : o.op = .call { callee := .builtin .append, args := #[s, x], argTypes := #[34, 34] })
    (hs : a.eval s = v) (hx : a.eval x = u) (hf : FitW ok B w v xs) (hB : B ≤ w.heap.size) (hsrc : StrsW w u ys) (hle : xs.length + ys.length ≤ 1000000)
    (h : ∀ v' w', FitW ok B w' v' (xs ++ ys) → Below B w w' → K (a.put o.dst v') w') :
    if Region.wanted o (yielded ops a.tmps) = true then Oper.wp Tryd.prog o a w K Q else E := by
  have hw : Region.wanted o (yielded ops a.tmps) = true := by simp [Region.wanted, hgd]
  rw [if_pos hw]
  obtain ⟨v', w', hr, h1, h2⟩ := run_app o.type hf hB hsrc hle
  exact wp_app s x _ ho hs hx hr (h v' w' h1 h2)

theorem strs_drop {w : World} {ao : Option Addr} {cap i n : Nat} {A : Option Addr} {xs : List ByteArray} (h : StrsW w (.slice ao xs.length cap) xs) (hi : i ≤ xs.length) (hn : xs.length - i ≤ n)
    (hA : ∀ g o, ao = some ⟨g, o, none⟩ → i < xs.length → A = some ⟨g, o + i, none⟩) : StrsW w (.slice A (xs.length - i) n) (xs.drop i) := by
  obtain ⟨ao', cap', he, hc, hs⟩ := h
  cases he
  refine ⟨A, n, by rw [List.length_drop], by rw [List.length_drop]; exact hn, fun j x hx => ?_⟩
  rw [List.getElem?_drop] at hx
  obtain ⟨g, o, ha, hg⟩ := hs (i + j) x hx
  exact ⟨g, o + i, hA g o ha (by have := (List.getElem?_eq_some_iff.1 hx).1; omega), by rw [Nat.add_assoc]; exact hg⟩

theorem fit_take {ok : Nat → Prop} {B : Nat} {w : World} {ao : Option Addr} {cap i : Nat} {xs : List ByteArray} (h : StrsW w (.slice ao xs.length cap) xs) (ho : OkV ok (.slice ao xs.length cap)) (hi : i ≤ xs.length) : FitW ok B w (.slice ao i i) (xs.take i) := by
  obtain ⟨ao', cap', he, hc, hs⟩ := h
  cases he
  have hl : (xs.take i).length = i := by rw [List.length_take]; omega
  refine ⟨⟨ao, i, by rw [hl], by omega, fun j x hx => ?_⟩, .inl ⟨ao, by rw [hl], fun a n c e hn => by cases e; exact ho _ _ _ rfl (by omega)⟩⟩
  rw [List.getElem?_take] at hx
  split at hx
  · exact hs j x hx
  · cases hx
/-- The one string that a literal of one has laid. -/
theorem strs_one (w : World) (x : ByteArray) : StrsW (w.alloc (.cells #[.string x] 9)) (.slice (some ⟨w.heap.size, 0, none⟩) 1 1) [x] := by
  refine ⟨_, 1, rfl, Nat.le_refl _, fun i y hy => ⟨w.heap.size, 0, rfl, ?_⟩⟩
  have := cell_one_new w (.string x) 9 i (.string y) (by
    cases i with
    | zero => simp at hy; subst hy; rfl
    | succ i => simp at hy)
  rwa [add_lit] at this
theorem fit_one {ok : Nat → Prop} {B : Nat} {w : World} (x : ByteArray) (ho : ok w.heap.size) : FitW ok B (w.alloc (.cells #[.string x] 9)) (.slice (some ⟨w.heap.size, 0, none⟩) 1 1) [x] :=
  ⟨strs_one w x, .inl ⟨_, rfl, fun a n c e _ => by cases e; exact ho⟩⟩
end Go.Proofs.YtkopbngnhgdfhaaDoor
