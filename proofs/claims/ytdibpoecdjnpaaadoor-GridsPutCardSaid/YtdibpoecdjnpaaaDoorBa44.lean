/-
  Texts of this proof, one behind the other; each begins with its own remark.
-/
import Derived.ProofKit
import Derived.Lib.SmallJoins
import Derived.Deep.Slices
import Derived.OpenShut
import Derived.Carry
import Derived.Test.YtdibpoecdjnpaaaDoorBa40
import Derived.Test.YtdibpoecdjnpaaaDoorBa43
/-
  What the laws' inputs read as: a frame, a rune that is put in, all of them with a size, an array of two bytes. No call is walked here.
-/
namespace Go.Proofs.YtdibpoecdjnpaaaDoor
open Go.ChangeShapes Go.WideShapes Go.ChangeAt Go.RowKit

theorem Tryd.laidOut : laidOutB Tryd.prog = true := by kernel_rfl
theorem Tryd.cellsInt6 : Tryd.prog.cellsOf 3 = 1 := by kernel_rfl
theorem Tryd.cellsBool6 : Tryd.prog.cellsOf 4 = 1 := by kernel_rfl
theorem Tryd.cellsRune6 : Tryd.prog.cellsOf 21 = 1 := by kernel_rfl
theorem Tryd.cellsByte6 : Tryd.prog.cellsOf 5 = 1 := by kernel_rfl
theorem Tryd.cellsSty6 : Tryd.prog.cellsOf 35 = 4 := by kernel_rfl
theorem Tryd.cellsCel6 : Tryd.prog.cellsOf 52 = 6 := by kernel_rfl
theorem Tryd.cellsInk6 : Tryd.prog.cellsOf 37 = 7 := by kernel_rfl
theorem Tryd.cellsFrm6 : Tryd.prog.cellsOf 28 = 5 := by kernel_rfl
theorem Tryd.cellsPnt6 : Tryd.prog.cellsOf 24 = 5 := by kernel_rfl
theorem Tryd.cellsCels6 : Tryd.prog.cellsOf 26 = 1 := by kernel_rfl
theorem Tryd.cellsInks6 : Tryd.prog.cellsOf 22 = 1 := by kernel_rfl

theorem flat_get {α : Type} {K : Nat} (elV : α → List Value) (hK : ∀ x, (elV x).length = K) (h0 : 0 < K) : ∀ (l : List α) (j : Nat), (l.flatMap elV)[j]? = (l[j / K]?).bind fun x => (elV x)[j % K]?
  | [], j => by simp
  | x :: l, j => by
    rw [List.flatMap_cons]
    by_cases h : j < K
    · rw [List.getElem?_append_left (by rw [hK]; exact h), Nat.div_eq_of_lt h, Nat.mod_eq_of_lt h]; rfl
    · rw [List.getElem?_append_right (by rw [hK]; omega), hK, flat_get elV hK h0 l (j - K)]
      obtain ⟨k, rfl⟩ : ∃ k, j = k + K := ⟨j - K, by omega⟩
      rw [Nat.add_sub_cancel, Nat.add_div_right _ h0, Nat.add_mod_right]; rfl

section
variable {H : Type} {enc : TypeId × Value → H} {w : World} {base b0 : Nat} {spare : Nat → Bool} {held : Bool} {v : Value} {d : DataW H} {p : List MemPlace} {r : Reach}

theorem trod_struct5 {P : Program} {t : TypeId} {f0 f1 f2 f3 f4 : Field} {fuel : Nat} {cs : List Value} {x : DataW H × List MemPlace} (ht : P.underlying t = some (.struct #[f0, f1, f2, f3, f4])) (h : DataW.trod enc P w base spare held fuel t cs = some x) :
    ∃ y0 y1 y2 y3 y4 n, cs.length = P.cellsOf t ∧ DataW.trod enc P w base spare held n f0.type ((cs.drop f0.offset).take (P.cellsOf f0.type)) = some y0 ∧ DataW.trod enc P w base spare held n f1.type ((cs.drop f1.offset).take (P.cellsOf f1.type)) = some y1 ∧
      DataW.trod enc P w base spare held n f2.type ((cs.drop f2.offset).take (P.cellsOf f2.type)) = some y2 ∧ DataW.trod enc P w base spare held n f3.type ((cs.drop f3.offset).take (P.cellsOf f3.type)) = some y3 ∧ DataW.trod enc P w base spare held n f4.type ((cs.drop f4.offset).take (P.cellsOf f4.type)) = some y4 := by
  obtain ⟨xs, n, _, rfl, hl, hlen, hf⟩ := DataW.trod_struct ht h
  match xs, hlen with
  | [y0, y1, y2, y3, y4], _ => exact ⟨y0, y1, y2, y3, y4, n, hl, by simpa using hf 0 f0 rfl, by simpa using hf 1 f1 rfl, by simpa using hf 2 f2 rfl, by simpa using hf 3 f3 rfl, by simpa using hf 4 f4 rfl⟩

theorem sty_cells {cs : List Value} {fuel : Nat} {x : DataW H × List MemPlace} (h : DataW.trod enc Tryd.prog w base spare held fuel 35 cs = some x) : ∃ s : Sty, cs = [.int .i64 s.1, .bool s.2.1, .bool s.2.2.1, .bool s.2.2.2] := by
  obtain ⟨y0, y1, y2, y3, n, _, hl, h0, h1, h2, h3⟩ := Go.Joins.trod_struct4 Tryd.underlying35 h
  rw [Tryd.cellsSty6] at hl
  match cs, hl with
  | [c0, c1, c2, c3], _ =>
    simp only [Tryd.cellsInt6, Tryd.cellsBool6] at h0 h1 h2 h3
    obtain ⟨a, e0, _, _⟩ := DataW.trod_int Tryd.underlying3 h0
    obtain ⟨b, e1, _⟩ := DataW.trod_bool Tryd.underlying4 h1
    obtain ⟨c, e2, _⟩ := DataW.trod_bool Tryd.underlying4 h2
    obtain ⟨d, e3, _⟩ := DataW.trod_bool Tryd.underlying4 h3
    simp at e0 e1 e2 e3
    subst e0 e1 e2 e3
    exact ⟨(a, b, c, d), rfl⟩
theorem cel_cells {cs : List Value} {fuel : Nat} {x : DataW H × List MemPlace} (h : DataW.trod enc Tryd.prog w base spare held fuel 52 cs = some x) : ∃ c : Cel, cs = celV c := by
  obtain ⟨y0, y1, y2, n, _, hl, h0, h1, h2⟩ := Go.Deep.trod_struct3 Tryd.underlying52 h
  rw [Tryd.cellsCel6] at hl
  match cs, hl with
  | [c0, c1, c2, c3, c4, c5], _ =>
    simp only [Tryd.cellsInt6, Tryd.cellsRune6, Tryd.cellsSty6] at h0 h1 h2
    obtain ⟨a, e0, _, _⟩ := DataW.trod_int Tryd.underlying21 h0
    obtain ⟨b, e1, _, _⟩ := DataW.trod_int Tryd.underlying3 h1
    obtain ⟨s, e2⟩ := sty_cells h2
    simp at e0 e1 e2
    obtain ⟨e3, e4, e5, e6⟩ := e2
    subst e0 e1 e3 e4 e5 e6
    exact ⟨(a, b, s), rfl⟩
theorem ink_cells {cs : List Value} {fuel : Nat} {x : DataW H × List MemPlace} (h : DataW.trod enc Tryd.prog w base spare held fuel 37 cs = some x) : ∃ x : Inkd, cs = inkV x := by
  obtain ⟨y0, y1, y2, y3, n, _, hl, h0, h1, h2, h3⟩ := Go.Joins.trod_struct4 Tryd.underlying37 h
  rw [Tryd.cellsInk6] at hl
  match cs, hl with
  | [c0, c1, c2, c3, c4, c5, c6], _ =>
    simp only [Tryd.cellsInt6, Tryd.cellsRune6, Tryd.cellsSty6] at h0 h1 h2 h3
    obtain ⟨a, e0, _, _⟩ := DataW.trod_int Tryd.underlying3 h0
    obtain ⟨b, e1, _, _⟩ := DataW.trod_int Tryd.underlying3 h1
    obtain ⟨c, e2, _, _⟩ := DataW.trod_int Tryd.underlying21 h2
    obtain ⟨s, e3⟩ := sty_cells h3
    simp at e0 e1 e2 e3
    obtain ⟨e4, e5, e6, e7⟩ := e3
    subst e0 e1 e2 e4 e5 e6 e7
    exact ⟨⟨a, b, c, s⟩, rfl⟩

/-- A row of elements of K cells each. -/
theorem open_row {α : Type} [Inhabited α] {T e : TypeId} {K : Nat} (elV : α → List Value) (hK : ∀ x, (elV x).length = K) (h0 : 0 < K) (hT : Tryd.prog.underlying T = some (.slice e)) (hC : Tryd.prog.cellsOf e = K)
    (hcell : ∀ (fuel : Nat) cs y, DataW.trod enc Tryd.prog w base spare held fuel e cs = some y → ∃ x, cs = elV x) {cs : List Value} {fuel : Nat} {y : DataW H × List MemPlace} (h : DataW.trod enc Tryd.prog w base spare held fuel T cs = some y) :
    ∃ (l : List α) (ao : Option Addr) (n cap : Nat), cs = [.slice ao n cap] ∧ n = l.length ∧ n ≤ cap ∧ RowV AnyB w (.slice ao n cap) n (l.flatMap elV) := by
  rcases Go.Deep.open_slice hT h with ⟨hcs, _⟩ | ⟨a, len, cap, m, n, D, Pl, hcs, _, hl, hm, hz, _, hx⟩
  · exact ⟨[], none, 0, 0, hcs, rfl, Nat.le_refl _, RowV.nil _ _⟩
  · have hlen : len ≤ m := by rw [hz]; split <;> omega
    have each : ∀ i, i < len → ∃ x : α, ∃ g o, a = ⟨g, o, none⟩ ∧ ∀ k, k < K → w.cell? ⟨g, o + i * K + k, none⟩ = (elV x)[k]? := by
      intro i hi
      obtain ⟨cs1, hcs1, ht⟩ := hx i (by omega)
      obtain ⟨x, rfl⟩ := hcell _ _ _ ht
      obtain ⟨cs0, hcs0, _⟩ := hx 0 (by omega)
      rw [hC] at hcs1 hcs0
      obtain ⟨_, _, hc⟩ := World.cells?_some hcs1
      obtain ⟨_, hl0, hc0⟩ := World.cells?_some hcs0
      have hspot : a.spot = none := by
        obtain ⟨u, hu⟩ : ∃ u, cs0[0]? = some u := ⟨_, List.getElem?_eq_getElem (by omega)⟩
        have h0 := hc0 0 (by omega)
        rw [hu] at h0
        simpa [Addr.add] using World.cell?_spot h0
      obtain ⟨b, off, spot⟩ := a
      have hs' : spot = none := hspot
      subst hs'
      refine ⟨x, b, off, rfl, fun k hk => ?_⟩
      have := hc k (by omega)
      simpa [add_plain] using this
    obtain ⟨F, hF⟩ := Go.Deep.choose_lt each
    have hlf : ((List.range len).map F).length = len := by simp
    refine ⟨(List.range len).map F, some a, len, cap, hcs, hlf.symm, by omega, some a, cap, rfl, by omega, fun _ _ => trivial, fun j u hu => ?_⟩
    rw [flat_get elV hK h0] at hu
    by_cases hj : j / K < len
    · rw [List.getElem?_map, List.getElem?_range hj] at hu
      simp only [Option.map_some, Option.bind_some] at hu
      obtain ⟨g, o, rfl, hh⟩ := hF _ hj
      refine ⟨g, o, rfl, ?_⟩
      have := hh (j % K) (Nat.mod_lt _ h0)
      rw [hu, Nat.add_assoc, Nat.div_add_mod' j K] at this
      exact this
    · rw [List.getElem?_eq_none (by rw [hlf]; omega)] at hu
      simp at hu

theorem open_ink (hv : Value.okWide Tryd.prog w r b0 37 v) (h : DataW.Trod enc Tryd.prog w base spare held 37 v d p) :
    ∃ x : Inkd, v = .agg #[.int .i64 x.row, .int .i64 x.col, .int .i32 x.r, .int .i64 x.s.1, .bool x.s.2.1, .bool x.s.2.2.1, .bool x.s.2.2.2] := by
  obtain ⟨cs, rfl, _⟩ := okWide_struct Tryd.underlying37 hv
  obtain ⟨fuel, hf⟩ := h
  obtain ⟨x, hcs⟩ := ink_cells hf
  refine ⟨x, ?_⟩
  simp [Value.cells, inkV] at hcs
  rw [show cs = #[.int .i64 x.row, .int .i64 x.col, .int .i32 x.r, .int .i64 x.s.1, .bool x.s.2.1, .bool x.s.2.2.1, .bool x.s.2.2.2] from Array.toList_inj.1 hcs]
theorem open_paint (hv : Value.okWide Tryd.prog w r b0 24 v) (h : DataW.Trod enc Tryd.prog w base spare held 24 v d p) :
    ∃ (q : Pnt) (ao : Option Addr) (n cap : Nat), v = .agg #[.int .i64 q.rows, .int .i64 q.cols, .slice ao n cap, .int .i64 q.row, .int .i64 q.col] ∧ InkW w ao n cap q.ink := by
  obtain ⟨cs, rfl, _⟩ := okWide_struct Tryd.underlying24 hv
  obtain ⟨fuel, hf⟩ := h
  obtain ⟨y0, y1, y2, y3, y4, n, hl, h0, h1, h2, h3, h4⟩ := trod_struct5 Tryd.underlying24 hf
  rw [Tryd.cellsPnt6] at hl
  obtain ⟨l, hcl⟩ : ∃ l, cs.toList = l := ⟨_, rfl⟩
  rw [show (Value.agg cs).cells.toList = l from hcl] at hl h0 h1 h2 h3 h4
  match l, hl, hcl with
  | [c0, c1, c2, c3, c4], _, hcl =>
    simp only [Tryd.cellsInt6, Tryd.cellsInks6] at h0 h1 h2 h3 h4
    obtain ⟨a, e0, _, _⟩ := DataW.trod_int Tryd.underlying3 h0
    obtain ⟨b, e1, _, _⟩ := DataW.trod_int Tryd.underlying3 h1
    haveI : Inhabited Inkd := ⟨⟨0, 0, 0, (0, false, false, false)⟩⟩
    obtain ⟨ls, ao, k, cap, e2, k1, k2, k3⟩ := open_row inkV (fun _ => rfl) (by decide) Tryd.underlying22 Tryd.cellsInk6 (fun _ _ _ h => ink_cells h) h2
    obtain ⟨c, e3, _, _⟩ := DataW.trod_int Tryd.underlying3 h3
    obtain ⟨e, e4, _, _⟩ := DataW.trod_int Tryd.underlying3 h4
    simp at e0 e1 e2 e3 e4
    subst e0 e1 e2 e3 e4
    exact ⟨⟨a, b, ls, c, e⟩, ao, k, cap, by rw [show cs = #[.int .i64 a, .int .i64 b, .slice ao k cap, .int .i64 c, .int .i64 e] from Array.toList_inj.1 hcl], k1, k2, k3⟩
theorem open_frame (hv : Value.okWide Tryd.prog w r b0 28 v) (h : DataW.Trod enc Tryd.prog w base spare held 28 v d p) : ∃ f : Frm, FrameW AnyB w v f := by
  obtain ⟨cs, rfl, _⟩ := okWide_struct Tryd.underlying28 hv
  obtain ⟨fuel, hf⟩ := h
  obtain ⟨y0, y1, y2, y3, y4, n, hl, h0, h1, h2, h3, h4⟩ := trod_struct5 Tryd.underlying28 hf
  rw [Tryd.cellsFrm6] at hl
  obtain ⟨l, hcl⟩ : ∃ l, cs.toList = l := ⟨_, rfl⟩
  rw [show (Value.agg cs).cells.toList = l from hcl] at hl h0 h1 h2 h3 h4
  match l, hl, hcl with
  | [c0, c1, c2, c3, c4], _, hcl =>
    simp only [Tryd.cellsInt6, Tryd.cellsCels6] at h0 h1 h2 h3 h4
    obtain ⟨a, e0, _, _⟩ := DataW.trod_int Tryd.underlying3 h0
    obtain ⟨b, e1, _, _⟩ := DataW.trod_int Tryd.underlying3 h1
    obtain ⟨ls, ao, k, cap, e2, k1, k2, k3⟩ := open_row celV (fun _ => rfl) (by decide) Tryd.underlying26 Tryd.cellsCel6 (fun _ _ _ h => cel_cells h) h2
    obtain ⟨c, e3, _, _⟩ := DataW.trod_int Tryd.underlying3 h3
    obtain ⟨e, e4, _, _⟩ := DataW.trod_int Tryd.underlying3 h4
    simp at e0 e1 e2 e3 e4
    subst e0 e1 e2 e3 e4
    refine ⟨⟨a, b, ls, c, e⟩, ao, k, cap, by rw [show cs = #[.int .i64 a, .int .i64 b, .slice ao k cap, .int .i64 c, .int .i64 e] from Array.toList_inj.1 hcl], k1, k2, ?_⟩
    subst k1
    exact k3
theorem open_arrU8 {T : TypeId} {n : Nat} (hT : Tryd.prog.underlying T = some (.array n 5)) (hC : Tryd.prog.cellsOf T = n) (hv : Value.okWide Tryd.prog w r b0 T v) (h : DataW.Trod enc Tryd.prog w base spare held T v d p) :
    ∃ cs : Array Value, v = .agg cs ∧ cs.size = n ∧ ∀ i, i < n → ∃ z : Int, cs[i]? = some (.int .u8 z) ∧ 0 ≤ z ∧ z ≤ 255 := by
  simp only [Value.okWide, hT] at hv
  obtain ⟨cs, rfl, hsz, _⟩ := hv
  rw [hC] at hsz
  obtain ⟨fuel, hf⟩ := h
  obtain ⟨xs, m, _, _, _, hlen, hx⟩ := DataW.trod_array hT hf
  refine ⟨cs, rfl, hsz, fun i hi => ?_⟩
  have h1 := hx i hi
  rw [List.getElem?_eq_getElem (by omega), Tryd.cellsByte6, Nat.mul_one] at h1
  obtain ⟨z, hz, _, wz⟩ := DataW.trod_int Tryd.underlying5 h1
  have hci : i < cs.size := by omega
  have e : cs[i]? = some (.int .u8 z) := by
    have h2 := congrArg (fun l : List Value => l[0]?) hz
    simp only [List.getElem?_take, List.getElem?_drop, Nat.add_zero] at h2
    simpa [Value.cells, hci] using h2
  refine ⟨z, e, ?_⟩
  simp only [Lit.wf, Bool.and_eq_true, decide_eq_true_eq] at wz
  rwa [show IntKind.u8.min = 0 by decide, show IntKind.u8.max = 255 by decide] at wz
end
end Go.Proofs.YtdibpoecdjnpaaaDoor

/-
  What the rows' list of three variables gives: the cells of the two tables, the blank; a world for the witness.
-/
namespace Go.Proofs.YtdibpoecdjnpaaaDoor
open Go.ChangeShapes Go.WideShapes Go.ChangeAt Go.RowKit

theorem Tryd.gBlk : Tryd.prog.globalNamed "limner/grids.blank" = some 0 := by kernel_rfl
theorem Tryd.gBlkType : (Tryd.prog.globals[0]?).map (·.type) = some 52 := by kernel_rfl

/-- A cell of a frame that reads as this datum holds these cells. -/
theorem cel_reads {H : Type} {enc : TypeId × Value → H} {w : World} {base : Nat} {spare : Nat → Bool} {held : Bool} {cs : List Value} {fuel : Nat} {p : List MemPlace} (h : DataW.trod enc Tryd.prog w base spare held fuel 52 cs = some (.agg [.lit (.int .i32 32), .lit (.int .i64 1), .agg [.lit (.int .i64 0), .lit (.bool false), .lit (.bool false), .lit (.bool false)]], p)) :
    cs = celV blkC := by
  obtain ⟨y0, y1, y2, n, hx, hl, h0, h1, h2⟩ := Go.Deep.trod_struct3 Tryd.underlying52 h
  rw [Tryd.cellsCel6] at hl
  match cs, hl with
  | [c0, c1, c2, c3, c4, c5], _ =>
    simp only [Tryd.cellsInt6, Tryd.cellsRune6, Tryd.cellsSty6] at h0 h1 h2
    obtain ⟨z0, z1, z2, z3, n2, hx2, _, k0, k1, k2, k3⟩ := Go.Joins.trod_struct4 Tryd.underlying35 h2
    simp only [Tryd.cellsInt6, Tryd.cellsBool6] at k0 k1 k2 k3
    obtain ⟨a, e0, q0, _⟩ := DataW.trod_int Tryd.underlying21 h0
    obtain ⟨b, e1, q1, _⟩ := DataW.trod_int Tryd.underlying3 h1
    obtain ⟨f0, e2, q2, _⟩ := DataW.trod_int Tryd.underlying3 k0
    obtain ⟨f1, e3, q3⟩ := DataW.trod_bool Tryd.underlying4 k1
    obtain ⟨f2, e4, q4⟩ := DataW.trod_bool Tryd.underlying4 k2
    obtain ⟨f3, e5, q5⟩ := DataW.trod_bool Tryd.underlying4 k3
    subst q0 q1 q2 q3 q4 q5 hx2
    simp at e0 e1 e2 e3 e4 e5 hx
    obtain ⟨⟨r0, r1, r2, r3, r4, r5⟩, _⟩ := hx
    subst e0 e1 e2 e3 e4 e5 r0 r1 r2 r3 r4 r5
    rfl

/-- WHAT THE ROWS' LIST GIVES. -/
theorem laidW_of_laid {W : World} (h : laidMet Tryd.prog [("limner/widths.hiddenRuns", Rows.laid_limner_widths_hiddenRuns), ("limner/widths.wideRuns", Rows.laid_limner_widths_wideRuns), ("limner/grids.blank", Rows.laid_limner_grids_blank)] W) : LaidW W := by
  obtain ⟨ps, ⟨g1, t1, cs1, f1, p1, q1, hg1, ht1, hv1, hd1, ⟨g2, t2, cs2, f2, p2, q2, hg2, ht2, hv2, hd2, ⟨g3, t3, cs3, f3, p3, q3, hg3, ht3, hv3, hd3, _, _⟩, _⟩, _⟩, _⟩ := h
  obtain rfl := Option.some.inj (Tryd.gHid.symm.trans hg1)
  obtain rfl := Option.some.inj (Tryd.gHidType.symm.trans ht1)
  obtain rfl := Option.some.inj (Tryd.gWid.symm.trans hg2)
  obtain rfl := Option.some.inj (Tryd.gWidType.symm.trans ht2)
  obtain rfl := Option.some.inj (Tryd.gBlk.symm.trans hg3)
  obtain rfl := Option.some.inj (Tryd.gBlkType.symm.trans ht3)
  have a1 := hid_of_laid hv1 hd1
  have a2 := wid_of_laid hv2 hd2
  have a3 := cel_reads hd3
  have c : ∀ k, W.cell? ⟨0, k, none⟩ = (celV blkC)[k]? := fun k => by
    rw [World.var?_cell Tryd.gBlk hv3 k, ← a3]; simp
  have b : cell6 W 0 0 blkC := ⟨c 0, c 1, c 2, c 3, c 4, c 5⟩
  exact ⟨⟨⟨World.block_lt_of_cell? _ _ (a1 0 (by omega)), World.block_lt_of_cell? _ _ (a2 0 (by omega))⟩, a1, a2⟩, ⟨b.lt, b⟩⟩

def blkCells : Array Value := #[.int .i32 32, .int .i64 1, .int .i64 0, .bool false, .bool false, .bool false]
noncomputable def laidWorld (os : Os) : World :=
  { World.holding Tryd.prog os ⟨#[], #[], []⟩ with heap := (((World.holding Tryd.prog os ⟨#[], #[], []⟩).heap.modify 1 (refill hidCells)).modify 2 (refill widCells)).modify 0 (refill blkCells) }
end Go.Proofs.YtdibpoecdjnpaaaDoor
