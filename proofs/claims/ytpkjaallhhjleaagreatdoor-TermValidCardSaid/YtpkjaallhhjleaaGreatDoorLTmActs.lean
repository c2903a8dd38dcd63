/-
  What a row of acts of a terminal is in memory; that an argument that reads as one is one. No call is walked here.
-/
import Derived.Test.YtpkjaallhhjleaaGreatDoorBa30
import Derived.Test.YtpkjaallhhjleaaGreatDoorBa27
namespace Go.Proofs.YtpkjaallhhjleaaGreatDoor
open Go.ChangeShapes Go.WideShapes Go.ChangeAt Go.RowKit

theorem Tryz.cellsAct8 : Tryz.prog.cellsOf 53 = 4 := by kernel_rfl
theorem Tryz.cellsStr8 : Tryz.prog.cellsOf 9 = 1 := by kernel_rfl
/-- An act: its kind, a text, a size. -/
abbrev TAct := Int × ByteArray × Int × Int
def tactV (x : TAct) : List Value := [.int .u8 x.1, .string x.2.1, .int .i64 x.2.2.1, .int .i64 x.2.2.2]
def TActsW (w : World) (v : Value) (l : List TAct) : Prop := ∃ ao n cap, v = .slice ao n cap ∧ n = l.length ∧ n ≤ cap ∧ RowV AnyB w (.slice ao n cap) n (l.flatMap tactV) ∧ n ≤ 9223372036854775807
theorem TActsW.below {w w' : World} {v : Value} {l : List TAct} (h : TActsW w v l) (hb : Below w.heap.size w w') : TActsW w' v l := by
  obtain ⟨ao, n, cap, h1, h2, h3, h4, h5⟩ := h
  exact ⟨ao, n, cap, h1, h2, h3, h4.below hb, h5⟩
theorem tact_at : ∀ (l : List TAct) (i j : Nat) (x : TAct), l[i]? = some x → j < 4 → (l.flatMap tactV)[i * 4 + j]? = (tactV x)[j]?
  | [], i, j, x, h, _ => by simp at h
  | y :: l, 0, j, x, h, hj => by
    simp at h
    subst h
    rw [List.flatMap_cons, Nat.zero_mul, Nat.zero_add, List.getElem?_append_left (by show j < 4; exact hj)]
  | y :: l, i + 1, j, x, h, hj => by
    rw [List.flatMap_cons, List.getElem?_append_right (by show 4 ≤ _; omega), ← tact_at l i j x (by simpa using h) hj]
    congr 1
    show (i + 1) * 4 + j - 4 = _
    omega
theorem TActsW.at_ {w : World} {ao : Option Addr} {n cap : Nat} {l : List TAct} {i : Nat} {x : TAct} (h : TActsW w (.slice ao n cap) l) (hi : l[i]? = some x) :
    ∃ g o, ao = some ⟨g, o, none⟩ ∧ w.cell? ⟨g, o + i * 4, none⟩ = some (.int .u8 x.1) ∧ w.cell? ⟨g, o + i * 4 + 1, none⟩ = some (.string x.2.1) ∧ w.cell? ⟨g, o + i * 4 + 2, none⟩ = some (.int .i64 x.2.2.1) ∧ w.cell? ⟨g, o + i * 4 + 3, none⟩ = some (.int .i64 x.2.2.2) := by
  obtain ⟨ao', n', cap', he, _, _, hr, _⟩ := h
  injection he with e1 e2 e3
  subst e1 e2 e3
  have f := fun j hj => tact_at l i j x hi hj
  obtain ⟨g, o, cp, e, _, _, hh⟩ := hr.at_ (j := i * 4 + 0) (f 0 (by decide))
  injection e with e1 _ _
  refine ⟨g, o, e1, ?_, ?_, ?_, ?_⟩
  · exact hh (i * 4) _ (f 0 (by decide))
  · rw [Nat.add_assoc]; exact hh (i * 4 + 1) _ (f 1 (by decide))
  · rw [Nat.add_assoc]; exact hh (i * 4 + 2) _ (f 2 (by decide))
  · rw [Nat.add_assoc]; exact hh (i * 4 + 3) _ (f 3 (by decide))
theorem flat_get {α : Type} {K : Nat} (elV : α → List Value) (hK : ∀ x, (elV x).length = K) (h0 : 0 < K) : ∀ (l : List α) (j : Nat), (l.flatMap elV)[j]? = (l[j / K]?).bind fun x => (elV x)[j % K]?
  | [], j => by simp
  | x :: l, j => by
    rw [List.flatMap_cons]
    by_cases h : j < K
    · rw [List.getElem?_append_left (by rw [hK]; exact h), Nat.div_eq_of_lt h, Nat.mod_eq_of_lt h]; rfl
    · rw [List.getElem?_append_right (by rw [hK]; omega), hK, flat_get elV hK h0 l (j - K)]
      obtain ⟨k, rfl⟩ : ∃ k, j = k + K := ⟨j - K, by omega⟩
      rw [Nat.add_sub_cancel, Nat.add_div_right _ h0, Nat.add_mod_right]; rfl

set_option maxRecDepth 20000
section
variable {H : Type} {enc : TypeId × Value → H} {w : World} {base b0 : Nat} {spare : Nat → Bool} {held : Bool} {v : Value} {d : DataW H} {p : List MemPlace} {r : Reach}
/-- A row of elements of K cells each. -/
theorem open_row {α : Type} [Inhabited α] {T e : TypeId} {K : Nat} (elV : α → List Value) (hK : ∀ x, (elV x).length = K) (h0 : 0 < K) (hT : Tryz.prog.underlying T = some (.slice e)) (hC : Tryz.prog.cellsOf e = K)
    (hcell : ∀ (fuel : Nat) cs y, DataW.trod enc Tryz.prog w base spare held fuel e cs = some y → ∃ x, cs = elV x) {cs : List Value} {fuel : Nat} {y : DataW H × List MemPlace} (h : DataW.trod enc Tryz.prog w base spare held fuel T cs = some y) :
    ∃ (l : List α) (ao : Option Addr) (n cap : Nat), cs = [.slice ao n cap] ∧ n = l.length ∧ n ≤ cap ∧ RowV AnyB w (.slice ao n cap) n (l.flatMap elV) ∧ n ≤ 9223372036854775807 := by
  rcases Go.Deep.open_slice hT h with ⟨hcs, _⟩ | ⟨a, len, cap, m, n, D, Pl, hcs, _, hl, hm, hz, _, hx⟩
  · exact ⟨[], none, 0, 0, hcs, rfl, Nat.le_refl _, RowV.nil _ _, Nat.zero_le _⟩
  · have hlen : len ≤ m := by rw [hz]; split <;> omega
    have each : ∀ i, i < len → ∃ x : α, ∃ g o, a = ⟨g, o, none⟩ ∧ ∀ k, k < K → w.cell? ⟨g, o + i * K + k, none⟩ = (elV x)[k]? := by
      intro i hi
      obtain ⟨cs1, hcs1, ht⟩ := hx i (by omega)
      obtain ⟨x, rfl⟩ := hcell _ _ _ ht
      obtain ⟨cs0, hcs0, _⟩ := hx 0 (by omega)
      rw [hC] at hcs1 hcs0
      obtain ⟨_, _, hc⟩ := World.cells?_some hcs1
      obtain ⟨_, hl0, hc0⟩ := World.cells?_some hcs0
      have hspot : a.spot = none := by
        obtain ⟨u, hu⟩ : ∃ u, cs0[0]? = some u := ⟨_, List.getElem?_eq_getElem (by omega)⟩
        have h0 := hc0 0 (by omega)
        rw [hu] at h0
        simpa [Addr.add] using World.cell?_spot h0
      obtain ⟨b, off, spot⟩ := a
      have hs' : spot = none := hspot
      subst hs'
      refine ⟨x, b, off, rfl, fun k hk => ?_⟩
      have := hc k (by omega)
      simpa [add_plain] using this
    obtain ⟨F, hF⟩ := Go.Deep.choose_lt each
    have hlf : ((List.range len).map F).length = len := by simp
    refine ⟨(List.range len).map F, some a, len, cap, hcs, hlf.symm, by omega, ⟨some a, cap, rfl, by omega, fun _ _ => trivial, fun j u hu => ?_⟩, by have h1 : maxLen = 9223372036854775807 := rfl; omega⟩
    rw [flat_get elV hK h0] at hu
    by_cases hj : j / K < len
    · rw [List.getElem?_map, List.getElem?_range hj] at hu
      simp only [Option.map_some, Option.bind_some] at hu
      obtain ⟨g, o, rfl, hh⟩ := hF _ hj
      refine ⟨g, o, rfl, ?_⟩
      have := hh (j % K) (Nat.mod_lt _ h0)
      rw [hu, Nat.add_assoc, Nat.div_add_mod' j K] at this
      exact this
    · rw [List.getElem?_eq_none (by rw [hlf]; omega)] at hu
      simp at hu

theorem tact_cells {cs : List Value} {fuel : Nat} {x : DataW H × List MemPlace} (h : DataW.trod enc Tryz.prog w base spare held fuel 53 cs = some x) : ∃ x : TAct, cs = tactV x := by
  obtain ⟨y0, y1, y2, y3, n, _, hl, h0, h1, h2, h3⟩ := Go.Joins.trod_struct4 Tryz.underlying53 h
  rw [Tryz.cellsAct8] at hl
  match cs, hl with
  | [c0, c1, c2, c3], _ =>
    simp only [Tryz.cellsInt6, Tryz.cellsByte6, Tryz.cellsStr8] at h0 h1 h2 h3
    obtain ⟨a, e0, _, _⟩ := DataW.trod_int Tryz.underlying5 h0
    obtain ⟨b, e1, _⟩ := DataW.trod_string Tryz.underlying9 h1
    obtain ⟨c, e2, _, _⟩ := DataW.trod_int Tryz.underlying3 h2
    obtain ⟨d, e3, _, _⟩ := DataW.trod_int Tryz.underlying3 h3
    simp at e0 e1 e2 e3
    subst e0 e1 e2 e3
    exact ⟨(a, b, c, d), rfl⟩
theorem open_tacts (hv : Value.okWide Tryz.prog w r b0 49 v) (h : DataW.Trod enc Tryz.prog w base spare held 49 v d p) : ∃ l, TActsW w v l := by
  obtain ⟨a0, len, cap, rfl⟩ := okWide_slice Tryz.underlying49 hv
  obtain ⟨fuel, hf⟩ := h
  obtain ⟨l, ao, n, cp, hcs, hn, hc, hR, hB⟩ := open_row tactV (fun _ => rfl) (by decide) Tryz.underlying49 Tryz.cellsAct8 (fun _ _ _ h => tact_cells h) hf
  simp [Value.cells] at hcs
  obtain ⟨rfl, rfl, rfl⟩ := hcs
  exact ⟨l, _, _, _, rfl, hn, hc, hR, hB⟩
end
end Go.Proofs.YtpkjaallhhjleaaGreatDoor
