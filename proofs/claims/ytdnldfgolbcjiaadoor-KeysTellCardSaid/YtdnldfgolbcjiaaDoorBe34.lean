/-
  Texts of this proof, one behind the other; each begins with its own remark.
-/
import Derived.Test.YtdnldfgolbcjiaaDoorBe33
import Derived.Test.YtdnldfgolbcjiaaDoorBe9
import Derived.Test.YtdnldfgolbcjiaaDoorBe32
/-
  What the laws' inputs read as: a row of runes; a row of acts, and one alone. No call is walked here.
-/
namespace Go.Proofs.YtdnldfgolbcjiaaDoor
open Go.ChangeShapes Go.WideShapes Go.ChangeAt Go.RowKit

theorem Tryd.cellsRune9 : Tryd.prog.cellsOf 21 = 1 := by kernel_rfl
theorem Tryd.cellsStr9 : Tryd.prog.cellsOf 9 = 1 := by kernel_rfl
theorem Tryd.cellsBool9 : Tryd.prog.cellsOf 4 = 1 := by kernel_rfl
theorem Tryd.cellsAct9 : Tryd.prog.cellsOf 32 = 2 := by kernel_rfl

def runeV (x : Int) : List Value := [.int .i32 x]
/-- A row of runes. -/
def RunesW (w : World) (v : Value) (l : List Int) : Prop := RowV AnyK w v l.length (l.flatMap runeV) ∧ l.length ≤ 9223372036854775807
theorem RunesW.below {w w' : World} {v : Value} {l : List Int} (h : RunesW w v l) (hb : Below w.heap.size w w') : RunesW w' v l := ⟨RowV.keep h.1 (keep_below AnyK hb), h.2⟩
/-- An act: bytes that are fed, whether a pause is behind them. -/
abbrev KAct := ByteArray × Bool
def kactV (x : KAct) : List Value := [.string x.1, .bool x.2]
def KActsW (w : World) (v : Value) (l : List KAct) : Prop := RowV AnyK w v l.length (l.flatMap kactV) ∧ l.length ≤ 9223372036854775807
theorem KActsW.below {w w' : World} {v : Value} {l : List KAct} (h : KActsW w v l) (hb : Below w.heap.size w w') : KActsW w' v l := ⟨RowV.keep h.1 (keep_below AnyK hb), h.2⟩

theorem flat_get {α : Type} {K : Nat} (elV : α → List Value) (hK : ∀ x, (elV x).length = K) (h0 : 0 < K) : ∀ (l : List α) (j : Nat), (l.flatMap elV)[j]? = (l[j / K]?).bind fun x => (elV x)[j % K]?
  | [], j => by simp
  | x :: l, j => by
    rw [List.flatMap_cons]
    by_cases h : j < K
    · rw [List.getElem?_append_left (by rw [hK]; exact h), Nat.div_eq_of_lt h, Nat.mod_eq_of_lt h]; rfl
    · rw [List.getElem?_append_right (by rw [hK]; omega), hK, flat_get elV hK h0 l (j - K)]
      obtain ⟨k, rfl⟩ : ∃ k, j = k + K := ⟨j - K, by omega⟩
      rw [Nat.add_sub_cancel, Nat.add_div_right _ h0, Nat.add_mod_right]; rfl
theorem RunesW.at_ {w : World} {v : Value} {l : List Int} {i : Nat} {x : Int} (h : RunesW w v l) (hi : l[i]? = some x) : ∃ g o cap, v = .slice (some ⟨g, o, none⟩) l.length cap ∧ l.length ≤ cap ∧ w.cell? ⟨g, o + i, none⟩ = some (.int .i32 x) := by
  have f : (l.flatMap runeV)[i]? = some (.int .i32 x) := by rw [flat_get (K := 1) runeV (fun _ => rfl) (by decide) l i, Nat.div_one, Nat.mod_one, hi]; rfl
  obtain ⟨g, o, cap, hv, hc, _, hh⟩ := RowV.at_ h.1 f
  exact ⟨g, o, cap, hv, hc, hh i _ f⟩
theorem RunesW.form {w : World} {v : Value} {l : List Int} (h : RunesW w v l) : ∃ ao cap, v = .slice ao l.length cap ∧ l.length ≤ cap := by
  obtain ⟨⟨ao, cap, hv, hn, _⟩, _⟩ := h
  exact ⟨ao, cap, hv, hn⟩
theorem KActsW.at_ {w : World} {v : Value} {l : List KAct} {i : Nat} {x : KAct} (h : KActsW w v l) (hi : l[i]? = some x) : ∃ g o cap, v = .slice (some ⟨g, o, none⟩) l.length cap ∧ l.length ≤ cap ∧ w.cell? ⟨g, o + i * 2, none⟩ = some (.string x.1) ∧ w.cell? ⟨g, o + i * 2 + 1, none⟩ = some (.bool x.2) := by
  have f : ∀ j, j < 2 → (l.flatMap kactV)[i * 2 + j]? = (kactV x)[j]? := fun j hj => by
    rw [flat_get (K := 2) kactV (fun _ => rfl) (by decide) l (i * 2 + j), show (i * 2 + j) / 2 = i by omega, show (i * 2 + j) % 2 = j by omega, hi]; rfl
  obtain ⟨g, o, cap, hv, hc, _, hh⟩ := RowV.at_ h.1 (f 0 (by decide))
  exact ⟨g, o, cap, hv, hc, hh (i * 2) _ (f 0 (by decide)), by rw [Nat.add_assoc]; exact hh (i * 2 + 1) _ (f 1 (by decide))⟩
theorem KActsW.form {w : World} {v : Value} {l : List KAct} (h : KActsW w v l) : ∃ ao cap, v = .slice ao l.length cap ∧ l.length ≤ cap := by
  obtain ⟨⟨ao, cap, hv, hn, _⟩, _⟩ := h
  exact ⟨ao, cap, hv, hn⟩

set_option maxRecDepth 20000
section
variable {H : Type} {enc : TypeId × Value → H} {w : World} {base b0 : Nat} {spare : Nat → Bool} {held : Bool} {v : Value} {d : DataW H} {p : List MemPlace} {r : Reach}
/-- A row of elements of K cells each. -/
theorem open_row {α : Type} [Inhabited α] {T e : TypeId} {K : Nat} (elV : α → List Value) (hK : ∀ x, (elV x).length = K) (h0 : 0 < K) (hT : Tryd.prog.underlying T = some (.slice e)) (hC : Tryd.prog.cellsOf e = K)
    (hcell : ∀ (fuel : Nat) cs y, DataW.trod enc Tryd.prog w base spare held fuel e cs = some y → ∃ x, cs = elV x) {cs : List Value} {fuel : Nat} {y : DataW H × List MemPlace} (h : DataW.trod enc Tryd.prog w base spare held fuel T cs = some y) :
    ∃ (l : List α) (ao : Option Addr) (n cap : Nat), cs = [.slice ao n cap] ∧ n = l.length ∧ n ≤ cap ∧ RowV AnyK w (.slice ao n cap) n (l.flatMap elV) ∧ n ≤ 9223372036854775807 := by
  rcases Go.Deep.open_slice hT h with ⟨hcs, _⟩ | ⟨a, len, cap, m, n, D, Pl, hcs, _, hl, hm, hz, _, hx⟩
  · exact ⟨[], none, 0, 0, hcs, rfl, Nat.le_refl _, RowV.nil _ _, Nat.zero_le _⟩
  · have hlen : len ≤ m := by rw [hz]; split <;> omega
    have each : ∀ i, i < len → ∃ x : α, ∃ g o, a = ⟨g, o, none⟩ ∧ ∀ k, k < K → w.cell? ⟨g, o + i * K + k, none⟩ = (elV x)[k]? := by
      intro i hi
      obtain ⟨cs1, hcs1, ht⟩ := hx i (by omega)
      obtain ⟨x, rfl⟩ := hcell _ _ _ ht
      obtain ⟨cs0, hcs0, _⟩ := hx 0 (by omega)
      rw [hC] at hcs1 hcs0
      obtain ⟨_, _, hc⟩ := World.cells?_some hcs1
      obtain ⟨_, hl0, hc0⟩ := World.cells?_some hcs0
      have hspot : a.spot = none := by
        obtain ⟨u, hu⟩ : ∃ u, cs0[0]? = some u := ⟨_, List.getElem?_eq_getElem (by omega)⟩
        have h0 := hc0 0 (by omega)
        rw [hu] at h0
        simpa [Addr.add] using World.cell?_spot h0
      obtain ⟨b, off, spot⟩ := a
      have hs' : spot = none := hspot
      subst hs'
      refine ⟨x, b, off, rfl, fun k hk => ?_⟩
      have := hc k (by omega)
      simpa [rlit] using this
    obtain ⟨F, hF⟩ := Go.Deep.choose_lt each
    have hlf : ((List.range len).map F).length = len := by simp
    refine ⟨(List.range len).map F, some a, len, cap, hcs, hlf.symm, by omega, ⟨some a, cap, rfl, by omega, fun _ _ => trivial, fun j u hu => ?_⟩, by have h1 : maxLen = 9223372036854775807 := rfl; omega⟩
    rw [flat_get elV hK h0] at hu
    by_cases hj : j / K < len
    · rw [List.getElem?_map, List.getElem?_range hj] at hu
      simp only [Option.map_some, Option.bind_some] at hu
      obtain ⟨g, o, rfl, hh⟩ := hF _ hj
      refine ⟨g, o, rfl, ?_⟩
      have := hh (j % K) (Nat.mod_lt _ h0)
      rw [hu, Nat.add_assoc, Nat.div_add_mod' j K] at this
      exact this
    · rw [List.getElem?_eq_none (by rw [hlf]; omega)] at hu
      simp at hu
theorem rune_cells {cs : List Value} {fuel : Nat} {x : DataW H × List MemPlace} (h : DataW.trod enc Tryd.prog w base spare held fuel 21 cs = some x) : ∃ z : Int, cs = runeV z := by
  obtain ⟨z, e, _, _⟩ := DataW.trod_int Tryd.underlying21 h
  exact ⟨z, e⟩
theorem kact_cells {cs : List Value} {fuel : Nat} {x : DataW H × List MemPlace} (h : DataW.trod enc Tryd.prog w base spare held fuel 32 cs = some x) : ∃ x : KAct, cs = kactV x := by
  obtain ⟨y0, y1, n, _, hl, h0, h1⟩ := trod_struct2 Tryd.underlying32 h
  rw [Tryd.cellsAct9] at hl
  match cs, hl with
  | [c0, c1], _ =>
    simp only [Tryd.cellsStr9, Tryd.cellsBool9] at h0 h1
    obtain ⟨a, e0, _⟩ := DataW.trod_string Tryd.underlying9 h0
    obtain ⟨b, e1, _⟩ := DataW.trod_bool Tryd.underlying4 h1
    simp at e0 e1
    subst e0 e1
    exact ⟨(a, b), rfl⟩
theorem open_runes (hv : Value.okWide Tryd.prog w r b0 45 v) (h : DataW.Trod enc Tryd.prog w base spare held 45 v d p) : ∃ l, RunesW w v l := by
  obtain ⟨a0, len, cap, rfl⟩ := okWide_slice Tryd.underlying45 hv
  obtain ⟨fuel, hf⟩ := h
  obtain ⟨l, ao, n, cp, hcs, hn, hc, hR, hB⟩ := open_row runeV (fun _ => rfl) (by decide) Tryd.underlying45 Tryd.cellsRune9 (fun _ _ _ h => rune_cells h) hf
  simp [Value.cells] at hcs
  obtain ⟨rfl, rfl, rfl⟩ := hcs
  subst hn
  exact ⟨l, hR, hB⟩
theorem open_kacts (hv : Value.okWide Tryd.prog w r b0 22 v) (h : DataW.Trod enc Tryd.prog w base spare held 22 v d p) : ∃ l, KActsW w v l := by
  obtain ⟨a0, len, cap, rfl⟩ := okWide_slice Tryd.underlying22 hv
  obtain ⟨fuel, hf⟩ := h
  obtain ⟨l, ao, n, cp, hcs, hn, hc, hR, hB⟩ := open_row kactV (fun _ => rfl) (by decide) Tryd.underlying22 Tryd.cellsAct9 (fun _ _ _ h => kact_cells h) hf
  simp [Value.cells] at hcs
  obtain ⟨rfl, rfl, rfl⟩ := hcs
  subst hn
  exact ⟨l, hR, hB⟩
theorem open_kact (hv : Value.okWide Tryd.prog w r b0 32 v) (h : DataW.Trod enc Tryd.prog w base spare held 32 v d p) : ∃ x : KAct, v = .agg #[.string x.1, .bool x.2] := by
  obtain ⟨cs, rfl, _⟩ := okWide_struct Tryd.underlying32 hv
  obtain ⟨fuel, hf⟩ := h
  obtain ⟨x, hcs⟩ := kact_cells hf
  refine ⟨x, ?_⟩
  simp [Value.cells] at hcs
  rw [show cs = #[.string x.1, .bool x.2] from Array.toList_inj.1 hcs]
end
end Go.Proofs.YtdnldfgolbcjiaaDoor

/-
  limnerlaw09.Great: what it returns: for every row of acts.
-/
namespace Go.Proofs.YtdnldfgolbcjiaaDoor
open Go.RowKit

def longB (l : List KAct) : Bool := l.any fun x => decide (300 < x.1.size)
def greatB (l : List KAct) : Bool := longB l || decide (30 < l.length)
theorem long_take (l : List KAct) (i : Nat) (x : KAct) (h : l[i]? = some x) : longB (l.take (i + 1)) = (longB (l.take i) || decide (300 < x.1.size)) := by
  unfold longB
  rw [List.take_add_one, h, List.any_append]
  simp
theorem long_of (l : List KAct) (i : Nat) (x : KAct) (h : l[i]? = some x) (hx : 300 < x.1.size) : longB l = true := by
  unfold longB
  rw [List.any_eq_true]
  exact ⟨x, List.mem_of_getElem? h, decide_eq_true hx⟩
theorem not_long (l : List KAct) (h : longB l = false) (i : Nat) (x : KAct) (hx : l[i]? = some x) : x.1.size ≤ 300 := by
  rcases Nat.lt_or_ge 300 x.1.size with h1 | h1
  · rw [long_of l i x hx h1] at h; cases h
  · exact h1

set_option maxRecDepth 4000 in
set_option maxHeartbeats 4000000 in
theorem great_any (v : Value) (l : List KAct) (w : World) (hS : KActsW w v l) :
    Calls Tryd.prog 9 #[v, .int .i64 30] w fun e w' => e = .returned (.bool (greatB l)) ∧ w' = w := by
  have HA := Lib.hid (fun i x (hx : l[i]? = some x) => KActsW.at_ hS hx)
  obtain ⟨ao, cap, rfl, _⟩ := hS.form
  have hm := hS.2
  have HG : Hid (greatB l = (longB l || decide (30 < l.length))) := rfl
  have HL0 : Hid (longB (l.take 0) = false) := rfl
  have HLA : Hid (longB (l.take l.length) = longB l) := by show _ = _; rw [List.take_length]
  have HST := Lib.hid (fun i x (h : l[i]? = some x) => long_take l i x h)
  have HLO := Lib.hid (fun i x (h : l[i]? = some x) => long_of l i x h)
  have HEX := Lib.hid (fun i (h : i < l.length) => (⟨_, List.getElem?_eq_getElem h⟩ : ∃ x, l[i]? = some x))
  obtain ⟨n, hn⟩ : ∃ n, l.length = n := ⟨_, rfl⟩
  rw [hn] at HA hm HG HLA HEX ⊢
  clear hS hn
  go_enter Tryd.func9, Tryd.ntmps9
  go_wp2
  go_loopw [5] (fun s5 wr => ∃ i : Nat, s5 = .int .i64 (i : Int) ∧ i ≤ n ∧ Hid (longB (l.take i) = false) ∧ wr = w) (fun s5 _ => n - (intOf s5).toNat)
  case atStart => exact ⟨0, rfl, Nat.zero_le _, HL0, rfl⟩
  case round =>
    obtain ⟨i, rfl, hi, HI, rfl⟩ := hrel
    by_cases hlt : i < n
    · obtain ⟨x, hx⟩ := HEX.out i hlt
      obtain ⟨g, o, c, hf, hcc, c0, _⟩ := HA.out i x hx
      have e1 : ao = some ⟨g, o, none⟩ := (Value.slice.inj hf).1
      subst e1
      have k1 : (i : Int) < (n : Int) := by omega
      have k0 : (0 : Int) ≤ (i : Int) := by omega
      have hst := HST.out i x hx
      have hlo := HLO.out i x hx
      rw [HI.out, Bool.false_or] at hst
      obtain ⟨m, hmm⟩ : ∃ m, x.1.size = m := ⟨_, rfl⟩
      rw [hmm] at hst hlo
      clear hf hx HA HST HLO HEX
      by_cases hm3 : 300 < m
      · have j1 : (300 : Int) < (m : Int) := by omega
        have HR : Hid (greatB l = true) := by show greatB l = true; rw [HG.out, hlo hm3]; rfl
        clear hst hlo
        go_wp2_with fail
        go_ret
        exact ⟨by rw [HR.out]; rfl, rfl⟩
      · have j1 : (m : Int) ≤ 300 := by omega
        have HI2 : Hid (longB (l.take (i + 1)) = false) := by show _ = false; rw [hst]; exact decide_eq_false hm3
        clear hst hlo
        go_wp2_with fail
        go_roundw
        case rel => exact ⟨i + 1, by go_num, by omega, HI2, trivial⟩
        case measure => simp [intOf]; omega
    · have k1 : (n : Int) ≤ (i : Int) := by omega
      have hin : i = n := by omega
      have HR : Hid (greatB l = decide (30 < n)) := by
        show greatB l = _
        rw [HG.out, ← HLA.out, ← hin, HI.out, Bool.false_or]
      clear HI HA HST HLO HEX HL0 HLA HG hin
      by_cases h30 : 30 < n
      · have j1 : (30 : Int) < (n : Int) := by omega
        go_wp2_with fail
        go_ret
        exact ⟨by rw [HR.out, decide_eq_true h30]; rfl, rfl⟩
      · have j1 : (n : Int) ≤ 30 := by omega
        go_wp2_with fail
        go_ret
        exact ⟨by rw [HR.out, decide_eq_false h30]; show Ending.returned (.bool (decide (30 < (n : Int)))) = _; rw [decide_eq_false (by omega)], rfl⟩
end Go.Proofs.YtdnldfgolbcjiaaDoor
