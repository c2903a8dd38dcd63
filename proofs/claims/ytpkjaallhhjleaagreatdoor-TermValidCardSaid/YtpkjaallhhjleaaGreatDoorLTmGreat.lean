/-
  limnerlaw08.Great: what it tells.
-/
import Derived.Test.YtpkjaallhhjleaaGreatDoorLTmActs
namespace Go.Proofs.YtpkjaallhhjleaaGreatDoor
open Go.RowKit

/-- What it tells: if not, then few, and small. -/
def GreatP (w : World) (l : List TAct) (most : Nat) (e : Ending) (w' : World) : Prop := w' = w ∧ ∃ b : Bool, e = .returned (.bool b) ∧ (b = false → l.length ≤ most ∧ ∀ x ∈ l, x.2.1.size ≤ 600)
set_option maxRecDepth 20000 in
set_option maxHeartbeats 4000000 in
theorem great_any {v : Value} {l : List TAct} (most : Nat) (w : World) (h : TActsW w v l) :
    Calls Tryz.prog 18 #[v, .int .i64 (most : Int)] w (GreatP w l most) := by
  obtain ⟨ao, n, cap, rfl, hn, hc, hR, hB⟩ := h
  have H : TActsW w (.slice ao n cap) l := ⟨ao, n, cap, rfl, hn, hc, hR, hB⟩
  have hBi : (n : Int) ≤ 9223372036854775807 := by omega
  have HA : Hid (∀ i, i < n → ∃ x g o, l[i]? = some x ∧ ao = some ⟨g, o, none⟩ ∧ w.cell? ⟨g, o + i * 4 + 1, none⟩ = some (.string x.2.1)) := fun i hi => by
    obtain ⟨x, hx⟩ : ∃ x, l[i]? = some x := ⟨_, List.getElem?_eq_getElem (by omega)⟩
    obtain ⟨g, o, e, _, h1, _⟩ := H.at_ hx
    exact ⟨x, g, o, hx, e, h1⟩
  have HN := Lib.hid hn
  have HS : Hid (∀ i x, l[i]? = some x → (∀ y ∈ l.take i, y.2.1.size ≤ 600) → x.2.1.size ≤ 600 → ∀ y ∈ l.take (i + 1), y.2.1.size ≤ 600) := fun i x hx h1 h2 y hy => by
    have hlt := (List.getElem?_eq_some_iff.1 hx).1
    rw [List.take_succ_eq_append_getElem hlt, (List.getElem?_eq_some_iff.1 hx).2] at hy
    rcases List.mem_append.1 hy with hy | hy
    · exact h1 y hy
    · rw [List.mem_singleton.1 hy]; exact h2
  clear hR H hn
  go_enter Tryz.func18, Tryz.ntmps18
  go_wp2_with fail
  go_loopw [5] (fun s5 wr => ∃ i : Nat, s5 = .int .i64 (i : Int) ∧ i ≤ n ∧ wr = w ∧ Hid (∀ y ∈ l.take i, y.2.1.size ≤ 600)) (fun s5 _ => n - (intOf s5).toNat)
  case atStart => exact ⟨0, rfl, Nat.zero_le _, rfl, fun y hy => by simp at hy⟩
  case round =>
    obtain ⟨i, rfl, hi, rfl, HI⟩ := hrel
    by_cases hlt : i < n
    · obtain ⟨x, g, o, hx, rfl, hcell⟩ := HA.out i hlt
      have i0 : (i : Int) < (n : Int) := by omega
      have i1 : (0 : Int) ≤ (i : Int) := by omega
      have HX := Lib.hid hx
      clear hx
      by_cases hsz : 600 < x.2.1.size
      · have q : (600 : Int) < (x.2.1.size : Int) := by omega
        go_wp2_with fail
        go_ret
        exact ⟨rfl, true, rfl, fun h => by cases h⟩
      · have q : ¬ (600 : Int) < (x.2.1.size : Int) := by omega
        go_wp2_with fail
        go_roundw
        case rel => exact ⟨i + 1, by rw [Int.natCast_add]; rfl, by omega, trivial, HS.out i x HX.out HI.out (by omega)⟩
        case measure => simp only [intOf]; omega
    · obtain rfl : i = n := by omega
      have i0 : ¬ (i : Int) < (i : Int) := by omega
      have HE : Hid (∀ y ∈ l, y.2.1.size ≤ 600) := by
        have := HI.out
        rw [HN.out, List.take_length] at this
        exact this
      go_wp2_with fail
      go_ret
      refine ⟨rfl, _, rfl, fun h => ⟨?_, HE.out⟩⟩
      have := of_decide_eq_false h
      have := HN.out
      omega
end Go.Proofs.YtpkjaallhhjleaaGreatDoor
