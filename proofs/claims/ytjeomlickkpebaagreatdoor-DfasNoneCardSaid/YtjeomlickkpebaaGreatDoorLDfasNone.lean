/-
  limnerlaw12.DfasNone: it returns true, for any text, place and state.
-/
import Derived.Test.YtjeomlickkpebaaGreatDoorBe45
import Derived.Test.YtjeomlickkpebaaGreatDoorBe43
namespace Go.Proofs.YtjeomlickkpebaaGreatDoor
open Go.RowKit

def noD : Dfa := ⟨[], []⟩
theorem noD_to (k : Int) (b : Nat) : noD.to k b = -1 := to_out (d := noD) (fun e => by have h : ((0 : Nat) : Int) = (noD.n : Int) := rfl; omega) b
theorem noD_acc (k : Int) : noD.acc k = -1 := acc_out (d := noD) rfl (fun e => by have h : ((0 : Nat) : Int) = (noD.n : Int) := rfl; omega)
theorem noD_nil (w : World) : DfV w (.pointer none) noD := ⟨Nat.zero_le _, rfl, fun r hr => (by cases hr), fun r hr => (by cases hr), fun r hr => (by cases hr), .inl ⟨rfl, rfl⟩⟩
theorem noD_box {w : World} {B : Nat} (h : w.cell? ⟨B, 0, none⟩ = some (.slice none 0 0)) : DfV w (.pointer (some ⟨B, 0, none⟩)) noD := ⟨Nat.zero_le _, rfl, fun r hr => (by cases hr), fun r hr => (by cases hr), fun r hr => (by cases hr), .inr ⟨B, _, rfl, h, RowZ.nil _ _⟩⟩
theorem noD_match (s : ByteArray) (a : Int) : matchDA noD s a = (0, -1, 0) := by
  unfold matchDA
  split
  · rfl
  · generalize restR s a.toNat = l
    cases l <;> rfl
set_option maxHeartbeats 4000000 in
theorem pmake_none {w : World} {nv : Value} (h : NfaM w nv [] []) : Calls Tryz.prog 26 #[nv] w fun e w' => e = .returned (.tuple #[.pointer none, .int .i64 1]) ∧ Below w.heap.size w w' := by
  have HS := Lib.hid (nstart_all h (fun i s hs => by simp at hs) (fun a ha => by cases ha))
  clear h
  go_enter Tryz.func26, Tryz.ntmps26
  go_wp2_with fail
  go_fit HS.out
  rintro e w1 ⟨r, rfl, hr, hb⟩
  have hr2 : IntsW w1 r [] := hr
  obtain ⟨ro, rc, rfl, _⟩ := hr2.form
  have HB := Lib.hid hb
  have hl : (([] : List Int).length) = 0 := rfl
  clear hr hr2 hb HS
  (try rw [hl])
  go_wp2_with fail
  go_ret2
  exact ⟨rfl, HB.out⟩
set_option maxRecDepth 4000 in
set_option maxHeartbeats 16000000 in
theorem dfasNone_any (s : ByteArray) (at_ state : Int) (w : World) (he : EnvW w) :
    Calls Tryz.prog 6 #[.string s, .int .i64 at_, .int .i64 state] w fun e w' => e = .returned (.bool true) ∧ Below w.heap.size w w' := by
  have HTB := Lib.hid (fun (W : World) (hb : Below w.heap.size w W) => (tabled_any (he.below hb)).mono fun e w' h2 => (⟨h2.1, hb.trans (h2.2.mono hb.size)⟩ : e = .returned (.bool true) ∧ Below w.heap.size w w'))
  clear he
  by_cases hs9 : 100 < s.size
  · have hsi : (s.size : Int) > 100 := by omega
    have HX := Lib.hid (HTB.out _ (Below.refl _ _))
    clear HTB hs9
    go_enter Tryz.func6, Tryz.ntmps6
    go_wp2_with fail
    go_fit HX.out
    rintro e w9 ⟨rfl, hb⟩
    have HB := Lib.hid hb
    clear hb
    go_wp2_with fail
    go_ret
    exact ⟨rfl, HB.out⟩
  have hsi : ¬ (s.size : Int) > 100 := by omega
  have H0 : Hid (DfV w (.pointer none) noD ∧ Below w.heap.size w w) := Lib.hid ⟨noD_nil w, Below.refl _ _⟩
  go_enter Tryz.func6, Tryz.ntmps6
  go_wp2_with fail
  go_loopw [7, 8] (fun s7 s8 wr => ∃ i : Nat, s8 = .int .i64 (i : Int) ∧ i ≤ 2 ∧ Hid (DfV wr s7 noD ∧ Below w.heap.size w wr)) (fun _ s8 _ => 2 - (intOf s8).toNat)
  case atStart => exact ⟨0, rfl, by decide, H0⟩
  case round =>
    clear H0
    obtain ⟨i, rfl, hi, HX⟩ := hrel
    have i0 : (0 : Int) ≤ (i : Int) := by omega
    by_cases hlt : i < 2
    · have hli : (i : Int) < 2 := by omega
      have H1 := Lib.hid (pmin_none HX.out.1 rfl)
      have H2 := pvstates_any HX.out.1
      rw [show noD.n = 0 from rfl] at H2
      have H2 := Lib.hid H2
      have H3 := pvstep_any HX.out.1 state 97 (by decide)
      rw [noD_to] at H3
      have H3 := Lib.hid H3
      have H4 := pvacc_any HX.out.1 state
      rw [noD_acc] at H4
      have H4 := Lib.hid H4
      have H5 := dtakes_any HX.out.1 s (by omega) at_ 0 (-1) 0
      rw [noD_match, decide_eq_true rfl] at H5
      have H5 := Lib.hid H5
      go_wp2_with fail
      go_fit H1.out
      rintro e w1 ⟨rfl, rfl⟩
      clear H1
      go_wp2_with fail
      go_fit H2.out
      rintro e w1 ⟨rfl, rfl⟩
      clear H2
      go_wp2_with fail
      go_fit H3.out
      rintro e w1 ⟨rfl, rfl⟩
      clear H3
      go_wp2_with fail
      go_fit H4.out
      rintro e w1 ⟨rfl, rfl⟩
      clear H4
      go_wp2_with fail
      go_fit H5.out
      rintro e w2 ⟨rfl, hb⟩
      have H6 : Hid (DfV (w2.alloc (.cells #[.slice none 0 0] 63)) (.pointer (some ⟨w2.heap.size, 0, none⟩)) noD ∧ Below w.heap.size w (w2.alloc (.cells #[.slice none 0 0] 63))) := Lib.hid (by
        have hb2 := HX.out.2.trans (hb.mono HX.out.2.size)
        refine ⟨noD_box ?_, hb2.trans ((alloc_under w2 _).mono hb2.size)⟩
        rw [cell_of_row _ _ 0 _ _ (0, 0) (heap_alloc_new w2 _)]
        rfl)
      clear H5 hb HX
      go_wp2_with fail
      go_roundw
      case rel => exact ⟨i + 1, by go_num, by omega, H6⟩
      case measure => simp [intOf] <;> omega
    · have hli : ¬ (i : Int) < 2 := by omega
      have HB := Lib.hid HX.out.2
      have H1 := Lib.hid (pmake_none (w := wr) (nv := .pointer none) (.inl ⟨rfl, rfl, rfl⟩))
      clear HX
      go_wp2_with fail
      go_fit H1.out
      rintro e w3 ⟨rfl, hb⟩
      have HB3 := Lib.hid (HB.out.trans (hb.mono HB.out.size))
      have ha := alloc_under w3 (.cells #[.slice none 0 0, .slice none 0 0] 68)
      have hc := heap_alloc_new w3 (.cells #[.slice none 0 0, .slice none 0 0] 68)
      have H2 := Lib.hid (pmake_none (w := w3.alloc (.cells #[.slice none 0 0, .slice none 0 0] 68)) (nv := .pointer (some ⟨w3.heap.size, 0, none⟩)) (.inr ⟨Nat.zero_le _, Nat.zero_le _, _, _, _, rfl, by rw [cell_of_row _ _ 0 _ _ (0, 0) hc]; rfl, by rw [cell_of_row _ _ 1 _ _ (0, 0) hc]; rfl, RowZ.nil _ _, IntsW.nil _⟩))
      have HB4 := Lib.hid (HB3.out.trans (ha.mono HB3.out.size))
      clear ha hc hb H1
      go_wp2_with fail
      go_fit H2.out
      rintro e w4 ⟨rfl, hb⟩
      have HX2 := Lib.hid (HTB.out _ (HB4.out.trans (hb.mono HB4.out.size)))
      clear hb H2
      go_wp2_with fail
      go_fit HX2.out
      rintro e w9 ⟨rfl, hb⟩
      have HB := Lib.hid hb
      clear hb
      go_wp2_with fail
      go_ret
      exact ⟨rfl, HB.out⟩
end Go.Proofs.YtjeomlickkpebaaGreatDoor
