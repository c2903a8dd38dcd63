/-
  Texts of this proof, one behind the other; each begins with its own remark.
-/
import Derived.Deep.DeepFit
import Derived.Deep.Cut
import Derived.Test.YtdibpoecdjnpaaaDoorBa18
import Derived.Test.YtdibpoecdjnpaaaDoorBa31
import Derived.Test.YtdibpoecdjnpaaaDoorBa15
import Derived.Test.YtdibpoecdjnpaaaDoorBa20
/-
  limnerref06.Diff: what it returns: two frames of one size.
-/
namespace Go.Proofs.YtdibpoecdjnpaaaDoor
open Go.RowKit

section
variable {ok ok2 : Nat → Prop} {v u : Value} {a b : Frm}
set_option maxRecDepth 100000 in
set_option maxHeartbeats 4000000 in
theorem rdiff_yes {m n : Nat} (w : World) (hA : FrameW ok w v a) (hB : FrameW ok2 w u b) (hf : OkF a m n) (hg : OkF b m n) :
    Calls Tryd.prog 23 #[v, u] w fun e w' => e = .returned (.int .i64 (diffN a.cells b.cells : Int)) ∧ Below w.heap.size w w' := by
  have HVA : Hid (∀ W, Below w.heap.size w W → Calls Tryd.prog 27 #[v] W fun e w' => e = .returned (.bool true) ∧ Below W.heap.size W w') := fun W hW => by
    have := rvalid_any W (hA.below hW)
    rwa [hf.valid] at this
  have HVB : Hid (∀ W, Below w.heap.size w W → Calls Tryd.prog 27 #[u] W fun e w' => e = .returned (.bool true) ∧ Below W.heap.size W w') := fun W hW => by
    have := rvalid_any W (hB.below hW)
    rwa [hg.valid] at this
  obtain ⟨ao, N, cap, rfl, hn, hcap, hS⟩ := hA
  obtain ⟨ao2, N2, cap2, rfl, hn2, hcap2, hS2⟩ := hB
  have hl1 := hf.len
  have hl2 := hg.len
  obtain rfl : N2 = N := by omega
  have hr := hf.rows.trans hg.rows.symm
  have hc := hf.cols.trans hg.cols.symm
  have b10 : (a.rows != b.rows) = false := by simpa using hr
  have b11 : (a.cols != b.cols) = false := by simpa using hc
  have HW := Lib.hid (fun W hW => two_boxes (w := w) (W := W) (ao := ao) (ao2 := ao2) (n := N2) (cap := cap) (n2 := N2) (cap2 := cap2) (r := a.rows) (c := a.cols) (a := a.row) (b := a.col) (r2 := b.rows) (c2 := b.cols) (a2 := b.row) (b2 := b.col) hW)
  have H1 := Lib.hid hS
  have H2 := Lib.hid hS2
  have HL : Hid (a.cells.length = N2) := hn.symm
  have HM : Hid (b.cells.length = N2) := hn2.symm
  have hN : N2 ≤ 20000 := by
    have u1 := hf.hm
    have u2 := hf.hn
    rw [hn, hl1]; exact Nat.mul_le_mul u1.2 u2.2
  have iN : (N2 : Int) ≤ 20000 := by omega
  obtain ⟨D, hD⟩ : ∃ D, diffN a.cells b.cells = D := ⟨_, rfl⟩
  have HD := Lib.hid hD
  rw [hD]
  clear hf hg hn hn2 hcap hcap2 hS hS2 hl1 hl2 hr hc hD
  go_enter Tryd.func23, Tryd.ntmps23
  have H00 : Hid (Below (w.heap.size + 2) ((w.alloc (.cells #[.int .i64 a.rows, .int .i64 a.cols, .slice ao N2 cap, .int .i64 a.row, .int .i64 a.col] 28)).alloc (.cells #[.int .i64 b.rows, .int .i64 b.cols, .slice ao2 N2 cap2, .int .i64 b.row, .int .i64 b.col] 28)) ((w.alloc (.cells #[.int .i64 a.rows, .int .i64 a.cols, .slice ao N2 cap, .int .i64 a.row, .int .i64 a.col] 28)).alloc (.cells #[.int .i64 b.rows, .int .i64 b.cols, .slice ao2 N2 cap2, .int .i64 b.row, .int .i64 b.col] 28))) := Below.refl _ _
  go_wp2_with fail
  go_fit (HVA.out _ ((HW.out _ H00.out).2))
  rintro e w2 ⟨rfl, hb2⟩
  have HB := Lib.hid hb2
  obtain ⟨⟨⟨a0, a1, a2, a3, a4⟩, ⟨b0, b1, b2, b3, b4⟩⟩, kb⟩ := HW.out w2 (by simpa using HB.out)
  clear hb2 HVA H00
  go_wp2_with fail
  go_fit (HVB.out _ kb)
  rintro e w3 ⟨rfl, hb3⟩
  have HB3 := Lib.hid (HB.out.trans (hb3.mono HB.out.size))
  clear hb3 HVB HB a0 a1 a2 a3 a4 b0 b1 b2 b3 b4 kb
  have HB := HB3
  clear HB3
  obtain ⟨⟨⟨a0, a1, a2, a3, a4⟩, ⟨b0, b1, b2, b3, b4⟩⟩, kb⟩ := HW.out w3 (by simpa using HB.out)
  clear kb
  have hlt3 := HB.out.size
  rw [World.size_alloc, World.size_alloc] at hlt3
  go_wp2
  go_loopw [5, 6] (fun s5 sx wr => ∃ i k : Nat, s5 = .int .i64 (k : Int) ∧ sx = .int .i64 (i : Int) ∧ i ≤ N2 ∧ k ≤ i ∧ Hid (diffN (a.cells.take i) (b.cells.take i) = k) ∧ Hid (Below w3.heap.size w3 wr)) (fun _ sx _ => N2 - (intOf sx).toNat)
  case atStart => exact ⟨0, 0, rfl, rfl, Nat.zero_le _, Nat.le_refl _, rfl, Below.refl _ _⟩
  case round =>
    obtain ⟨i, k, rfl, rfl, hi, hki, HK, HBW⟩ := hrel
    have hsz := HBW.out.size
    have HF : Hid (∀ W, Below wr.heap.size wr W → Below w3.heap.size w3 W ∧ Below (w.heap.size + 2) ((w.alloc (.cells #[.int .i64 a.rows, .int .i64 a.cols, .slice ao N2 cap, .int .i64 a.row, .int .i64 a.col] 28)).alloc (.cells #[.int .i64 b.rows, .int .i64 b.cols, .slice ao2 N2 cap2, .int .i64 b.row, .int .i64 b.col] 28)) W) := fun W hW => by
      have := HBW.out.trans (hW.mono HBW.out.size)
      exact ⟨this, (by simpa using HB.out : Below (w.heap.size + 2) _ w3).trans (this.mono hlt3)⟩
    clear a0 a1 a2 a3 a4 b0 b1 b2 b3 b4
    by_cases hin : i < N2
    · obtain ⟨c, hc⟩ : ∃ c, a.cells[i]? = some c := ⟨_, List.getElem?_eq_getElem (by rw [HL.out]; exact hin)⟩
      obtain ⟨d, hd⟩ : ∃ d, b.cells[i]? = some d := ⟨_, List.getElem?_eq_getElem (by rw [HM.out]; exact hin)⟩
      have hst := diff_step a.cells b.cells i c d hc hd
      rw [HK.out] at hst
      obtain ⟨g, o, rfl, hcell⟩ := H1.out.ptr hc
      obtain ⟨g2, o2, rfl, hcell2⟩ := H2.out.ptr hd
      have HN : Hid (∀ W, Below wr.heap.size wr W → cell6 W g (o + i * 6) c ∧ cell6 W g2 (o2 + i * 6) d ∧ W.cell? ⟨w.heap.size, 2, none⟩ = some (.slice (some ⟨g, o, none⟩) N2 cap) ∧ W.cell? ⟨w.heap.size + 1, 2, none⟩ = some (.slice (some ⟨g2, o2, none⟩) N2 cap2) ∧ (g < W.heap.size ∧ g2 < W.heap.size ∧ w.heap.size < W.heap.size ∧ w.heap.size + 1 < W.heap.size) ∧ Below w3.heap.size w3 W) := fun W hW => by
        obtain ⟨h3, h4⟩ := HF.out W hW
        obtain ⟨⟨⟨_, _, x2, _⟩, ⟨_, _, y2, _⟩⟩, kb⟩ := HW.out W h4
        have k1 := (hcell i c hc).below kb (hcell i c hc).lt
        have k2 := (hcell2 i d hd).below kb (hcell2 i d hd).lt
        exact ⟨k1, k2, x2, y2, ⟨k1.lt, k2.lt, by have := h3.size; omega, by have := h3.size; omega⟩, h3⟩
      obtain ⟨⟨c0, c1, c2, c3, c4, c5⟩, ⟨d0, d1, d2, d3, d4, d5⟩, x2, y2, ⟨l1, l2, l3, l4⟩, _⟩ := HN.out wr (Below.refl _ _)
      have hq := fun w => cel_neq c d w
      have i1 : (i : Int) < (N2 : Int) := by omega
      have i2 : (0 : Int) ≤ (i : Int) := by omega
      have i3 : (k : Int) ≤ (i : Int) := by omega
      have i4 : (0 : Int) ≤ (k : Int) := by omega
      clear hc hd hcell hcell2 HK HF HBW hsz HL HM H1 H2 HB HD
      have HX := Lib.hid (HN.out wr (Below.refl _ _)).2.2.2.2.2
      clear HN
      by_cases hcd : c = d
      · rw [decide_eq_true hcd] at hq
        rw [if_pos hcd, Nat.add_zero] at hst
        have HK2 := Lib.hid hst
        clear hcd hst
        go_wp2
        go_quiet (fail)
        go_wp2
        go_roundw
        case rel => exact ⟨i + 1, k, rfl, by go_num, by omega, by omega, HK2, HX.out.trans ⟨rfl, rfl, rfl, Nat.le_refl _, fun _ _ => rfl⟩⟩
        case measure => simp [intOf]; omega
      · rw [decide_eq_false hcd] at hq
        rw [if_neg hcd] at hst
        have HK2 := Lib.hid hst
        clear hcd hst
        go_wp2
        go_quiet (fail)
        go_wp2
        go_roundw
        case rel => exact ⟨i + 1, k + 1, by go_num, by go_num, by omega, by omega, HK2, HX.out.trans ⟨rfl, rfl, rfl, Nat.le_refl _, fun _ _ => rfl⟩⟩
        case measure => simp [intOf]; omega
    · obtain rfl : N2 = i := by omega
      have HE : Hid (k = D) := by
        show _ = _
        have h1 := HK.out
        rw [List.take_of_length_le (by rw [HL.out]; omega), List.take_of_length_le (by rw [HM.out]; omega)] at h1
        rw [← h1]; exact HD.out
      obtain ⟨⟨⟨a0, a1, a2, a3, a4⟩, _⟩, kb⟩ := HW.out wr (HF.out wr (Below.refl _ _)).2
      clear HK HF HBW HW HL HM H1 H2 HB HD hsz
      go_wp2
      go_ret
      exact ⟨by rw [HE.out]; rfl, kb⟩
end
end Go.Proofs.YtdibpoecdjnpaaaDoor

/-
  grids.Diff: what it returns: for every two frames.
-/
namespace Go.Proofs.YtdibpoecdjnpaaaDoor
open Go.RowKit

theorem diffF_no {a b : Frm} (h : ¬ ((a.rows = b.rows ∧ a.cols = b.cols) ∧ validB a = true ∧ validB b = true)) : diffF a b = -1 := by
  unfold diffF
  rw [if_neg]
  simp only [Bool.and_eq_true, decide_eq_true_eq]
  rintro ⟨⟨⟨h1, h2⟩, h3⟩, h4⟩
  exact h ⟨⟨h3, h4⟩, h1, h2⟩

section
variable {ok ok2 : Nat → Prop} {v u : Value} {a b : Frm}
set_option maxHeartbeats 2000000 in
theorem gdiff_no (w : World) (hA : FrameW ok w v a) (hB : FrameW ok2 w u b) (hL : LaidW w) (h : ¬ ((a.rows = b.rows ∧ a.cols = b.cols) ∧ validB a = true ∧ validB b = true)) :
    Calls Tryd.prog 22 #[v, u] w fun e w' => e = .returned (.int .i64 (-1)) ∧ Below w.heap.size w w' := by
  have HVA : Hid (∀ W, Below w.heap.size w W → Calls Tryd.prog 26 #[v] W fun e w' => e = .returned (.bool (validB a)) ∧ Below W.heap.size W w') := fun W hW => gvalid_any W (hA.below hW) (hL.below hW)
  have HVB : Hid (∀ W, Below w.heap.size w W → Calls Tryd.prog 26 #[u] W fun e w' => e = .returned (.bool (validB b)) ∧ Below W.heap.size W w') := fun W hW => gvalid_any W (hB.below hW) (hL.below hW)
  obtain ⟨ao, n, cap, rfl, hn, hcap, hS⟩ := hA
  obtain ⟨ao2, n2, cap2, rfl, hn2, hcap2, hS2⟩ := hB
  have HZ := Lib.hid (fun W => sameSize_any (ao := ao) (ao2 := ao2) (n := n) (cap := cap) (n2 := n2) (cap2 := cap2) a.rows a.cols a.row a.col b.rows b.cols b.row b.col W)
  obtain ⟨Z, hZ⟩ : ∃ Z, (decide (a.rows = b.rows) && decide (a.cols = b.cols)) = Z := ⟨_, rfl⟩
  have hZt : Z = true ↔ a.rows = b.rows ∧ a.cols = b.cols := by rw [← hZ]; simp
  rw [hZ] at HZ
  have HW := Lib.hid (fun W hW => two_boxes (w := w) (W := W) (ao := ao) (ao2 := ao2) (n := n) (cap := cap) (n2 := n2) (cap2 := cap2) (r := a.rows) (c := a.cols) (a := a.row) (b := a.col) (r2 := b.rows) (c2 := b.cols) (a2 := b.row) (b2 := b.col) hW)
  rw [← hZt] at h
  clear hZ hZt hn hn2 hcap hcap2 hS hS2 hL
  cases Z with
  | false =>
    clear h HVA HVB
    go_enter Tryd.func22, Tryd.ntmps22
    go_wp2_with fail
    go_fit (HZ.out _)
    rintro e w1 ⟨rfl, hb1⟩
    obtain ⟨_, kb⟩ := HW.out w1 (by simpa using hb1)
    clear HW HZ hb1
    go_wp2
    go_ret
    exact ⟨rfl, kb⟩
  | true =>
    cases hva : validB a with
    | false =>
      rw [hva] at HVA
      clear h HVB hva
      go_enter Tryd.func22, Tryd.ntmps22
      go_wp2_with fail
      go_fit (HZ.out _)
      rintro e w1 ⟨rfl, hb1⟩
      obtain ⟨⟨⟨a0, a1, a2, a3, a4⟩, ⟨b0, b1, b2, b3, b4⟩⟩, kb⟩ := HW.out w1 (by simpa using hb1)
      clear HW HZ hb1
      go_wp2_with fail
      go_fit (HVA.out _ kb)
      rintro e w2 ⟨rfl, hb2⟩
      have kb2 := kb.trans (hb2.mono kb.size)
      clear hb2 HVA
      go_wp2
      go_ret
      exact ⟨rfl, kb2⟩
    | true =>
      cases hvb : validB b with
      | true => exact (h ⟨rfl, hva, hvb⟩).elim
      | false =>
        rw [hva] at HVA
        rw [hvb] at HVB
        clear h hva hvb
        go_enter Tryd.func22, Tryd.ntmps22
        go_wp2_with fail
        go_fit (HZ.out _)
        rintro e w1 ⟨rfl, hb1⟩
        obtain ⟨⟨⟨a0, a1, a2, a3, a4⟩, ⟨b0, b1, b2, b3, b4⟩⟩, kb⟩ := HW.out w1 (by simpa using hb1)
        have HB1 := Lib.hid hb1
        clear HZ hb1
        go_wp2_with fail
        go_fit (HVA.out _ kb)
        rintro e w2 ⟨rfl, hb2⟩
        obtain ⟨⟨⟨c0, c1, c2, c3, c4⟩, ⟨d0, d1, d2, d3, d4⟩⟩, kb2⟩ := HW.out w2 (by simpa using HB1.out.trans (hb2.mono HB1.out.size))
        clear hb2 HVA HW HB1
        go_wp2_with fail
        go_fit (HVB.out _ kb2)
        rintro e w3 ⟨rfl, hb3⟩
        have kb3 := kb2.trans (hb3.mono kb2.size)
        clear hb3 HVB
        go_wp2
        go_ret
        exact ⟨rfl, kb3⟩
end
end Go.Proofs.YtdibpoecdjnpaaaDoor
