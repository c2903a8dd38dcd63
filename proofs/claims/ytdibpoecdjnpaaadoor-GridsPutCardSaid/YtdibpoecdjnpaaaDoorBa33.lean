/-
  Texts of this proof, one behind the other; each begins with its own remark.
-/
import Derived.Deep.DeepFit
import Derived.Deep.Cut
import Derived.Laws.Bits64b
import Derived.Test.YtdibpoecdjnpaaaDoorBa32
import Derived.Test.YtdibpoecdjnpaaaDoorBa8
import Derived.Test.YtdibpoecdjnpaaaDoorBa15
import Derived.Test.YtdibpoecdjnpaaaDoorBa1
/-
  grids.Diff: what it returns: two frames of one size.
-/
namespace Go.Proofs.YtdibpoecdjnpaaaDoor
open Go.RowKit

section
variable {ok ok2 : Nat → Prop} {v u : Value} {a b : Frm}
set_option maxRecDepth 100000 in
set_option maxHeartbeats 4000000 in
theorem gdiff_yes {m n : Nat} (w : World) (hA : FrameW ok w v a) (hB : FrameW ok2 w u b) (hL : LaidW w) (hf : OkF a m n) (hg : OkF b m n) :
    Calls Tryd.prog 22 #[v, u] w fun e w' => e = .returned (.int .i64 (diffN a.cells b.cells : Int)) ∧ Below w.heap.size w w' := by
  have HVA : Hid (∀ W, Below w.heap.size w W → Calls Tryd.prog 26 #[v] W fun e w' => e = .returned (.bool true) ∧ Below W.heap.size W w') := fun W hW => by
    have := gvalid_any W (hA.below hW) (hL.below hW)
    rwa [hf.valid] at this
  have HVB : Hid (∀ W, Below w.heap.size w W → Calls Tryd.prog 26 #[u] W fun e w' => e = .returned (.bool true) ∧ Below W.heap.size W w') := fun W hW => by
    have := gvalid_any W (hB.below hW) (hL.below hW)
    rwa [hg.valid] at this
  obtain ⟨ao, N, cap, rfl, hn, hcap, hS⟩ := hA
  obtain ⟨ao2, N2, cap2, rfl, hn2, hcap2, hS2⟩ := hB
  have hl1 := hf.len
  have hl2 := hg.len
  obtain rfl : N2 = N := by omega
  have hr := hf.rows.trans hg.rows.symm
  have hc := hf.cols.trans hg.cols.symm
  have HZ : Hid (∀ W, Calls Tryd.prog 33 #[.agg #[.int .i64 a.rows, .int .i64 a.cols, .slice ao N2 cap, .int .i64 a.row, .int .i64 a.col], .agg #[.int .i64 b.rows, .int .i64 b.cols, .slice ao2 N2 cap2, .int .i64 b.row, .int .i64 b.col]] W fun e w' => e = .returned (.bool true) ∧ Below W.heap.size W w') := fun W => by
    have := sameSize_any (ao := ao) (ao2 := ao2) (n := N2) (cap := cap) (n2 := N2) (cap2 := cap2) a.rows a.cols a.row a.col b.rows b.cols b.row b.col W
    rwa [decide_eq_true hr, decide_eq_true hc] at this
  have HW := Lib.hid (fun W hW => two_boxes (w := w) (W := W) (ao := ao) (ao2 := ao2) (n := N2) (cap := cap) (n2 := N2) (cap2 := cap2) (r := a.rows) (c := a.cols) (a := a.row) (b := a.col) (r2 := b.rows) (c2 := b.cols) (a2 := b.row) (b2 := b.col) hW)
  have H1 := Lib.hid hS
  have H2 := Lib.hid hS2
  have HL : Hid (a.cells.length = N2) := hn.symm
  have HM : Hid (b.cells.length = N2) := hn2.symm
  have hN : N2 ≤ 20000 := by
    have u1 := hf.hm
    have u2 := hf.hn
    rw [hn, hl1]; exact Nat.mul_le_mul u1.2 u2.2
  have iN : (N2 : Int) ≤ 20000 := by omega
  obtain ⟨D, hD⟩ : ∃ D, diffN a.cells b.cells = D := ⟨_, rfl⟩
  have HD := Lib.hid hD
  rw [hD]
  clear hf hg hn hn2 hcap hcap2 hS hS2 hl1 hl2 hr hc hD hL
  go_enter Tryd.func22, Tryd.ntmps22
  go_wp2_with fail
  go_fit (HZ.out _)
  rintro e w1 ⟨rfl, hb1⟩
  have HB := Lib.hid hb1
  obtain ⟨⟨⟨a0, a1, a2, a3, a4⟩, ⟨b0, b1, b2, b3, b4⟩⟩, kb⟩ := HW.out w1 (by simpa using HB.out)
  clear HZ hb1
  go_wp2_with fail
  go_fit (HVA.out _ kb)
  rintro e w2 ⟨rfl, hb2⟩
  have HB' := Lib.hid (HB.out.trans (hb2.mono HB.out.size))
  clear hb2 HVA HB a0 a1 a2 a3 a4 b0 b1 b2 b3 b4 kb
  have HB := HB'
  clear HB'
  obtain ⟨⟨⟨a0, a1, a2, a3, a4⟩, ⟨b0, b1, b2, b3, b4⟩⟩, kb⟩ := HW.out w2 (by simpa using HB.out)
  go_wp2_with fail
  go_fit (HVB.out _ kb)
  rintro e w3 ⟨rfl, hb3⟩
  have HB3 := Lib.hid (HB.out.trans (hb3.mono HB.out.size))
  clear hb3 HVB HB a0 a1 a2 a3 a4 b0 b1 b2 b3 b4 kb
  have HB := HB3
  clear HB3
  obtain ⟨⟨⟨a0, a1, a2, a3, a4⟩, ⟨b0, b1, b2, b3, b4⟩⟩, kb⟩ := HW.out w3 (by simpa using HB.out)
  clear kb
  have hlt3 := HB.out.size
  rw [World.size_alloc, World.size_alloc] at hlt3
  go_wp2
  go_loopw [5, 25] (fun s5 sx wr => ∃ i k : Nat, s5 = .int .i64 (k : Int) ∧ sx = .int .i64 (i : Int) ∧ i ≤ N2 ∧ k ≤ i ∧ Hid (diffN (a.cells.take i) (b.cells.take i) = k) ∧ Hid (Below w3.heap.size w3 wr)) (fun _ sx _ => N2 - (intOf sx).toNat)
  case atStart => exact ⟨0, 0, rfl, rfl, Nat.zero_le _, Nat.le_refl _, rfl, Below.refl _ _⟩
  case round =>
    obtain ⟨i, k, rfl, rfl, hi, hki, HK, HBW⟩ := hrel
    have hsz := HBW.out.size
    have HF : Hid (∀ W, Below wr.heap.size wr W → Below w3.heap.size w3 W ∧ Below (w.heap.size + 2) ((w.alloc (.cells #[.int .i64 a.rows, .int .i64 a.cols, .slice ao N2 cap, .int .i64 a.row, .int .i64 a.col] 28)).alloc (.cells #[.int .i64 b.rows, .int .i64 b.cols, .slice ao2 N2 cap2, .int .i64 b.row, .int .i64 b.col] 28)) W) := fun W hW => by
      have := HBW.out.trans (hW.mono HBW.out.size)
      exact ⟨this, (by simpa using HB.out : Below (w.heap.size + 2) _ w3).trans (this.mono hlt3)⟩
    clear a0 a1 a2 a3 a4 b0 b1 b2 b3 b4
    by_cases hin : i < N2
    · obtain ⟨c, hc⟩ : ∃ c, a.cells[i]? = some c := ⟨_, List.getElem?_eq_getElem (by rw [HL.out]; exact hin)⟩
      obtain ⟨d, hd⟩ : ∃ d, b.cells[i]? = some d := ⟨_, List.getElem?_eq_getElem (by rw [HM.out]; exact hin)⟩
      have hst := diff_step a.cells b.cells i c d hc hd
      rw [HK.out] at hst
      obtain ⟨g, o, rfl, hcell⟩ := H1.out.ptr hc
      obtain ⟨g2, o2, rfl, hcell2⟩ := H2.out.ptr hd
      have HN : Hid (∀ W, Below wr.heap.size wr W → cell6 W g (o + i * 6) c ∧ cell6 W g2 (o2 + i * 6) d ∧ W.cell? ⟨w.heap.size, 2, none⟩ = some (.slice (some ⟨g, o, none⟩) N2 cap) ∧ W.cell? ⟨w.heap.size + 1, 2, none⟩ = some (.slice (some ⟨g2, o2, none⟩) N2 cap2) ∧ (g < W.heap.size ∧ g2 < W.heap.size ∧ w.heap.size < W.heap.size ∧ w.heap.size + 1 < W.heap.size) ∧ Below w3.heap.size w3 W) := fun W hW => by
        obtain ⟨h3, h4⟩ := HF.out W hW
        obtain ⟨⟨⟨_, _, x2, _⟩, ⟨_, _, y2, _⟩⟩, kb⟩ := HW.out W h4
        have k1 := (hcell i c hc).below kb (hcell i c hc).lt
        have k2 := (hcell2 i d hd).below kb (hcell2 i d hd).lt
        exact ⟨k1, k2, x2, y2, ⟨k1.lt, k2.lt, by have := h3.size; omega, by have := h3.size; omega⟩, h3⟩
      obtain ⟨⟨c0, c1, c2, c3, c4, c5⟩, ⟨d0, d1, d2, d3, d4, d5⟩, x2, y2, ⟨l1, l2, l3, l4⟩, _⟩ := HN.out wr (Below.refl _ _)
      have hq := fun w => cel_neq c d w
      have i1 : (i : Int) < (N2 : Int) := by omega
      have i2 : (0 : Int) ≤ (i : Int) := by omega
      have i3 : (k : Int) ≤ (i : Int) := by omega
      have i4 : (0 : Int) ≤ (k : Int) := by omega
      clear hc hd hcell hcell2 HK HF HBW hsz HL HM H1 H2 HB HD
      go_upto_region 7 with (fail)
      obtain ⟨W7, hW7⟩ : ∃ W7, wr.alloc (.cells #[.int .i32 c.1, .int .i64 c.2.1, .int .i64 c.2.2.1, .bool c.2.2.2.1, .bool c.2.2.2.2.1, .bool c.2.2.2.2.2] 52) = W7 := ⟨_, rfl⟩
      have B7 : Below wr.heap.size wr W7 := by rw [← hW7]; exact (Below.refl _ wr).alloc (Nat.le_refl _) _
      have K7 : blkL W7 wr.heap.size [c] [] := by rw [← hW7]; exact heap_alloc_new wr _
      obtain ⟨e0, e1, e2, e3, e4, e5⟩ := K7.cells (i := 0) rfl
      simp only [Nat.zero_mul, Nat.zero_add] at e0 e1 e2 e3 e4 e5
      rw [hW7]
      clear c0 c1 c2 c3 c4 c5 d0 d1 d2 d3 d4 d5 x2 y2 l1 l2 l3 l4
      obtain ⟨_, ⟨d0, d1, d2, d3, d4, d5⟩, x2, y2, ⟨l1, l2, l3, l4⟩, hX⟩ := HN.out W7 B7
      have HX := Lib.hid hX
      clear HN hX K7 B7 hW7
      by_cases hcd : c = d
      · rw [decide_eq_true hcd] at hq
        rw [if_pos hcd, Nat.add_zero] at hst
        have HK2 := Lib.hid hst
        clear hcd hst
        go_wp2
        go_quiet (fail)
        go_wp2
        go_roundw
        case rel => exact ⟨i + 1, k, rfl, by go_num, by omega, by omega, HK2, HX.out.trans ⟨rfl, rfl, rfl, Nat.le_refl _, fun _ _ => rfl⟩⟩
        case measure => simp [intOf]; omega
      · rw [decide_eq_false hcd] at hq
        rw [if_neg hcd] at hst
        have HK2 := Lib.hid hst
        clear hcd hst
        go_wp2
        go_quiet (fail)
        go_wp2
        go_roundw
        case rel => exact ⟨i + 1, k + 1, by go_num, by go_num, by omega, by omega, HK2, HX.out.trans ⟨rfl, rfl, rfl, Nat.le_refl _, fun _ _ => rfl⟩⟩
        case measure => simp [intOf]; omega
    · obtain rfl : N2 = i := by omega
      have HE : Hid (k = D) := by
        show _ = _
        have h1 := HK.out
        rw [List.take_of_length_le (by rw [HL.out]; omega), List.take_of_length_le (by rw [HM.out]; omega)] at h1
        rw [← h1]; exact HD.out
      obtain ⟨⟨⟨a0, a1, a2, a3, a4⟩, _⟩, kb⟩ := HW.out wr (HF.out wr (Below.refl _ _)).2
      clear HK HF HBW HW HL HM H1 H2 HB HD hsz
      go_wp2
      go_ret
      exact ⟨by rw [HE.out]; rfl, kb⟩
end
end Go.Proofs.YtdibpoecdjnpaaaDoor

/-
  limnerref06.Diff, grids.Diff: what each returns: every two frames.
-/
namespace Go.Proofs.YtdibpoecdjnpaaaDoor
open Go.RowKit

section
variable {ok ok2 : Nat → Prop} {v u : Value} {a b : Frm}
set_option maxHeartbeats 4000000 in
theorem rdiff_no (w : World) (hA : FrameW ok w v a) (hB : FrameW ok2 w u b) (h : ¬ ((a.rows = b.rows ∧ a.cols = b.cols) ∧ validB a = true ∧ validB b = true)) :
    Calls Tryd.prog 23 #[v, u] w fun e w' => e = .returned (.int .i64 (-1)) ∧ Below w.heap.size w w' := by
  have HVA : Hid (∀ W, Below w.heap.size w W → Calls Tryd.prog 27 #[v] W fun e w' => e = .returned (.bool (validB a)) ∧ Below W.heap.size W w') := fun W hW => rvalid_any W (hA.below hW)
  have HVB : Hid (∀ W, Below w.heap.size w W → Calls Tryd.prog 27 #[u] W fun e w' => e = .returned (.bool (validB b)) ∧ Below W.heap.size W w') := fun W hW => rvalid_any W (hB.below hW)
  obtain ⟨ao, n, cap, rfl, hn, hcap, hS⟩ := hA
  obtain ⟨ao2, n2, cap2, rfl, hn2, hcap2, hS2⟩ := hB
  have HW := Lib.hid (fun W hW => two_boxes (w := w) (W := W) (ao := ao) (ao2 := ao2) (n := n) (cap := cap) (n2 := n2) (cap2 := cap2) (r := a.rows) (c := a.cols) (a := a.row) (b := a.col) (r2 := b.rows) (c2 := b.cols) (a2 := b.row) (b2 := b.col) hW)
  have H00 : Hid (Below w.heap.size w ((w.alloc (.cells #[.int .i64 a.rows, .int .i64 a.cols, .slice ao n cap, .int .i64 a.row, .int .i64 a.col] 28)).alloc (.cells #[.int .i64 b.rows, .int .i64 b.cols, .slice ao2 n2 cap2, .int .i64 b.row, .int .i64 b.col] 28))) := (HW.out _ (Below.refl _ _)).2
  clear hn hn2 hcap hcap2 hS hS2
  cases hva : validB a with
  | false =>
    rw [hva] at HVA
    clear h HVB hva
    go_enter Tryd.func23, Tryd.ntmps23
    go_wp2_with fail
    go_fit (HVA.out _ H00.out)
    rintro e w2 ⟨rfl, hb2⟩
    obtain ⟨⟨⟨c0, c1, c2, c3, c4⟩, ⟨d0, d1, d2, d3, d4⟩⟩, kb2⟩ := HW.out w2 (by simpa using hb2)
    clear hb2 HVA HW H00
    go_wp2
    go_ret
    exact ⟨rfl, kb2⟩
  | true =>
    cases hvb : validB b with
    | false =>
      rw [hva] at HVA
      rw [hvb] at HVB
      clear h hva hvb
      go_enter Tryd.func23, Tryd.ntmps23
      go_wp2_with fail
      go_fit (HVA.out _ H00.out)
      rintro e w2 ⟨rfl, hb2⟩
      obtain ⟨⟨⟨c0, c1, c2, c3, c4⟩, ⟨d0, d1, d2, d3, d4⟩⟩, kb2⟩ := HW.out w2 (by simpa using hb2)
      have HB2 := Lib.hid hb2
      clear hb2 HVA H00
      go_wp2_with fail
      go_fit (HVB.out _ kb2)
      rintro e w3 ⟨rfl, hb3⟩
      have hb4 := HB2.out.trans (hb3.mono HB2.out.size)
      clear c0 c1 c2 c3 c4 d0 d1 d2 d3 d4 kb2
      obtain ⟨⟨⟨c0, c1, c2, c3, c4⟩, ⟨d0, d1, d2, d3, d4⟩⟩, kb3⟩ := HW.out w3 (by simpa using hb4)
      clear hb3 hb4 HVB HW HB2
      go_wp2
      go_ret
      exact ⟨rfl, kb3⟩
    | true =>
      by_cases h1 : a.rows = b.rows
      · have h2 : ¬ a.cols = b.cols := fun h2 => h ⟨⟨h1, h2⟩, hva, hvb⟩
        have b1 : (a.rows != b.rows) = false := by simpa using h1
        have b2 : (a.cols != b.cols) = true := by simpa using h2
        rw [hva] at HVA
        rw [hvb] at HVB
        clear h hva hvb h1 h2
        go_enter Tryd.func23, Tryd.ntmps23
        go_wp2_with fail
        go_fit (HVA.out _ H00.out)
        rintro e w2 ⟨rfl, hb2⟩
        obtain ⟨⟨⟨c0, c1, c2, c3, c4⟩, ⟨d0, d1, d2, d3, d4⟩⟩, kb2⟩ := HW.out w2 (by simpa using hb2)
        have HB2 := Lib.hid hb2
        clear hb2 HVA H00
        go_wp2_with fail
        go_fit (HVB.out _ kb2)
        rintro e w3 ⟨rfl, hb3⟩
        have hb4 := HB2.out.trans (hb3.mono HB2.out.size)
        clear c0 c1 c2 c3 c4 d0 d1 d2 d3 d4 kb2
        obtain ⟨⟨⟨c0, c1, c2, c3, c4⟩, ⟨d0, d1, d2, d3, d4⟩⟩, kb3⟩ := HW.out w3 (by simpa using hb4)
        clear hb3 hb4 HVB HW HB2
        go_wp2
        go_ret
        exact ⟨rfl, kb3⟩
      · have b1 : (a.rows != b.rows) = true := by simpa using h1
        rw [hva] at HVA
        rw [hvb] at HVB
        clear h hva hvb h1
        go_enter Tryd.func23, Tryd.ntmps23
        go_wp2_with fail
        go_fit (HVA.out _ H00.out)
        rintro e w2 ⟨rfl, hb2⟩
        obtain ⟨⟨⟨c0, c1, c2, c3, c4⟩, ⟨d0, d1, d2, d3, d4⟩⟩, kb2⟩ := HW.out w2 (by simpa using hb2)
        have HB2 := Lib.hid hb2
        clear hb2 HVA H00
        go_wp2_with fail
        go_fit (HVB.out _ kb2)
        rintro e w3 ⟨rfl, hb3⟩
        have hb4 := HB2.out.trans (hb3.mono HB2.out.size)
        clear c0 c1 c2 c3 c4 d0 d1 d2 d3 d4 kb2
        obtain ⟨⟨⟨c0, c1, c2, c3, c4⟩, ⟨d0, d1, d2, d3, d4⟩⟩, kb3⟩ := HW.out w3 (by simpa using hb4)
        clear hb3 hb4 HVB HW HB2
        go_wp2
        go_ret
        exact ⟨rfl, kb3⟩

theorem rdiff_any (w : World) (hA : FrameW ok w v a) (hB : FrameW ok2 w u b) :
    Calls Tryd.prog 23 #[v, u] w fun e w' => e = .returned (.int .i64 (diffF a b)) ∧ Below w.heap.size w w' := by
  by_cases h : (a.rows = b.rows ∧ a.cols = b.cols) ∧ validB a = true ∧ validB b = true
  · have hf := valid_ok h.2.1
    have hg := valid_ok h.2.2
    rw [← h.1.1, ← h.1.2] at hg
    rw [diffF_is hf hg]
    exact rdiff_yes w hA hB hf hg
  · rw [diffF_no h]
    exact rdiff_no w hA hB h
theorem gdiff_any (w : World) (hA : FrameW ok w v a) (hB : FrameW ok2 w u b) (hL : LaidW w) :
    Calls Tryd.prog 22 #[v, u] w fun e w' => e = .returned (.int .i64 (diffF a b)) ∧ Below w.heap.size w w' := by
  by_cases h : (a.rows = b.rows ∧ a.cols = b.cols) ∧ validB a = true ∧ validB b = true
  · have hf := valid_ok h.2.1
    have hg := valid_ok h.2.2
    rw [← h.1.1, ← h.1.2] at hg
    rw [diffF_is hf hg]
    exact gdiff_yes w hA hB hL hf hg
  · rw [diffF_no h]
    exact gdiff_no w hA hB hL h
end
end Go.Proofs.YtdibpoecdjnpaaaDoor

/-
  math/bits: Mul64, Mul: one times a number.
-/
namespace Go.Proofs.YtdibpoecdjnpaaaDoor
open Go.RowKit

theorem and32 (y : Nat) (hy : y ≤ 1000000) : bits BinOp.and IntKind.u64 (y : Int) 4294967295 = (y : Int) := by
  have h := bits_and_u64_nat y 4294967295 (by omega) (by decide)
  rw [show (4294967295 : Nat) = 2 ^ 32 - 1 from rfl, Nat.and_two_pow_sub_one_eq_mod, Nat.mod_eq_of_lt (by omega)] at h
  exact h
set_option maxHeartbeats 1000000 in
theorem mul64_one (y : Nat) (w : World) (hy : y ≤ 1000000) :
    Calls Tryd.prog 61 #[.int .u64 1, .int .u64 (y : Int)] w fun e w' => e = .returned (.tuple #[.int .u64 0, .int .u64 (y : Int)]) ∧ w = w' := by
  have i1 : (y : Int) ≤ 1000000 := by omega
  have i2 : (0 : Int) ≤ (y : Int) := by omega
  have ha : bits BinOp.and IntKind.u64 1 4294967295 = 1 := by decide
  have hb : bits BinOp.and IntKind.u64 0 4294967295 = 0 := by decide
  have hc : bits BinOp.and IntKind.u64 (y : Int) 4294967295 = (y : Int) := and32 y hy
  have hd : (y : Int) / 4294967296 = 0 := by omega
  clear hy
  go_enter Tryd.func61, Tryd.ntmps61
  go_wp2
  go_ret2
  exact ⟨rfl, rfl⟩
set_option maxHeartbeats 1000000 in
theorem mul_one (y : Nat) (w : World) (hy : y ≤ 1000000) :
    Calls Tryd.prog 49 #[.int .u64 1, .int .u64 (y : Int)] w fun e w' => e = .returned (.tuple #[.int .u64 0, .int .u64 (y : Int)]) ∧ w = w' := by
  have H := Lib.hid (fun w => mul64_one y w hy)
  clear hy
  go_enter Tryd.func49, Tryd.ntmps49
  go_wp2_with fail
  go_fit (H.out _)
  rintro e w2 ⟨rfl, rfl⟩
  go_wp2
  go_ret2
  exact ⟨rfl, rfl⟩
end Go.Proofs.YtdibpoecdjnpaaaDoor
