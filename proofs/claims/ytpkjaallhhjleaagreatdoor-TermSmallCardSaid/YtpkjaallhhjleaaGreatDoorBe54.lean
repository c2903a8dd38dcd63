/-
  Texts of this proof, one behind the other; each begins with its own remark.
-/
import Derived.Deep.DeepFit
import Derived.Test.YtpkjaallhhjleaaGreatDoorBe12
import Derived.Test.YtpkjaallhhjleaaGreatDoorBe13
import Derived.Test.YtpkjaallhhjleaaGreatDoorBe26
/-
  slices.Equal of cells, grids.Same: what each returns.
-/
namespace Go.Proofs.YtpkjaallhhjleaaGreatDoor
open Go.RowKit

theorem take_eq {l m : List Cel} {i : Nat} {c d : Cel} (hc : l[i]? = some c) (hd : m[i]? = some d) (h : l.take i = m.take i) : l.take (i + 1) = m.take (i + 1) ↔ c = d := by
  have h1 := (List.getElem?_eq_some_iff.1 hc).1
  have h2 := (List.getElem?_eq_some_iff.1 hd).1
  rw [List.take_succ_eq_append_getElem h1, List.take_succ_eq_append_getElem h2, (List.getElem?_eq_some_iff.1 hc).2, (List.getElem?_eq_some_iff.1 hd).2, h]
  simp

set_option maxHeartbeats 4000000 in
theorem equal_any {ok ok2 : Nat → Prop} {ao ao2 : Option Addr} {n n2 cap cap2 : Nat} (l m : List Cel) (w : World) (hS : CelsW ok w (.slice ao n cap) l) (hS2 : CelsW ok2 w (.slice ao2 n2 cap2) m) (hn : n = l.length) (hn2 : n2 = m.length) (hl : n ≤ 1000000) :
    Calls Tryz.prog 38 #[.slice ao n cap, .slice ao2 n2 cap2] w fun e w' => e = .returned (.bool (decide (l = m))) ∧ Below w.heap.size w w' := by
  by_cases hne : n = n2
  · subst hne
    obtain ⟨B, hB⟩ : ∃ B, decide (l = m) = B := ⟨_, rfl⟩
    have H1 := Lib.hid hS
    have H2 := Lib.hid hS2
    have HL : Hid (l.length = n) := hn.symm
    have HM : Hid (m.length = n) := hn2.symm
    have HB : Hid (decide (l = m) = B) := hB
    rw [hB]
    clear hS hS2 hn hn2 hB
    go_enter Tryz.func38, Tryz.ntmps38
    go_wp2
    go_loopw [5, 13] (fun _ s13 wr => ∃ i : Nat, s13 = .int .i64 (i : Int) ∧ i ≤ n ∧ Hid (l.take i = m.take i) ∧ Below w.heap.size w wr) (fun _ s13 _ => n - (intOf s13).toNat)
    case atStart => exact ⟨0, rfl, Nat.zero_le _, rfl, Below.refl _ _⟩
    case round =>
      obtain ⟨i, rfl, hi, HT, hbw⟩ := hrel
      by_cases hin : i < n
      · obtain ⟨c, hc⟩ : ∃ c, l[i]? = some c := ⟨_, List.getElem?_eq_getElem (by rw [HL.out]; exact hin)⟩
        obtain ⟨d, hd⟩ : ∃ d, m[i]? = some d := ⟨_, List.getElem?_eq_getElem (by rw [HM.out]; exact hin)⟩
        have hte := take_eq hc hd HT.out
        obtain ⟨g, o, rfl, hcell⟩ := H1.out.ptr hc
        obtain ⟨g2, o2, rfl, hcell2⟩ := H2.out.ptr hd
        have k1 := (hcell i c hc).below hbw (hcell i c hc).lt
        have k2 := (hcell2 i d hd).below hbw (hcell2 i d hd).lt
        obtain ⟨a0, a1, a2, a3, a4, a5⟩ := k1
        obtain ⟨b0, b1, b2, b3, b4, b5⟩ := k2
        have hq := fun w => cel_neq c d w
        have i1 : (i : Int) < (n : Int) := by omega
        have i2 : (0 : Int) ≤ (i : Int) := by omega
        by_cases hcd : c = d
        · rw [decide_eq_true hcd] at hq
          have HT2 := Lib.hid (hte.2 hcd)
          clear hc hd hte hcell hcell2 hcd HT
          go_wp2
          go_quiet (fail)
          go_wp2
          go_roundw
          case rel => exact ⟨i + 1, by go_num, by omega, HT2, hbw.trans ⟨rfl, rfl, rfl, Nat.le_refl _, fun _ _ => rfl⟩⟩
          case measure => simp [intOf]; omega
        · rw [decide_eq_false hcd] at hq
          have HF : Hid (B = false) := by
            show _ = _
            rw [← HB.out]
            refine decide_eq_false fun k => hcd (hte.1 (by rw [k]))
          clear hc hd hte hcell hcell2 hcd HT
          go_wp2
          go_quiet (fail)
          go_wp2
          go_ret
          exact ⟨by rw [HF.out]; rfl, hbw.trans ⟨rfl, rfl, rfl, Nat.le_refl _, fun _ _ => rfl⟩⟩
      · have HF : Hid (B = true) := by
          show _ = _
          rw [← HB.out]
          refine decide_eq_true ?_
          have := HT.out
          rwa [List.take_of_length_le (by rw [HL.out]; omega), List.take_of_length_le (by rw [HM.out]; omega)] at this
        clear HT
        go_wp2
        go_ret
        exact ⟨by rw [HF.out]; rfl, hbw⟩
  · rw [decide_eq_false (show ¬ l = m from fun k => hne (by rw [hn, hn2, k]))]
    have b : ((n : Int) != (n2 : Int)) = true := by rw [bne_iff_ne]; omega
    clear hS hS2 hn hn2 hne
    go_enter Tryz.func38, Tryz.ntmps38
    go_wp2
    go_ret
    exact ⟨rfl, Below.refl _ _⟩

set_option maxHeartbeats 4000000 in
theorem gsame_any {ok ok2 : Nat → Prop} {v u : Value} {a b : Frm} (w : World) (hA : FrameW ok w v a) (hB : FrameW ok2 w u b) (hl : a.cells.length ≤ 1000000) :
    Calls Tryz.prog 16 #[v, u] w fun e w' => e = .returned (.bool (sameB a b)) ∧ Below w.heap.size w w' := by
  obtain ⟨ao, n, cap, rfl, hn, hcap, hS⟩ := hA
  obtain ⟨ao2, n2, cap2, rfl, hn2, hcap2, hS2⟩ := hB
  have HQ : Hid (∀ W, Below w.heap.size w W → Calls Tryz.prog 38 #[.slice ao n cap, .slice ao2 n2 cap2] W fun e w' => e = .returned (.bool (decide (a.cells = b.cells))) ∧ Below W.heap.size W w') := fun W hW =>
    equal_any a.cells b.cells W (hS.below hW) (hS2.below hW) hn hn2 (by omega)
  have HZ := Lib.hid (fun W => sameSize_any (ao := ao) (ao2 := ao2) (n := n) (cap := cap) (n2 := n2) (cap2 := cap2) a.rows a.cols a.row a.col b.rows b.cols b.row b.col W)
  have hd : sameB a b = ((((decide (a.rows = b.rows) && decide (a.cols = b.cols)) && decide (a.row = b.row)) && decide (a.col = b.col)) && decide (a.cells = b.cells)) := rfl
  rw [hd]
  clear hd hn hn2 hS hS2 hl
  obtain ⟨Q, hQ⟩ : ∃ Q, decide (a.cells = b.cells) = Q := ⟨_, rfl⟩
  obtain ⟨Z, hZ⟩ : ∃ Z, (decide (a.rows = b.rows) && decide (a.cols = b.cols)) = Z := ⟨_, rfl⟩
  rw [hQ] at HQ
  rw [hZ] at HZ
  rw [hQ, hZ]
  clear hQ hZ
  have HW : Hid (∀ W, Below (w.heap.size + 2) ((w.alloc (.cells #[.int .i64 a.rows, .int .i64 a.cols, .slice ao n cap, .int .i64 a.row, .int .i64 a.col] 35)).alloc (.cells #[.int .i64 b.rows, .int .i64 b.cols, .slice ao2 n2 cap2, .int .i64 b.row, .int .i64 b.col] 35)) W →
      (W.cell? ⟨w.heap.size, 2, none⟩ = some (.slice ao n cap) ∧ W.cell? ⟨w.heap.size, 3, none⟩ = some (.int .i64 a.row) ∧ W.cell? ⟨w.heap.size, 4, none⟩ = some (.int .i64 a.col)) ∧
      (W.cell? ⟨w.heap.size + 1, 2, none⟩ = some (.slice ao2 n2 cap2) ∧ W.cell? ⟨w.heap.size + 1, 3, none⟩ = some (.int .i64 b.row) ∧ W.cell? ⟨w.heap.size + 1, 4, none⟩ = some (.int .i64 b.col)) ∧ Below w.heap.size w W) := fun W hW => by
    have e2 := heap_alloc_new (w.alloc (.cells #[.int .i64 a.rows, .int .i64 a.cols, .slice ao n cap, .int .i64 a.row, .int .i64 a.col] 35)) (.cells #[.int .i64 b.rows, .int .i64 b.cols, .slice ao2 n2 cap2, .int .i64 b.row, .int .i64 b.col] 35)
    rw [World.size_alloc] at e2
    have e1 := (Below.heap_alloc (w.alloc (.cells #[.int .i64 a.rows, .int .i64 a.cols, .slice ao n cap, .int .i64 a.row, .int .i64 a.col] 35)) (.cells #[.int .i64 b.rows, .int .i64 b.cols, .slice ao2 n2 cap2, .int .i64 b.row, .int .i64 b.col] 35) w.heap.size (by rw [World.size_alloc]; omega)).trans (heap_alloc_new w (.cells #[.int .i64 a.rows, .int .i64 a.cols, .slice ao n cap, .int .i64 a.row, .int .i64 a.col] 35))
    have p1 := (hW.block w.heap.size (by omega)).trans e1
    have p2 := (hW.block (w.heap.size + 1) (by omega)).trans e2
    refine ⟨⟨?_, ?_, ?_⟩, ⟨?_, ?_, ?_⟩, (((Below.refl _ w).alloc (Nat.le_refl _) _).alloc (by simp) _).trans (hW.mono (by omega))⟩
    · rw [cell_of_row _ _ _ _ _ _ p1]; rfl
    · rw [cell_of_row _ _ _ _ _ _ p1]; rfl
    · rw [cell_of_row _ _ _ _ _ _ p1]; rfl
    · rw [cell_of_row _ _ _ _ _ _ p2]; rfl
    · rw [cell_of_row _ _ _ _ _ _ p2]; rfl
    · rw [cell_of_row _ _ _ _ _ _ p2]; rfl
  cases Z with
  | false =>
    simp only [Bool.false_and]
    clear HQ
    go_enter Tryz.func16, Tryz.ntmps16
    go_wp2_with fail
    go_fit (HZ.out _)
    rintro e w1 ⟨rfl, hb1⟩
    obtain ⟨_, _, kb⟩ := HW.out w1 (by simpa using hb1)
    clear HW HZ hb1
    go_wp2
    go_ret
    exact ⟨rfl, kb⟩
  | true =>
    simp only [Bool.true_and]
    by_cases h1 : a.row = b.row
    · have b1 : (a.row == b.row) = true := by simpa using h1
      rw [decide_eq_true h1, Bool.true_and]
      clear h1
      by_cases h2 : a.col = b.col
      · have b2 : (a.col == b.col) = true := by simpa using h2
        rw [decide_eq_true h2, Bool.true_and]
        clear h2
        go_enter Tryz.func16, Tryz.ntmps16
        go_wp2_with fail
        go_fit (HZ.out _)
        rintro e w1 ⟨rfl, hb1⟩
        obtain ⟨⟨a0, a1, a2⟩, ⟨b0, b1, b2⟩, kb⟩ := HW.out w1 (by simpa using hb1)
        clear HW HZ hb1
        go_wp2_with fail
        go_fit (HQ.out _ kb)
        rintro e w2 ⟨rfl, hb2⟩
        have kb2 := kb.trans (hb2.mono kb.size)
        clear HQ
        go_wp2
        go_ret
        exact ⟨rfl, kb2⟩
      · have b2 : (a.col == b.col) = false := by simpa using h2
        rw [decide_eq_false h2, Bool.false_and]
        clear h2 HQ
        go_enter Tryz.func16, Tryz.ntmps16
        go_wp2_with fail
        go_fit (HZ.out _)
        rintro e w1 ⟨rfl, hb1⟩
        obtain ⟨⟨a0, a1, a2⟩, ⟨b0, b1, b2⟩, kb⟩ := HW.out w1 (by simpa using hb1)
        clear HW HZ hb1
        go_wp2
        go_ret
        exact ⟨rfl, kb⟩
    · have b1 : (a.row == b.row) = false := by simpa using h1
      rw [decide_eq_false h1, Bool.false_and]
      clear h1 HQ
      go_enter Tryz.func16, Tryz.ntmps16
      go_wp2_with fail
      go_fit (HZ.out _)
      rintro e w1 ⟨rfl, hb1⟩
      obtain ⟨⟨a0, a1, a2⟩, ⟨b0, b1, b2⟩, kb⟩ := HW.out w1 (by simpa using hb1)
      clear HW HZ hb1
      go_wp2
      go_ret
      exact ⟨rfl, kb⟩
end Go.Proofs.YtpkjaallhhjleaaGreatDoor

/-
  limnerref06.Same: what it returns: for every two frames.
-/
namespace Go.Proofs.YtpkjaallhhjleaaGreatDoor
open Go.RowKit

/-- Two boxes of frames, side by side. -/
theorem two_boxes {w W : World} {ao ao2 : Option Addr} {n cap n2 cap2 : Nat} {r c a b r2 c2 a2 b2 : Int} (hW : Below (w.heap.size + 2) ((w.alloc (.cells #[.int .i64 r, .int .i64 c, .slice ao n cap, .int .i64 a, .int .i64 b] 35)).alloc (.cells #[.int .i64 r2, .int .i64 c2, .slice ao2 n2 cap2, .int .i64 a2, .int .i64 b2] 35)) W) :
    ((W.cell? ⟨w.heap.size, 0, none⟩ = some (.int .i64 r) ∧ W.cell? ⟨w.heap.size, 1, none⟩ = some (.int .i64 c) ∧ W.cell? ⟨w.heap.size, 2, none⟩ = some (.slice ao n cap) ∧ W.cell? ⟨w.heap.size, 3, none⟩ = some (.int .i64 a) ∧ W.cell? ⟨w.heap.size, 4, none⟩ = some (.int .i64 b)) ∧
     (W.cell? ⟨w.heap.size + 1, 0, none⟩ = some (.int .i64 r2) ∧ W.cell? ⟨w.heap.size + 1, 1, none⟩ = some (.int .i64 c2) ∧ W.cell? ⟨w.heap.size + 1, 2, none⟩ = some (.slice ao2 n2 cap2) ∧ W.cell? ⟨w.heap.size + 1, 3, none⟩ = some (.int .i64 a2) ∧ W.cell? ⟨w.heap.size + 1, 4, none⟩ = some (.int .i64 b2))) ∧ Below w.heap.size w W := by
  have e2 := heap_alloc_new (w.alloc (.cells #[.int .i64 r, .int .i64 c, .slice ao n cap, .int .i64 a, .int .i64 b] 35)) (.cells #[.int .i64 r2, .int .i64 c2, .slice ao2 n2 cap2, .int .i64 a2, .int .i64 b2] 35)
  rw [World.size_alloc] at e2
  have e1 := (Below.heap_alloc (w.alloc (.cells #[.int .i64 r, .int .i64 c, .slice ao n cap, .int .i64 a, .int .i64 b] 35)) (.cells #[.int .i64 r2, .int .i64 c2, .slice ao2 n2 cap2, .int .i64 a2, .int .i64 b2] 35) w.heap.size (by rw [World.size_alloc]; omega)).trans (heap_alloc_new w (.cells #[.int .i64 r, .int .i64 c, .slice ao n cap, .int .i64 a, .int .i64 b] 35))
  have p1 := (hW.block w.heap.size (by omega)).trans e1
  have p2 := (hW.block (w.heap.size + 1) (by omega)).trans e2
  refine ⟨⟨⟨?_, ?_, ?_, ?_, ?_⟩, ⟨?_, ?_, ?_, ?_, ?_⟩⟩, (((Below.refl _ w).alloc (Nat.le_refl _) _).alloc (by simp) _).trans (hW.mono (by omega))⟩ <;>
    first | (rw [cell_of_row _ _ _ _ _ _ p1]; rfl) | (rw [cell_of_row _ _ _ _ _ _ p2]; rfl)

set_option maxHeartbeats 8000000 in
theorem rsame_cells {ok ok2 : Nat → Prop} {v u : Value} {a b : Frm} (w : World) (hA : FrameW ok w v a) (hB : FrameW ok2 w u b) (hl : a.cells.length ≤ 1000000) (h1 : a.rows = b.rows) (h2 : a.cols = b.cols) (h3 : a.row = b.row) (h4 : a.col = b.col) (h5 : a.cells.length = b.cells.length) :
    Calls Tryz.prog 13 #[v, u] w fun e w' => e = .returned (.bool (decide (a.cells = b.cells))) ∧ Below w.heap.size w w' := by
  obtain ⟨ao, n, cap, rfl, hn, hcap, hS⟩ := hA
  obtain ⟨ao2, n2, cap2, rfl, hn2, hcap2, hS2⟩ := hB
  obtain rfl : n2 = n := by omega
  have b1 : (a.rows != b.rows) = false := by simpa using h1
  have b2 : (a.cols != b.cols) = false := by simpa using h2
  have b3 : (a.row != b.row) = false := by simpa using h3
  have b4 : (a.col != b.col) = false := by simpa using h4
  obtain ⟨l, hle⟩ : ∃ l, a.cells = l := ⟨_, rfl⟩
  obtain ⟨m, hme⟩ : ∃ m, b.cells = m := ⟨_, rfl⟩
  rw [hle] at hS hn hl
  rw [hme] at hS2 hn2
  rw [hle, hme]
  obtain ⟨B, hB⟩ : ∃ B, decide (l = m) = B := ⟨_, rfl⟩
  have H1 := Lib.hid hS
  have H2 := Lib.hid hS2
  have HL : Hid (l.length = n2) := hn.symm
  have HM : Hid (m.length = n2) := hn2.symm
  have HB : Hid (decide (l = m) = B) := hB
  have hn1 : n2 ≤ 1000000 := by omega
  rw [hB]
  clear hS hS2 hn hn2 hB h1 h2 h3 h4 h5 hle hme hl
  have HW := Lib.hid (fun W hW => two_boxes (w := w) (W := W) (ao := ao) (ao2 := ao2) (n := n2) (cap := cap) (n2 := n2) (cap2 := cap2) (r := a.rows) (c := a.cols) (a := a.row) (b := a.col) (r2 := b.rows) (c2 := b.cols) (a2 := b.row) (b2 := b.col) hW)
  go_enter Tryz.func13, Tryz.ntmps13
  go_wp2
  go_loopw [5] (fun s5 wr => ∃ i : Nat, s5 = .int .i64 (i : Int) ∧ i ≤ n2 ∧ Hid (l.take i = m.take i) ∧ Hid (Below (w.heap.size + 2) ((w.alloc (.cells #[.int .i64 a.rows, .int .i64 a.cols, .slice ao n2 cap, .int .i64 a.row, .int .i64 a.col] 35)).alloc (.cells #[.int .i64 b.rows, .int .i64 b.cols, .slice ao2 n2 cap2, .int .i64 b.row, .int .i64 b.col] 35)) wr)) (fun s5 _ => n2 - (intOf s5).toNat)
  case atStart => exact ⟨0, rfl, Nat.zero_le _, rfl, Below.refl _ _⟩
  case round =>
    obtain ⟨i, rfl, hi, HT, HBW⟩ := hrel
    obtain ⟨⟨⟨x0, x1, x2, x3, x4⟩, ⟨y0, y1, y2, y3, y4⟩⟩, hbw⟩ := HW.out wr HBW.out
    by_cases hin : i < n2
    · obtain ⟨c, hc⟩ : ∃ c, l[i]? = some c := ⟨_, List.getElem?_eq_getElem (by rw [HL.out]; exact hin)⟩
      obtain ⟨d, hd⟩ : ∃ d, m[i]? = some d := ⟨_, List.getElem?_eq_getElem (by rw [HM.out]; exact hin)⟩
      have hte := take_eq hc hd HT.out
      obtain ⟨g, o, rfl, hcell⟩ := H1.out.ptr hc
      obtain ⟨g2, o2, rfl, hcell2⟩ := H2.out.ptr hd
      have k1 := (hcell i c hc).below hbw (hcell i c hc).lt
      have k2 := (hcell2 i d hd).below hbw (hcell2 i d hd).lt
      obtain ⟨a0, a1, a2, a3, a4, a5⟩ := k1
      obtain ⟨e0, e1, e2, e3, e4, e5⟩ := k2
      have hq := fun w => cel_neq c d w
      have i1 : (i : Int) < (n2 : Int) := by omega
      have i2 : (0 : Int) ≤ (i : Int) := by omega
      have HBW2 : Hid (Below w.heap.size w wr) := hbw
      clear hbw HW
      by_cases hcd : c = d
      · rw [decide_eq_true hcd] at hq
        have HT2 := Lib.hid (hte.2 hcd)
        clear hc hd hte hcell hcell2 hcd HT
        go_wp2
        go_quiet (fail)
        go_wp2
        go_roundw
        case rel => exact ⟨i + 1, by go_num, by omega, HT2, HBW.out.trans ⟨rfl, rfl, rfl, Nat.le_refl _, fun _ _ => rfl⟩⟩
        case measure => simp [intOf]; omega
      · rw [decide_eq_false hcd] at hq
        have HF : Hid (B = false) := by
          show _ = _
          rw [← HB.out]
          refine decide_eq_false fun k => hcd (hte.1 (by rw [k]))
        clear hc hd hte hcell hcell2 hcd HT
        go_wp2
        go_quiet (fail)
        go_wp2
        go_ret
        exact ⟨by rw [HF.out]; rfl, HBW2.out.trans ⟨rfl, rfl, rfl, Nat.le_refl _, fun _ _ => rfl⟩⟩
    · have HF : Hid (B = true) := by
        show _ = _
        rw [← HB.out]
        refine decide_eq_true ?_
        have := HT.out
        rwa [List.take_of_length_le (by rw [HL.out]; omega), List.take_of_length_le (by rw [HM.out]; omega)] at this
      have HBW2 : Hid (Below w.heap.size w wr) := hbw
      clear HT hbw HW
      go_wp2
      go_ret
      exact ⟨by rw [HF.out]; rfl, HBW2.out⟩
end Go.Proofs.YtpkjaallhhjleaaGreatDoor

/-
  limnerref06.Same: what it returns: for every two frames, also those of two sizes.
-/
namespace Go.Proofs.YtpkjaallhhjleaaGreatDoor
open Go.RowKit

set_option maxHeartbeats 8000000 in
theorem rsame_any {ok ok2 : Nat → Prop} {v u : Value} {a b : Frm} (w : World) (hA : FrameW ok w v a) (hB : FrameW ok2 w u b) (hl : a.cells.length ≤ 1000000) :
    Calls Tryz.prog 13 #[v, u] w fun e w' => e = .returned (.bool (sameB a b)) ∧ Below w.heap.size w w' := by
  by_cases h1 : a.rows = b.rows
  · by_cases h2 : a.cols = b.cols
    · by_cases h3 : a.row = b.row
      · by_cases h4 : a.col = b.col
        · by_cases h5 : a.cells.length = b.cells.length
          · have := rsame_cells w hA hB hl h1 h2 h3 h4 h5
            rwa [show decide (a.cells = b.cells) = sameB a b by unfold sameB; rw [decide_eq_true h1, decide_eq_true h2, decide_eq_true h3, decide_eq_true h4]; rfl] at this
          · have hF : sameB a b = false := Bool.eq_false_iff.2 fun k => h5 (by rw [(sameB_iff a b).1 k])
            rw [hF]
            obtain ⟨ao, n, cap, rfl, hn, hcap, hS⟩ := hA
            obtain ⟨ao2, n2, cap2, rfl, hn2, hcap2, hS2⟩ := hB
            have b1 : (a.rows != b.rows) = false := by simpa using h1
            have b2 : (a.cols != b.cols) = false := by simpa using h2
            have b3 : (a.row != b.row) = false := by simpa using h3
            have b4 : (a.col != b.col) = false := by simpa using h4
            have b5 : ((n : Int) != (n2 : Int)) = true := by rw [bne_iff_ne]; omega
            clear hS hS2 hn hn2 h1 h2 h3 h4 h5 hF
            go_enter Tryz.func13, Tryz.ntmps13
            go_wp2
            go_ret
            exact ⟨rfl, ((Below.refl _ w).alloc (Nat.le_refl _) _).alloc (by simp) _⟩
        · have hF : sameB a b = false := Bool.eq_false_iff.2 fun k => h4 (by rw [(sameB_iff a b).1 k])
          rw [hF]
          obtain ⟨ao, n, cap, rfl, hn, hcap, hS⟩ := hA
          obtain ⟨ao2, n2, cap2, rfl, hn2, hcap2, hS2⟩ := hB
          have b1 : (a.rows != b.rows) = false := by simpa using h1
          have b2 : (a.cols != b.cols) = false := by simpa using h2
          have b3 : (a.row != b.row) = false := by simpa using h3
          have b4 : (a.col != b.col) = true := by simpa using h4
          clear hS hS2 hn hn2 h1 h2 h3 h4 hF
          go_enter Tryz.func13, Tryz.ntmps13
          go_wp2
          go_ret
          exact ⟨rfl, ((Below.refl _ w).alloc (Nat.le_refl _) _).alloc (by simp) _⟩
      · have hF : sameB a b = false := Bool.eq_false_iff.2 fun k => h3 (by rw [(sameB_iff a b).1 k])
        rw [hF]
        obtain ⟨ao, n, cap, rfl, hn, hcap, hS⟩ := hA
        obtain ⟨ao2, n2, cap2, rfl, hn2, hcap2, hS2⟩ := hB
        have b1 : (a.rows != b.rows) = false := by simpa using h1
        have b2 : (a.cols != b.cols) = false := by simpa using h2
        have b3 : (a.row != b.row) = true := by simpa using h3
        clear hS hS2 hn hn2 h1 h2 h3 hF
        go_enter Tryz.func13, Tryz.ntmps13
        go_wp2
        go_ret
        exact ⟨rfl, ((Below.refl _ w).alloc (Nat.le_refl _) _).alloc (by simp) _⟩
    · have hF : sameB a b = false := Bool.eq_false_iff.2 fun k => h2 (by rw [(sameB_iff a b).1 k])
      rw [hF]
      obtain ⟨ao, n, cap, rfl, hn, hcap, hS⟩ := hA
      obtain ⟨ao2, n2, cap2, rfl, hn2, hcap2, hS2⟩ := hB
      have b1 : (a.rows != b.rows) = false := by simpa using h1
      have b2 : (a.cols != b.cols) = true := by simpa using h2
      clear hS hS2 hn hn2 h1 h2 hF
      go_enter Tryz.func13, Tryz.ntmps13
      go_wp2
      go_ret
      exact ⟨rfl, ((Below.refl _ w).alloc (Nat.le_refl _) _).alloc (by simp) _⟩
  · have hF : sameB a b = false := Bool.eq_false_iff.2 fun k => h1 (by rw [(sameB_iff a b).1 k])
    rw [hF]
    obtain ⟨ao, n, cap, rfl, hn, hcap, hS⟩ := hA
    obtain ⟨ao2, n2, cap2, rfl, hn2, hcap2, hS2⟩ := hB
    have b1 : (a.rows != b.rows) = true := by simpa using h1
    clear hS hS2 hn hn2 h1 hF
    go_enter Tryz.func13, Tryz.ntmps13
    go_wp2
    go_ret
    exact ⟨rfl, ((Below.refl _ w).alloc (Nat.le_refl _) _).alloc (by simp) _⟩
end Go.Proofs.YtpkjaallhhjleaaGreatDoor
