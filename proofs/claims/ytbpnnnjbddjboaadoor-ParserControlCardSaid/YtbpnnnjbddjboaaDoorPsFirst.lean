/-
  parser.first: what it returns: for every byte.
-/
import Derived.Test.YtbpnnnjbddjboaaDoorPsFull
import Derived.Test.YtbpnnnjbddjboaaDoorPsParams
import Derived.Test.YtbpnnnjbddjboaaDoorPsBox
namespace Go.Proofs.YtbpnnnjbddjboaaDoor
open Go.RowKit

/-- What the package variables hold. -/
structure LaidP (w : World) : Prop where
  tab : TabU w
  pow : PowW w
theorem LaidP.below {w w' : World} (h : LaidP w) (hb : Below w.heap.size w w') : LaidP w' := ⟨h.tab.below hb, h.pow.below hb⟩

set_option maxRecDepth 20000 in
set_option maxHeartbeats 4000000 in
theorem first_any (b : Nat) (w : World) (hb : b < 256) (hT : TabU w) :
    Calls Tryd.prog 15 #[.int .u8 (b : Int)] w (FedW w (firstN b)) := by
  obtain ⟨R, hR⟩ : ∃ R, firstN b = R := ⟨_, rfl⟩
  rw [hR]
  have hR := Lib.hid hR
  have H1 := Lib.hid (fun w => textOf_any b w)
  have HW : Hid (∀ W0, w.alloc (.cells #[.int .i64 0, .string ⟨#[]⟩] 24) = W0 → Below w.heap.size w W0 ∧ W0.heap.size = w.heap.size + 1 ∧ blk2 W0 w.heap.size (.int .i64 0) (.string ⟨#[]⟩)) := fun W0 h => by rw [← h]; exact box_new w _ _
  have HS : Hid (∀ W, Below w.heap.size w W → Calls Tryd.prog 31 #[.string (oneB b)] W fun e w' => e = .returned (.bool (begB (oneB b))) ∧ Below W.heap.size W w') := fun W hW => starts_any (oneB b) W (hT.below hW) (by rw [one_size]; decide) (by rw [one_size]; decide)
  have HN := Lib.hid (fun W => invalid_any W)
  have HC := Lib.hid (fun W => control_any b W hb)
  have HH := Lib.hid (fun W => shown_any b W)
  clear hT
  by_cases h27 : b = 27
  · subst h27
    replace hR : Hid (R = (.esc, [])) := by
      show _ = _
      rw [← hR.out]
      unfold firstN
      rw [if_pos rfl]
    clear HN HC HH HS
    go_enter Tryd.func15, Tryd.ntmps15
    go_wp2_with fail
    obtain ⟨W0, hW0⟩ : ∃ W0, w.alloc (.cells #[.int .i64 0, .string ⟨#[]⟩] 24) = W0 := ⟨_, rfl⟩
    obtain ⟨hb0, hs0, hB0⟩ := HW.out W0 hW0
    rw [hW0]
    clear HW hW0
    go_fit (H1.out _)
    rintro e w1 ⟨rfl, hb1⟩
    have hB1 := hB0.below hb1
    have hbw1 := hb0.trans (hb1.mono hb0.size)
    have hs1 : w.heap.size + 1 ≤ w1.heap.size := by rw [← hs0]; exact hb1.size
    clear hB0 hb0 hs0 hb1 H1
    obtain ⟨⟨c0, c1⟩, z0, z1⟩ := hB1.cells
    go_wp2_with fail
    obtain ⟨⟨y0, y1⟩, q1, q2⟩ := box_end (w := w) (w1 := w1) (Q := w.heap.size) (.int .i64 2) (.string ⟨#[]⟩) hB1 (Nat.le_refl _) hbw1 (ActsW.nil _ _)
    rw [hR.out]
    exact bodyPost_ret (v := .tuple #[.agg #[.int .i64 2, .string ⟨#[]⟩], .slice none 0 0]) (by simp [results, Tryd.results15, go_sem, y0, y1]) rfl ⟨_, rfl, q2, q1⟩
  · have e27 : ((b : Int) == 27) = false := beq_false_of_ne (by omega)
    by_cases h32 : b < 32
    · have i32 : (b : Int) < 32 := by omega
      replace hR : Hid (R = (.zero, [(2, b, [], 0)])) := by
        show _ = _
        rw [← hR.out]
        unfold firstN
        rw [if_neg h27, if_pos (.inl h32)]
      clear HN HH HS
      go_enter Tryd.func15, Tryd.ntmps15
      go_wp2_with fail
      obtain ⟨W0, hW0⟩ : ∃ W0, w.alloc (.cells #[.int .i64 0, .string ⟨#[]⟩] 24) = W0 := ⟨_, rfl⟩
      obtain ⟨hb0, hs0, hB0⟩ := HW.out W0 hW0
      rw [hW0]
      clear HW hW0
      go_fit (H1.out _)
      rintro e w1 ⟨rfl, hb1⟩
      have hB1 := hB0.below hb1
      have hbw1 := hb0.trans (hb1.mono hb0.size)
      have hs1 : w.heap.size + 1 ≤ w1.heap.size := by rw [← hs0]; exact hb1.size
      clear hB0 hb0 hs0 hb1 H1
      obtain ⟨⟨c0, c1⟩, z0, z1⟩ := hB1.cells
      go_wp2_with fail
      go_fit (HC.out _)
      rintro e w2 ⟨v, rfl, hA, _, hb2⟩
      have hB2 := hB1.below hb2
      have hbw2 := hbw1.trans (hb2.mono hbw1.size)
      clear hB1 hb2 c0 c1 z0 z1
      obtain ⟨⟨c0, c1⟩, z0, z1⟩ := hB2.cells
      go_wp2_with fail
      obtain ⟨⟨y0, y1⟩, q1, q2⟩ := box_end (w := w) (w1 := w2) (Q := w.heap.size) (.int .i64 0) (.string ⟨#[]⟩) hB2 (Nat.le_refl _) hbw2 (acts_from hA hs1)
      rw [hR.out]
      exact bodyPost_ret (v := .tuple #[.agg #[.int .i64 0, .string ⟨#[]⟩], v]) (by simp [results, Tryd.results15, go_sem, y0, y1]) rfl ⟨_, rfl, q2, q1⟩
    · by_cases h127 : b = 127
      · subst h127
        replace hR : Hid (R = (.zero, [(2, 127, [], 0)])) := by
          show _ = _
          rw [← hR.out]
          unfold firstN
          rw [if_neg h27, if_pos (.inr rfl)]
        clear HN HH HS
        go_enter Tryd.func15, Tryd.ntmps15
        go_wp2_with fail
        obtain ⟨W0, hW0⟩ : ∃ W0, w.alloc (.cells #[.int .i64 0, .string ⟨#[]⟩] 24) = W0 := ⟨_, rfl⟩
        obtain ⟨hb0, hs0, hB0⟩ := HW.out W0 hW0
        rw [hW0]
        clear HW hW0
        go_fit (H1.out _)
        rintro e w1 ⟨rfl, hb1⟩
        have hB1 := hB0.below hb1
        have hbw1 := hb0.trans (hb1.mono hb0.size)
        have hs1 : w.heap.size + 1 ≤ w1.heap.size := by rw [← hs0]; exact hb1.size
        clear hB0 hb0 hs0 hb1 H1
        obtain ⟨⟨c0, c1⟩, z0, z1⟩ := hB1.cells
        go_wp2_with fail
        go_fit (HC.out _)
        rintro e w2 ⟨v, rfl, hA, _, hb2⟩
        have hB2 := hB1.below hb2
        have hbw2 := hbw1.trans (hb2.mono hbw1.size)
        clear hB1 hb2 c0 c1 z0 z1
        obtain ⟨⟨c0, c1⟩, z0, z1⟩ := hB2.cells
        go_wp2_with fail
        obtain ⟨⟨y0, y1⟩, q1, q2⟩ := box_end (w := w) (w1 := w2) (Q := w.heap.size) (.int .i64 0) (.string ⟨#[]⟩) hB2 (Nat.le_refl _) hbw2 (acts_from hA hs1)
        rw [hR.out]
        exact bodyPost_ret (v := .tuple #[.agg #[.int .i64 0, .string ⟨#[]⟩], v]) (by simp [results, Tryd.results15, go_sem, y0, y1]) rfl ⟨_, rfl, q2, q1⟩
      · have i32 : (32 : Int) ≤ (b : Int) := by omega
        have e127 : ((b : Int) == 127) = false := beq_false_of_ne (by omega)
        by_cases h128 : b < 128
        · have i128 : (b : Int) < 128 := by omega
          replace hR : Hid (R = (.zero, [(1, b, [], 0)])) := by
            show _ = _
            rw [← hR.out]
            unfold firstN
            rw [if_neg h27, if_neg (by omega), if_pos h128]
          clear HN HC HS
          go_enter Tryd.func15, Tryd.ntmps15
          go_wp2_with fail
          obtain ⟨W0, hW0⟩ : ∃ W0, w.alloc (.cells #[.int .i64 0, .string ⟨#[]⟩] 24) = W0 := ⟨_, rfl⟩
          obtain ⟨hb0, hs0, hB0⟩ := HW.out W0 hW0
          rw [hW0]
          clear HW hW0
          go_fit (H1.out _)
          rintro e w1 ⟨rfl, hb1⟩
          have hB1 := hB0.below hb1
          have hbw1 := hb0.trans (hb1.mono hb0.size)
          have hs1 : w.heap.size + 1 ≤ w1.heap.size := by rw [← hs0]; exact hb1.size
          clear hB0 hb0 hs0 hb1 H1
          obtain ⟨⟨c0, c1⟩, z0, z1⟩ := hB1.cells
          go_wp2_with fail
          go_fit (HH.out _)
          rintro e w2 ⟨v, rfl, hA, _, hb2⟩
          have hB2 := hB1.below hb2
          have hbw2 := hbw1.trans (hb2.mono hbw1.size)
          clear hB1 hb2 c0 c1 z0 z1
          obtain ⟨⟨c0, c1⟩, z0, z1⟩ := hB2.cells
          go_wp2_with fail
          obtain ⟨⟨y0, y1⟩, q1, q2⟩ := box_end (w := w) (w1 := w2) (Q := w.heap.size) (.int .i64 0) (.string ⟨#[]⟩) hB2 (Nat.le_refl _) hbw2 (acts_from hA hs1)
          rw [hR.out]
          exact bodyPost_ret (v := .tuple #[.agg #[.int .i64 0, .string ⟨#[]⟩], v]) (by simp [results, Tryd.results15, go_sem, y0, y1]) rfl ⟨_, rfl, q2, q1⟩
        · have i128 : (128 : Int) ≤ (b : Int) := by omega
          by_cases hst : begB (oneB b) = true
          · replace hR : Hid (R = (.start (oneB b), [])) := by
              show _ = _
              rw [← hR.out]
              unfold firstN
              rw [if_neg h27, if_neg (by omega), if_neg h128, if_pos hst]
            rw [hst] at HS
            clear HN HC HH
            go_enter Tryd.func15, Tryd.ntmps15
            go_wp2_with fail
            obtain ⟨W0, hW0⟩ : ∃ W0, w.alloc (.cells #[.int .i64 0, .string ⟨#[]⟩] 24) = W0 := ⟨_, rfl⟩
            obtain ⟨hb0, hs0, hB0⟩ := HW.out W0 hW0
            rw [hW0]
            clear HW hW0
            go_fit (H1.out _)
            rintro e w1 ⟨rfl, hb1⟩
            have hB1 := hB0.below hb1
            have hbw1 := hb0.trans (hb1.mono hb0.size)
            have hs1 : w.heap.size + 1 ≤ w1.heap.size := by rw [← hs0]; exact hb1.size
            clear hB0 hb0 hs0 hb1 H1
            obtain ⟨⟨c0, c1⟩, z0, z1⟩ := hB1.cells
            go_wp2_with fail
            go_fit (HS.out _ hbw1)
            rintro e w2 ⟨rfl, hb2⟩
            have hB2 := hB1.below hb2
            have hbw2 := hbw1.trans (hb2.mono hbw1.size)
            have hs2 : w.heap.size + 1 ≤ w2.heap.size := Nat.le_trans hs1 hb2.size
            clear hB1 hb2 c0 c1 z0 z1 HS hbw1 hs1
            obtain ⟨⟨c0, c1⟩, z0, z1⟩ := hB2.cells
            go_wp2_with fail
            obtain ⟨⟨y0, y1⟩, q1, q2⟩ := box_end (w := w) (w1 := w2) (Q := w.heap.size) (.int .i64 1) (.string (oneB b)) hB2 (Nat.le_refl _) hbw2 (ActsW.nil _ _)
            rw [hR.out]
            exact bodyPost_ret (v := .tuple #[.agg #[.int .i64 1, .string (oneB b)], .slice none 0 0]) (by simp [results, Tryd.results15, go_sem, y0, y1]) rfl ⟨_, rfl, q2, q1⟩
          · have hsf : begB (oneB b) = false := by cases h : begB (oneB b) <;> simp_all
            replace hR : Hid (R = (.zero, [badA])) := by
              show _ = _
              rw [← hR.out]
              unfold firstN
              rw [if_neg h27, if_neg (by omega), if_neg h128, if_neg hst]
            rw [hsf] at HS
            clear HC HH
            go_enter Tryd.func15, Tryd.ntmps15
            go_wp2_with fail
            obtain ⟨W0, hW0⟩ : ∃ W0, w.alloc (.cells #[.int .i64 0, .string ⟨#[]⟩] 24) = W0 := ⟨_, rfl⟩
            obtain ⟨hb0, hs0, hB0⟩ := HW.out W0 hW0
            rw [hW0]
            clear HW hW0
            go_fit (H1.out _)
            rintro e w1 ⟨rfl, hb1⟩
            have hB1 := hB0.below hb1
            have hbw1 := hb0.trans (hb1.mono hb0.size)
            have hs1 : w.heap.size + 1 ≤ w1.heap.size := by rw [← hs0]; exact hb1.size
            clear hB0 hb0 hs0 hb1 H1
            obtain ⟨⟨c0, c1⟩, z0, z1⟩ := hB1.cells
            go_wp2_with fail
            go_fit (HS.out _ hbw1)
            rintro e w2 ⟨rfl, hb2⟩
            have hB2 := hB1.below hb2
            have hbw2 := hbw1.trans (hb2.mono hbw1.size)
            have hs2 : w.heap.size + 1 ≤ w2.heap.size := Nat.le_trans hs1 hb2.size
            clear hB1 hb2 c0 c1 z0 z1 HS hbw1 hs1
            obtain ⟨⟨c0, c1⟩, z0, z1⟩ := hB2.cells
            go_wp2_with fail
            go_fit (HN.out _)
            rintro e w3 ⟨v, rfl, hA, _, hb3⟩
            have hB3 := hB2.below hb3
            have hbw3 := hbw2.trans (hb3.mono hbw2.size)
            clear hB2 hb3 c0 c1 z0 z1
            obtain ⟨⟨c0, c1⟩, z0, z1⟩ := hB3.cells
            go_wp2_with fail
            obtain ⟨⟨y0, y1⟩, q1, q2⟩ := box_end (w := w) (w1 := w3) (Q := w.heap.size) (.int .i64 0) (.string ⟨#[]⟩) hB3 (Nat.le_refl _) hbw3 (acts_from hA hs2)
            rw [hR.out]
            exact bodyPost_ret (v := .tuple #[.agg #[.int .i64 0, .string ⟨#[]⟩], v]) (by simp [results, Tryd.results15, go_sem, y0, y1]) rfl ⟨_, rfl, q2, q1⟩
end Go.Proofs.YtbpnnnjbddjboaaDoor
