/-
  parser.behindEscape: what it returns: for every byte.
-/
import Derived.Test.YtbpnnnjbddjboaaDoorPsWithin
namespace Go.Proofs.YtbpnnnjbddjboaaDoor
open Go.RowKit

/-- What one of Feed's parts returns, in letters. -/
theorem fed_letters {w : World} {f : FuncId} {args : Array Value} {r : Ps × List Ac} (h : Calls Tryd.prog f args w (FedW w r)) {n : Int} {s : ByteArray} {l : List Ac} (hn : stN r.1 = n) (hs : stB r.1 = s) (hl : r.2 = l) :
    Calls Tryd.prog f args w fun e u => ∃ v, e = .returned (.tuple #[.agg #[.int .i64 n, .string s], v]) ∧ ActsW (FromP w.heap.size) u v l ∧ Below w.heap.size w u := by
  subst hn hs hl
  exact h

set_option maxRecDepth 20000 in
set_option maxHeartbeats 4000000 in
theorem esc_any (b : Nat) (w : World) (hb : b < 256) :
    Calls Tryd.prog 16 #[.agg #[.int .i64 2, .string ⟨#[]⟩], .int .u8 (b : Int)] w (FedW w (escN b)) := by
  obtain ⟨R, hR⟩ : ∃ R, escN b = R := ⟨_, rfl⟩
  rw [hR]
  have hR := Lib.hid hR
  have HW : Hid (∀ W0, (w.alloc (.cells #[.int .i64 2, .string ⟨#[]⟩] 24)).alloc (.cells #[.int .i64 0, .string ⟨#[]⟩] 24) = W0 → Below w.heap.size w W0 ∧ W0.heap.size = w.heap.size + 2 ∧ blk2 W0 w.heap.size (.int .i64 2) (.string ⟨#[]⟩) ∧ blk2 W0 (w.heap.size + 1) (.int .i64 0) (.string ⟨#[]⟩)) := fun W0 h => by rw [← h]; exact box_new2 w _ _ _ _
  have HN := Lib.hid (fun W => invalid_any W)
  have HI := Lib.hid (fun W => within_any .esc b W hb)
  by_cases h32 : b < 32
  · have i32 : (b : Int) < 32 := by omega
    replace hR : Hid (R = withinN .esc b) := by
      show _ = _
      rw [← hR.out]
      unfold escN
      rw [if_pos h32]
    obtain ⟨T, hT⟩ : ∃ T, withinN .esc b = T := ⟨_, rfl⟩
    rw [hT] at HI hR
    obtain ⟨n, hn⟩ : ∃ n, stN T.1 = n := ⟨_, rfl⟩
    obtain ⟨s, hs⟩ : ∃ s, stB T.1 = s := ⟨_, rfl⟩
    have HI2 : Hid (∀ W, Calls Tryd.prog 33 #[.agg #[.int .i64 2, .string ⟨#[]⟩], .int .u8 (b : Int)] W fun e u => ∃ v, e = .returned (.tuple #[.agg #[.int .i64 n, .string s], v]) ∧ ActsW (FromP W.heap.size) u v T.2 ∧ Below W.heap.size W u) := fun W => fed_letters (HI.out W) hn hs rfl
    have HV : Hid (stV T.1 = .agg #[.int .i64 n, .string s]) := by show _ = _; rw [← hn, ← hs]; rfl
    clear HN HI hn hs hT
    go_enter Tryd.func16, Tryd.ntmps16
    go_wp2_with fail
    obtain ⟨W0, hW0⟩ : ∃ W0, (w.alloc (.cells #[.int .i64 2, .string ⟨#[]⟩] 24)).alloc (.cells #[.int .i64 0, .string ⟨#[]⟩] 24) = W0 := ⟨_, rfl⟩
    obtain ⟨hb0, hs0, hBP, hB0⟩ := HW.out W0 hW0
    rw [hW0]
    clear HW hW0
    obtain ⟨⟨p0, p1⟩, r0, r1⟩ := hBP.cells
    go_wp2_with fail
    go_fit (HI2.out _)
    rintro e w1 ⟨v, rfl, hA, hb1⟩
    have hB1 := hB0.below hb1
    have hbw1 := hb0.trans (hb1.mono hb0.size)
    rw [hs0] at hA
    clear hB0 hBP hb0 hs0 hb1 p0 p1 r0 r1 HI2
    obtain ⟨⟨c0, c1⟩, z0, z1⟩ := hB1.cells
    go_wp2_with fail
    obtain ⟨⟨y0, y1⟩, q1, q2⟩ := box_end (w := w) (w1 := w1) (Q := w.heap.size + 1) (.int .i64 n) (.string s) hB1 (Nat.le_succ _) hbw1 (hA)
    rw [hR.out]
    exact bodyPost_ret (v := .tuple #[.agg #[.int .i64 n, .string s], v]) (by simp [results, Tryd.results16, go_sem, y0, y1]) rfl ⟨_, by rw [HV.out], q2, q1⟩
  · have i32 : (32 : Int) ≤ (b : Int) := by omega
    by_cases h91 : b = 91
    · subst h91
      replace hR : Hid (R = (.seq [] none, [])) := by
        show _ = _
        rw [← hR.out]
        unfold escN
        rw [if_neg h32, if_pos rfl]
      clear HN HI
      obtain ⟨q1, _, _, hQ⟩ := box_new2 w (.int .i64 2) (.int .i64 3) (.string ⟨#[]⟩) (.string ⟨#[]⟩)
      obtain ⟨⟨y0, y1⟩, _⟩ := hQ.cells
      clear HW
      go_enter Tryd.func16, Tryd.ntmps16
      go_wp2_with fail
      rw [hR.out]
      exact bodyPost_ret (v := .tuple #[.agg #[.int .i64 3, .string ⟨#[]⟩], .slice none 0 0]) (by simp [results, Tryd.results16, go_sem, y0, y1]) rfl ⟨_, rfl, ActsW.nil _ _, q1⟩
    · have e91 : ((b : Int) == 91) = false := beq_false_of_ne (by omega)
      by_cases h48 : 48 ≤ b ∧ b < 127
      · have i48 : (48 : Int) ≤ (b : Int) := by omega
        have i127 : (b : Int) < 127 := by omega
        replace hR : Hid (R = (.zero, [(4, 0, [], b)])) := by
          show _ = _
          rw [← hR.out]
          unfold escN
          rw [if_neg h32, if_neg h91, if_pos h48]
        clear HN HI
        go_enter Tryd.func16, Tryd.ntmps16
        go_wp2_with fail
        obtain ⟨W0, hW0⟩ : ∃ W0, (w.alloc (.cells #[.int .i64 2, .string ⟨#[]⟩] 24)).alloc (.cells #[.int .i64 0, .string ⟨#[]⟩] 24) = W0 := ⟨_, rfl⟩
        obtain ⟨hb0, hs0, hBP, hB0⟩ := HW.out W0 hW0
        rw [hW0]
        clear HW hW0
        have hA : ActsW (FromP (w.heap.size + 1 + 1)) (W0.alloc (.cells #[.int .i64 4, .int .i32 0, .slice none 0 0, .int .u8 (b : Int)] 34)) (.slice (some ⟨W0.heap.size, 0, none⟩) 1 1) [(4, 0, [], b)] := acts_one (by omega) (NumsW.nil _ _)
        have hb1 := fun o => (Below.refl W0.heap.size W0).alloc (Nat.le_refl _) o
        have hB1 := hB0.below (hb1 (.cells #[.int .i64 4, .int .i32 0, .slice none 0 0, .int .u8 (b : Int)] 34))
        have hbw1 := hb0.trans ((hb1 (.cells #[.int .i64 4, .int .i32 0, .slice none 0 0, .int .u8 (b : Int)] 34)).mono hb0.size)
        obtain ⟨⟨c0, c1⟩, z0, z1⟩ := hB1.cells
        clear hb1
        go_wp2_with fail
        rw [hR.out]
        exact bodyPost_ret (v := .tuple #[.agg #[.int .i64 0, .string ⟨#[]⟩], .slice (some ⟨W0.heap.size, 0, none⟩) 1 1]) (by simp [results, Tryd.results16, go_sem, c0, c1]) rfl ⟨_, rfl, acts_from hA (by omega), hbw1⟩
      · clear HI
        replace hR : Hid (R = (.zero, [badA])) := by
          show _ = _
          rw [← hR.out]
          unfold escN
          rw [if_neg h32, if_neg h91, if_neg h48]
        by_cases g48 : 48 ≤ b
        · have i48 : (48 : Int) ≤ (b : Int) := by omega
          have i127 : (127 : Int) ≤ (b : Int) := by omega
          go_enter Tryd.func16, Tryd.ntmps16
          go_wp2_with fail
          obtain ⟨W0, hW0⟩ : ∃ W0, (w.alloc (.cells #[.int .i64 2, .string ⟨#[]⟩] 24)).alloc (.cells #[.int .i64 0, .string ⟨#[]⟩] 24) = W0 := ⟨_, rfl⟩
          obtain ⟨hb0, hs0, hBP, hB0⟩ := HW.out W0 hW0
          rw [hW0]
          clear HW hW0
          go_wp2_with fail
          go_fit (HN.out _)
          rintro e w1 ⟨v, rfl, hA, _, hb1⟩
          have hB1 := hB0.below hb1
          have hbw1 := hb0.trans (hb1.mono hb0.size)
          rw [hs0] at hA
          clear hB0 hBP hb0 hs0 hb1 HN
          obtain ⟨⟨c0, c1⟩, z0, z1⟩ := hB1.cells
          go_wp2_with fail
          obtain ⟨⟨y0, y1⟩, q1, q2⟩ := box_end (w := w) (w1 := w1) (Q := w.heap.size + 1) (.int .i64 0) (.string ⟨#[]⟩) hB1 (Nat.le_succ _) hbw1 (hA)
          rw [hR.out]
          exact bodyPost_ret (v := .tuple #[.agg #[.int .i64 0, .string ⟨#[]⟩], v]) (by simp [results, Tryd.results16, go_sem, y0, y1]) rfl ⟨_, rfl, q2, q1⟩
        · have i48 : (b : Int) < 48 := by omega
          go_enter Tryd.func16, Tryd.ntmps16
          go_wp2_with fail
          obtain ⟨W0, hW0⟩ : ∃ W0, (w.alloc (.cells #[.int .i64 2, .string ⟨#[]⟩] 24)).alloc (.cells #[.int .i64 0, .string ⟨#[]⟩] 24) = W0 := ⟨_, rfl⟩
          obtain ⟨hb0, hs0, hBP, hB0⟩ := HW.out W0 hW0
          rw [hW0]
          clear HW hW0
          go_wp2_with fail
          go_fit (HN.out _)
          rintro e w1 ⟨v, rfl, hA, _, hb1⟩
          have hB1 := hB0.below hb1
          have hbw1 := hb0.trans (hb1.mono hb0.size)
          rw [hs0] at hA
          clear hB0 hBP hb0 hs0 hb1 HN
          obtain ⟨⟨c0, c1⟩, z0, z1⟩ := hB1.cells
          go_wp2_with fail
          obtain ⟨⟨y0, y1⟩, q1, q2⟩ := box_end (w := w) (w1 := w1) (Q := w.heap.size + 1) (.int .i64 0) (.string ⟨#[]⟩) hB1 (Nat.le_succ _) hbw1 (hA)
          rw [hR.out]
          exact bodyPost_ret (v := .tuple #[.agg #[.int .i64 0, .string ⟨#[]⟩], v]) (by simp [results, Tryd.results16, go_sem, y0, y1]) rfl ⟨_, rfl, q2, q1⟩
end Go.Proofs.YtbpnnnjbddjboaaDoor
