/-
  parser.within: what it returns: for every state, every byte.
-/
import Derived.Test.YtbpnnnjbddjboaaDoorPsFirst
namespace Go.Proofs.YtbpnnnjbddjboaaDoor
open Go.RowKit

set_option maxRecDepth 20000 in
set_option maxHeartbeats 4000000 in
theorem within_any (p : Ps) (b : Nat) (w : World) (hb : b < 256) :
    Calls Tryd.prog 33 #[stV p, .int .u8 (b : Int)] w (FedW w (withinN p b)) := by
  obtain ⟨R, hR⟩ : ∃ R, withinN p b = R := ⟨_, rfl⟩
  rw [hR]
  have hR := Lib.hid hR
  have HPV : Hid (stV p = .agg #[.int .i64 (stN p), .string (stB p)]) := rfl
  rw [HPV.out]
  obtain ⟨N, hN⟩ : ∃ N, stN p = N := ⟨_, rfl⟩
  obtain ⟨B, hB⟩ : ∃ B, stB p = B := ⟨_, rfl⟩
  rw [hN, hB] at HPV ⊢
  clear hN hB
  have HW : Hid (∀ W0, (w.alloc (.cells #[.int .i64 N, .string B] 24)).alloc (.cells #[.int .i64 0, .string ⟨#[]⟩] 24) = W0 → Below w.heap.size w W0 ∧ W0.heap.size = w.heap.size + 2 ∧ blk2 W0 w.heap.size (.int .i64 N) (.string B) ∧ blk2 W0 (w.heap.size + 1) (.int .i64 0) (.string ⟨#[]⟩)) := fun W0 h => by rw [← h]; exact box_new2 w _ _ _ _
  have HN := Lib.hid (fun W => invalid_any W)
  have HC := Lib.hid (fun W => control_any b W hb)
  by_cases h27 : b = 27
  · subst h27
    replace hR : Hid (R = (.esc, [badA])) := by
      show _ = _
      rw [← hR.out]
      unfold withinN
      rw [if_pos rfl]
    clear HC
    go_enter Tryd.func33, Tryd.ntmps33
    go_wp2_with fail
    obtain ⟨W0, hW0⟩ : ∃ W0, (w.alloc (.cells #[.int .i64 N, .string B] 24)).alloc (.cells #[.int .i64 0, .string ⟨#[]⟩] 24) = W0 := ⟨_, rfl⟩
    obtain ⟨hb0, hs0, hBP, hB0⟩ := HW.out W0 hW0
    rw [hW0]
    clear HW hW0
    go_fit (HN.out _)
    rintro e w1 ⟨v, rfl, hA, _, hb1⟩
    have hB1 := hB0.below hb1
    have hbw1 := hb0.trans (hb1.mono hb0.size)
    rw [hs0] at hA
    clear hB0 hBP hb0 hs0 hb1
    obtain ⟨⟨c0, c1⟩, z0, z1⟩ := hB1.cells
    go_wp2_with fail
    obtain ⟨⟨y0, y1⟩, q1, q2⟩ := box_end (w := w) (w1 := w1) (Q := w.heap.size + 1) (.int .i64 2) (.string ⟨#[]⟩) hB1 (Nat.le_succ _) hbw1 hA
    rw [hR.out]
    exact bodyPost_ret (v := .tuple #[.agg #[.int .i64 2, .string ⟨#[]⟩], v]) (by simp [results, Tryd.results33, go_sem, y0, y1]) rfl ⟨_, rfl, q2, q1⟩
  · have e27 : ((b : Int) == 27) = false := beq_false_of_ne (by omega)
    by_cases h24 : b = 24
    · subst h24
      replace hR : Hid (R = (.zero, [badA])) := by
        show _ = _
        rw [← hR.out]
        unfold withinN
        rw [if_neg h27, if_pos (.inl rfl)]
      clear HC
      go_enter Tryd.func33, Tryd.ntmps33
      go_wp2_with fail
      obtain ⟨W0, hW0⟩ : ∃ W0, (w.alloc (.cells #[.int .i64 N, .string B] 24)).alloc (.cells #[.int .i64 0, .string ⟨#[]⟩] 24) = W0 := ⟨_, rfl⟩
      obtain ⟨hb0, hs0, hBP, hB0⟩ := HW.out W0 hW0
      rw [hW0]
      clear HW hW0
      go_fit (HN.out _)
      rintro e w1 ⟨v, rfl, hA, _, hb1⟩
      have hB1 := hB0.below hb1
      have hbw1 := hb0.trans (hb1.mono hb0.size)
      rw [hs0] at hA
      clear hB0 hBP hb0 hs0 hb1
      obtain ⟨⟨c0, c1⟩, z0, z1⟩ := hB1.cells
      go_wp2_with fail
      obtain ⟨⟨y0, y1⟩, q1, q2⟩ := box_end (w := w) (w1 := w1) (Q := w.heap.size + 1) (.int .i64 0) (.string ⟨#[]⟩) hB1 (Nat.le_succ _) hbw1 hA
      rw [hR.out]
      exact bodyPost_ret (v := .tuple #[.agg #[.int .i64 0, .string ⟨#[]⟩], v]) (by simp [results, Tryd.results33, go_sem, y0, y1]) rfl ⟨_, rfl, q2, q1⟩
    · have e24 : ((b : Int) == 24) = false := beq_false_of_ne (by omega)
      by_cases h26 : b = 26
      · subst h26
        replace hR : Hid (R = (.zero, [badA])) := by
          show _ = _
          rw [← hR.out]
          unfold withinN
          rw [if_neg h27, if_pos (.inr rfl)]
        clear HC
        go_enter Tryd.func33, Tryd.ntmps33
        go_wp2_with fail
        obtain ⟨W0, hW0⟩ : ∃ W0, (w.alloc (.cells #[.int .i64 N, .string B] 24)).alloc (.cells #[.int .i64 0, .string ⟨#[]⟩] 24) = W0 := ⟨_, rfl⟩
        obtain ⟨hb0, hs0, hBP, hB0⟩ := HW.out W0 hW0
        rw [hW0]
        clear HW hW0
        go_fit (HN.out _)
        rintro e w1 ⟨v, rfl, hA, _, hb1⟩
        have hB1 := hB0.below hb1
        have hbw1 := hb0.trans (hb1.mono hb0.size)
        rw [hs0] at hA
        clear hB0 hBP hb0 hs0 hb1
        obtain ⟨⟨c0, c1⟩, z0, z1⟩ := hB1.cells
        go_wp2_with fail
        obtain ⟨⟨y0, y1⟩, q1, q2⟩ := box_end (w := w) (w1 := w1) (Q := w.heap.size + 1) (.int .i64 0) (.string ⟨#[]⟩) hB1 (Nat.le_succ _) hbw1 hA
        rw [hR.out]
        exact bodyPost_ret (v := .tuple #[.agg #[.int .i64 0, .string ⟨#[]⟩], v]) (by simp [results, Tryd.results33, go_sem, y0, y1]) rfl ⟨_, rfl, q2, q1⟩
      · have e26 : ((b : Int) == 26) = false := beq_false_of_ne (by omega)
        replace hR : Hid (R = (p, [(2, b, [], 0)])) := by
          show _ = _
          rw [← hR.out]
          unfold withinN
          rw [if_neg h27, if_neg (by omega)]
        clear HN
        go_enter Tryd.func33, Tryd.ntmps33
        go_wp2_with fail
        obtain ⟨W0, hW0⟩ : ∃ W0, (w.alloc (.cells #[.int .i64 N, .string B] 24)).alloc (.cells #[.int .i64 0, .string ⟨#[]⟩] 24) = W0 := ⟨_, rfl⟩
        obtain ⟨hb0, hs0, hBP, hB0⟩ := HW.out W0 hW0
        rw [hW0]
        clear HW hW0
        have HC2 : Hid (∀ V, Below W0.heap.size W0 V → Calls Tryd.prog 29 #[.int .u8 (b : Int)] V fun e u => ∃ v, e = .returned v ∧ ActsW (FromP (w.heap.size + 2)) u v [(2, b, [], 0)] ∧ Below W0.heap.size W0 u ∧ (u.cell? ⟨w.heap.size + 1, 0, none⟩ = some (.int .i64 0) ∧ u.cell? ⟨w.heap.size + 1, 1, none⟩ = some (.string ⟨#[]⟩)) ∧ u.frozen? ⟨w.heap.size + 1, 0, none⟩ = false ∧ u.frozen? ⟨w.heap.size + 1, 1, none⟩ = false) := fun V hV => (control_any b V hb).mono fun e u ⟨v, he, hA, _, hb2⟩ => by
          have hbu := hV.trans (hb2.mono hV.size)
          exact ⟨v, he, acts_from hA (by rw [← hs0]; exact hV.size), hbu, (hB0.below hbu).cells⟩
        have HC : Hid (∀ V, Below W0.heap.size W0 V → V.cell? ⟨w.heap.size, 0, none⟩ = some (.int .i64 N) ∧ V.cell? ⟨w.heap.size, 1, none⟩ = some (.string B)) := fun V hV => (hBP.below hV).cells.1
        have HB := Lib.hid (fun V (hV : Below W0.heap.size W0 V) => hB0.below hV)
        have HCS := Lib.hid (fun V (hV : Below W0.heap.size W0 V) x y => held_set (Q := w.heap.size + 1) x y (HC.out V hV) (by omega))
        have kk := Below.refl W0.heap.size W0
        have k0 : Below W0.heap.size W0 W0.drew := kk.drew
        obtain ⟨p0, p1⟩ := HC.out W0 kk
        go_region_held3 (fun V => V.cell? ⟨w.heap.size, 0, none⟩ = some (.int .i64 N) ∧ V.cell? ⟨w.heap.size, 1, none⟩ = some (.string B))
          (first | with_reducible exact HC.out _ kk | with_reducible exact HC.out _ k0 | with_reducible exact HCS.out _ kk _ _)
          (first
            | (go_at_call 29; go_fit (HC2.out _ ?_); (first | with_reducible exact kk | with_reducible exact k0); rintro e vv ⟨v, rfl, hA, kk, ⟨c0, c1⟩, z0, z1⟩))
        all_goals
          obtain ⟨⟨y0, y1⟩, q1, q2⟩ := box_end (w := w) (w1 := vv) (Q := w.heap.size + 1) (.int .i64 N) (.string B) (HB.out _ kk) (Nat.le_succ _) (hb0.trans (kk.mono hb0.size)) hA
          clear HC HCS HB HC2 c0 c1 z0 z1
          go_wp2_with fail
          rw [hR.out]
          exact bodyPost_ret (v := .tuple #[.agg #[.int .i64 N, .string B], v]) (by simp [results, Tryd.results33, go_sem, y0, y1]) rfl ⟨_, by rw [HPV.out], q2, q1⟩
end Go.Proofs.YtbpnnnjbddjboaaDoor
