/-
  Texts of this proof, one behind the other; each begins with its own remark.
-/
import Derived.Test.YtpkjaallhhjleaaGreatDoorBa23
/-
  parser.within: what it returns: for every state, every byte.
-/
namespace Go.Proofs.YtpkjaallhhjleaaGreatDoor
open Go.RowKit

set_option maxRecDepth 20000 in
set_option maxHeartbeats 4000000 in
theorem pwithin_any (p : Ps) (b : Nat) (w : World) (hb : b < 256) :
    Calls Tryz.prog 88 #[stV p, .int .u8 (b : Int)] w (FedW w (withinN p b)) := by
  obtain ⟨R, hR⟩ : ∃ R, withinN p b = R := ⟨_, rfl⟩
  rw [hR]
  have hR := Lib.hid hR
  have HPV : Hid (stV p = .agg #[.int .i64 (stN p), .string (stB p)]) := rfl
  rw [HPV.out]
  obtain ⟨N, hN⟩ : ∃ N, stN p = N := ⟨_, rfl⟩
  obtain ⟨B, hB⟩ : ∃ B, stB p = B := ⟨_, rfl⟩
  rw [hN, hB] at HPV ⊢
  clear hN hB
  have HW : Hid (∀ W0, (w.alloc (.cells #[.int .i64 N, .string B] 45)).alloc (.cells #[.int .i64 0, .string ⟨#[]⟩] 45) = W0 → Below w.heap.size w W0 ∧ W0.heap.size = w.heap.size + 2 ∧ blk2 W0 w.heap.size (.int .i64 N) (.string B) ∧ blk2 W0 (w.heap.size + 1) (.int .i64 0) (.string ⟨#[]⟩)) := fun W0 h => by rw [← h]; exact box_new2 w _ _ _ _
  have HN := Lib.hid (fun W => invalid_any W)
  have HC := Lib.hid (fun W => control_any b W hb)
  by_cases h27 : b = 27
  · subst h27
    replace hR : Hid (R = (.esc, [badA])) := by
      show _ = _
      rw [← hR.out]
      unfold withinN
      rw [if_pos rfl]
    clear HC
    go_enter Tryz.func88, Tryz.ntmps88
    go_wp2_with fail
    obtain ⟨W0, hW0⟩ : ∃ W0, (w.alloc (.cells #[.int .i64 N, .string B] 45)).alloc (.cells #[.int .i64 0, .string ⟨#[]⟩] 45) = W0 := ⟨_, rfl⟩
    obtain ⟨hb0, hs0, hBP, hB0⟩ := HW.out W0 hW0
    rw [hW0]
    clear HW hW0
    go_fit (HN.out _)
    rintro e w1 ⟨v, rfl, hA, _, hb1⟩
    have hB1 := hB0.below hb1
    have hbw1 := hb0.trans (hb1.mono hb0.size)
    rw [hs0] at hA
    clear hB0 hBP hb0 hs0 hb1
    obtain ⟨⟨c0, c1⟩, z0, z1⟩ := hB1.cells
    go_wp2_with fail
    obtain ⟨⟨y0, y1⟩, q1, q2⟩ := box_end (w := w) (w1 := w1) (Q := w.heap.size + 1) (.int .i64 2) (.string ⟨#[]⟩) hB1 (Nat.le_succ _) hbw1 hA
    rw [hR.out]
    exact bodyPost_ret (v := .tuple #[.agg #[.int .i64 2, .string ⟨#[]⟩], v]) (by simp [results, Tryz.results88, go_sem, y0, y1]) rfl ⟨_, rfl, q2, q1⟩
  · have e27 : ((b : Int) == 27) = false := beq_false_of_ne (by omega)
    by_cases h24 : b = 24
    · subst h24
      replace hR : Hid (R = (.zero, [badA])) := by
        show _ = _
        rw [← hR.out]
        unfold withinN
        rw [if_neg h27, if_pos (.inl rfl)]
      clear HC
      go_enter Tryz.func88, Tryz.ntmps88
      go_wp2_with fail
      obtain ⟨W0, hW0⟩ : ∃ W0, (w.alloc (.cells #[.int .i64 N, .string B] 45)).alloc (.cells #[.int .i64 0, .string ⟨#[]⟩] 45) = W0 := ⟨_, rfl⟩
      obtain ⟨hb0, hs0, hBP, hB0⟩ := HW.out W0 hW0
      rw [hW0]
      clear HW hW0
      go_fit (HN.out _)
      rintro e w1 ⟨v, rfl, hA, _, hb1⟩
      have hB1 := hB0.below hb1
      have hbw1 := hb0.trans (hb1.mono hb0.size)
      rw [hs0] at hA
      clear hB0 hBP hb0 hs0 hb1
      obtain ⟨⟨c0, c1⟩, z0, z1⟩ := hB1.cells
      go_wp2_with fail
      obtain ⟨⟨y0, y1⟩, q1, q2⟩ := box_end (w := w) (w1 := w1) (Q := w.heap.size + 1) (.int .i64 0) (.string ⟨#[]⟩) hB1 (Nat.le_succ _) hbw1 hA
      rw [hR.out]
      exact bodyPost_ret (v := .tuple #[.agg #[.int .i64 0, .string ⟨#[]⟩], v]) (by simp [results, Tryz.results88, go_sem, y0, y1]) rfl ⟨_, rfl, q2, q1⟩
    · have e24 : ((b : Int) == 24) = false := beq_false_of_ne (by omega)
      by_cases h26 : b = 26
      · subst h26
        replace hR : Hid (R = (.zero, [badA])) := by
          show _ = _
          rw [← hR.out]
          unfold withinN
          rw [if_neg h27, if_pos (.inr rfl)]
        clear HC
        go_enter Tryz.func88, Tryz.ntmps88
        go_wp2_with fail
        obtain ⟨W0, hW0⟩ : ∃ W0, (w.alloc (.cells #[.int .i64 N, .string B] 45)).alloc (.cells #[.int .i64 0, .string ⟨#[]⟩] 45) = W0 := ⟨_, rfl⟩
        obtain ⟨hb0, hs0, hBP, hB0⟩ := HW.out W0 hW0
        rw [hW0]
        clear HW hW0
        go_fit (HN.out _)
        rintro e w1 ⟨v, rfl, hA, _, hb1⟩
        have hB1 := hB0.below hb1
        have hbw1 := hb0.trans (hb1.mono hb0.size)
        rw [hs0] at hA
        clear hB0 hBP hb0 hs0 hb1
        obtain ⟨⟨c0, c1⟩, z0, z1⟩ := hB1.cells
        go_wp2_with fail
        obtain ⟨⟨y0, y1⟩, q1, q2⟩ := box_end (w := w) (w1 := w1) (Q := w.heap.size + 1) (.int .i64 0) (.string ⟨#[]⟩) hB1 (Nat.le_succ _) hbw1 hA
        rw [hR.out]
        exact bodyPost_ret (v := .tuple #[.agg #[.int .i64 0, .string ⟨#[]⟩], v]) (by simp [results, Tryz.results88, go_sem, y0, y1]) rfl ⟨_, rfl, q2, q1⟩
      · have e26 : ((b : Int) == 26) = false := beq_false_of_ne (by omega)
        replace hR : Hid (R = (p, [(2, b, [], 0)])) := by
          show _ = _
          rw [← hR.out]
          unfold withinN
          rw [if_neg h27, if_neg (by omega)]
        clear HN
        go_enter Tryz.func88, Tryz.ntmps88
        go_wp2_with fail
        obtain ⟨W0, hW0⟩ : ∃ W0, (w.alloc (.cells #[.int .i64 N, .string B] 45)).alloc (.cells #[.int .i64 0, .string ⟨#[]⟩] 45) = W0 := ⟨_, rfl⟩
        obtain ⟨hb0, hs0, hBP, hB0⟩ := HW.out W0 hW0
        rw [hW0]
        clear HW hW0
        have HC2 : Hid (∀ V, Below W0.heap.size W0 V → Calls Tryz.prog 84 #[.int .u8 (b : Int)] V fun e u => ∃ v, e = .returned v ∧ ActsW (FromP (w.heap.size + 2)) u v [(2, b, [], 0)] ∧ Below W0.heap.size W0 u ∧ (u.cell? ⟨w.heap.size + 1, 0, none⟩ = some (.int .i64 0) ∧ u.cell? ⟨w.heap.size + 1, 1, none⟩ = some (.string ⟨#[]⟩)) ∧ u.frozen? ⟨w.heap.size + 1, 0, none⟩ = false ∧ u.frozen? ⟨w.heap.size + 1, 1, none⟩ = false) := fun V hV => (control_any b V hb).mono fun e u ⟨v, he, hA, _, hb2⟩ => by
          have hbu := hV.trans (hb2.mono hV.size)
          exact ⟨v, he, acts_from hA (by rw [← hs0]; exact hV.size), hbu, (hB0.below hbu).cells⟩
        have HC : Hid (∀ V, Below W0.heap.size W0 V → V.cell? ⟨w.heap.size, 0, none⟩ = some (.int .i64 N) ∧ V.cell? ⟨w.heap.size, 1, none⟩ = some (.string B)) := fun V hV => (hBP.below hV).cells.1
        have HB := Lib.hid (fun V (hV : Below W0.heap.size W0 V) => hB0.below hV)
        have HCS := Lib.hid (fun V (hV : Below W0.heap.size W0 V) x y => held_set (Q := w.heap.size + 1) x y (HC.out V hV) (by omega))
        have kk := Below.refl W0.heap.size W0
        have k0 : Below W0.heap.size W0 W0.drew := kk.drew
        obtain ⟨p0, p1⟩ := HC.out W0 kk
        go_region_held3 (fun V => V.cell? ⟨w.heap.size, 0, none⟩ = some (.int .i64 N) ∧ V.cell? ⟨w.heap.size, 1, none⟩ = some (.string B))
          (first | with_reducible exact HC.out _ kk | with_reducible exact HC.out _ k0 | with_reducible exact HCS.out _ kk _ _)
          (first
            | (go_at_call 84; go_fit (HC2.out _ ?_); (first | with_reducible exact kk | with_reducible exact k0); rintro e vv ⟨v, rfl, hA, kk, ⟨c0, c1⟩, z0, z1⟩))
        all_goals
          obtain ⟨⟨y0, y1⟩, q1, q2⟩ := box_end (w := w) (w1 := vv) (Q := w.heap.size + 1) (.int .i64 N) (.string B) (HB.out _ kk) (Nat.le_succ _) (hb0.trans (kk.mono hb0.size)) hA
          clear HC HCS HB HC2 c0 c1 z0 z1
          go_wp2_with fail
          rw [hR.out]
          exact bodyPost_ret (v := .tuple #[.agg #[.int .i64 N, .string B], v]) (by simp [results, Tryz.results88, go_sem, y0, y1]) rfl ⟨_, by rw [HPV.out], q2, q1⟩
end Go.Proofs.YtpkjaallhhjleaaGreatDoor

/-
  parser.behindEscape: what it returns: for every byte.
-/
namespace Go.Proofs.YtpkjaallhhjleaaGreatDoor
open Go.RowKit

/-- What one of Feed's parts returns, in letters. -/
theorem fed_letters {w : World} {f : FuncId} {args : Array Value} {r : Ps × List Ac} (h : Calls Tryz.prog f args w (FedW w r)) {n : Int} {s : ByteArray} {l : List Ac} (hn : stN r.1 = n) (hs : stB r.1 = s) (hl : r.2 = l) :
    Calls Tryz.prog f args w fun e u => ∃ v, e = .returned (.tuple #[.agg #[.int .i64 n, .string s], v]) ∧ ActsW (FromP w.heap.size) u v l ∧ Below w.heap.size w u := by
  subst hn hs hl
  exact h

set_option maxRecDepth 20000 in
set_option maxHeartbeats 4000000 in
theorem esc_any (b : Nat) (w : World) (hb : b < 256) :
    Calls Tryz.prog 54 #[.agg #[.int .i64 2, .string ⟨#[]⟩], .int .u8 (b : Int)] w (FedW w (escN b)) := by
  obtain ⟨R, hR⟩ : ∃ R, escN b = R := ⟨_, rfl⟩
  rw [hR]
  have hR := Lib.hid hR
  have HW : Hid (∀ W0, (w.alloc (.cells #[.int .i64 2, .string ⟨#[]⟩] 45)).alloc (.cells #[.int .i64 0, .string ⟨#[]⟩] 45) = W0 → Below w.heap.size w W0 ∧ W0.heap.size = w.heap.size + 2 ∧ blk2 W0 w.heap.size (.int .i64 2) (.string ⟨#[]⟩) ∧ blk2 W0 (w.heap.size + 1) (.int .i64 0) (.string ⟨#[]⟩)) := fun W0 h => by rw [← h]; exact box_new2 w _ _ _ _
  have HN := Lib.hid (fun W => invalid_any W)
  have HI := Lib.hid (fun W => pwithin_any .esc b W hb)
  by_cases h32 : b < 32
  · have i32 : (b : Int) < 32 := by omega
    replace hR : Hid (R = withinN .esc b) := by
      show _ = _
      rw [← hR.out]
      unfold escN
      rw [if_pos h32]
    obtain ⟨T, hT⟩ : ∃ T, withinN .esc b = T := ⟨_, rfl⟩
    rw [hT] at HI hR
    obtain ⟨n, hn⟩ : ∃ n, stN T.1 = n := ⟨_, rfl⟩
    obtain ⟨s, hs⟩ : ∃ s, stB T.1 = s := ⟨_, rfl⟩
    have HI2 : Hid (∀ W, Calls Tryz.prog 88 #[.agg #[.int .i64 2, .string ⟨#[]⟩], .int .u8 (b : Int)] W fun e u => ∃ v, e = .returned (.tuple #[.agg #[.int .i64 n, .string s], v]) ∧ ActsW (FromP W.heap.size) u v T.2 ∧ Below W.heap.size W u) := fun W => fed_letters (HI.out W) hn hs rfl
    have HV : Hid (stV T.1 = .agg #[.int .i64 n, .string s]) := by show _ = _; rw [← hn, ← hs]; rfl
    clear HN HI hn hs hT
    go_enter Tryz.func54, Tryz.ntmps54
    go_wp2_with fail
    obtain ⟨W0, hW0⟩ : ∃ W0, (w.alloc (.cells #[.int .i64 2, .string ⟨#[]⟩] 45)).alloc (.cells #[.int .i64 0, .string ⟨#[]⟩] 45) = W0 := ⟨_, rfl⟩
    obtain ⟨hb0, hs0, hBP, hB0⟩ := HW.out W0 hW0
    rw [hW0]
    clear HW hW0
    obtain ⟨⟨p0, p1⟩, r0, r1⟩ := hBP.cells
    go_wp2_with fail
    go_fit (HI2.out _)
    rintro e w1 ⟨v, rfl, hA, hb1⟩
    have hB1 := hB0.below hb1
    have hbw1 := hb0.trans (hb1.mono hb0.size)
    rw [hs0] at hA
    clear hB0 hBP hb0 hs0 hb1 p0 p1 r0 r1 HI2
    obtain ⟨⟨c0, c1⟩, z0, z1⟩ := hB1.cells
    go_wp2_with fail
    obtain ⟨⟨y0, y1⟩, q1, q2⟩ := box_end (w := w) (w1 := w1) (Q := w.heap.size + 1) (.int .i64 n) (.string s) hB1 (Nat.le_succ _) hbw1 (hA)
    rw [hR.out]
    exact bodyPost_ret (v := .tuple #[.agg #[.int .i64 n, .string s], v]) (by simp [results, Tryz.results54, go_sem, y0, y1]) rfl ⟨_, by rw [HV.out], q2, q1⟩
  · have i32 : (32 : Int) ≤ (b : Int) := by omega
    by_cases h91 : b = 91
    · subst h91
      replace hR : Hid (R = (.seq [] none, [])) := by
        show _ = _
        rw [← hR.out]
        unfold escN
        rw [if_neg h32, if_pos rfl]
      clear HN HI
      obtain ⟨q1, _, _, hQ⟩ := box_new2 w (.int .i64 2) (.int .i64 3) (.string ⟨#[]⟩) (.string ⟨#[]⟩)
      obtain ⟨⟨y0, y1⟩, _⟩ := hQ.cells
      clear HW
      go_enter Tryz.func54, Tryz.ntmps54
      go_wp2_with fail
      rw [hR.out]
      exact bodyPost_ret (v := .tuple #[.agg #[.int .i64 3, .string ⟨#[]⟩], .slice none 0 0]) (by simp [results, Tryz.results54, go_sem, y0, y1]) rfl ⟨_, rfl, ActsW.nil _ _, q1⟩
    · have e91 : ((b : Int) == 91) = false := beq_false_of_ne (by omega)
      by_cases h48 : 48 ≤ b ∧ b < 127
      · have i48 : (48 : Int) ≤ (b : Int) := by omega
        have i127 : (b : Int) < 127 := by omega
        replace hR : Hid (R = (.zero, [(4, 0, [], b)])) := by
          show _ = _
          rw [← hR.out]
          unfold escN
          rw [if_neg h32, if_neg h91, if_pos h48]
        clear HN HI
        go_enter Tryz.func54, Tryz.ntmps54
        go_wp2_with fail
        obtain ⟨W0, hW0⟩ : ∃ W0, (w.alloc (.cells #[.int .i64 2, .string ⟨#[]⟩] 45)).alloc (.cells #[.int .i64 0, .string ⟨#[]⟩] 45) = W0 := ⟨_, rfl⟩
        obtain ⟨hb0, hs0, hBP, hB0⟩ := HW.out W0 hW0
        rw [hW0]
        clear HW hW0
        have hA : ActsW (FromP (w.heap.size + 1 + 1)) (W0.alloc (.cells #[.int .i64 4, .int .i32 0, .slice none 0 0, .int .u8 (b : Int)] 72)) (.slice (some ⟨W0.heap.size, 0, none⟩) 1 1) [(4, 0, [], b)] := acts_one (by omega) (NumsW.nil _ _)
        have hb1 := fun o => (Below.refl W0.heap.size W0).alloc (Nat.le_refl _) o
        have hB1 := hB0.below (hb1 (.cells #[.int .i64 4, .int .i32 0, .slice none 0 0, .int .u8 (b : Int)] 72))
        have hbw1 := hb0.trans ((hb1 (.cells #[.int .i64 4, .int .i32 0, .slice none 0 0, .int .u8 (b : Int)] 72)).mono hb0.size)
        obtain ⟨⟨c0, c1⟩, z0, z1⟩ := hB1.cells
        clear hb1
        go_wp2_with fail
        rw [hR.out]
        exact bodyPost_ret (v := .tuple #[.agg #[.int .i64 0, .string ⟨#[]⟩], .slice (some ⟨W0.heap.size, 0, none⟩) 1 1]) (by simp [results, Tryz.results54, go_sem, c0, c1]) rfl ⟨_, rfl, acts_from hA (by omega), hbw1⟩
      · clear HI
        replace hR : Hid (R = (.zero, [badA])) := by
          show _ = _
          rw [← hR.out]
          unfold escN
          rw [if_neg h32, if_neg h91, if_neg h48]
        by_cases g48 : 48 ≤ b
        · have i48 : (48 : Int) ≤ (b : Int) := by omega
          have i127 : (127 : Int) ≤ (b : Int) := by omega
          go_enter Tryz.func54, Tryz.ntmps54
          go_wp2_with fail
          obtain ⟨W0, hW0⟩ : ∃ W0, (w.alloc (.cells #[.int .i64 2, .string ⟨#[]⟩] 45)).alloc (.cells #[.int .i64 0, .string ⟨#[]⟩] 45) = W0 := ⟨_, rfl⟩
          obtain ⟨hb0, hs0, hBP, hB0⟩ := HW.out W0 hW0
          rw [hW0]
          clear HW hW0
          go_wp2_with fail
          go_fit (HN.out _)
          rintro e w1 ⟨v, rfl, hA, _, hb1⟩
          have hB1 := hB0.below hb1
          have hbw1 := hb0.trans (hb1.mono hb0.size)
          rw [hs0] at hA
          clear hB0 hBP hb0 hs0 hb1 HN
          obtain ⟨⟨c0, c1⟩, z0, z1⟩ := hB1.cells
          go_wp2_with fail
          obtain ⟨⟨y0, y1⟩, q1, q2⟩ := box_end (w := w) (w1 := w1) (Q := w.heap.size + 1) (.int .i64 0) (.string ⟨#[]⟩) hB1 (Nat.le_succ _) hbw1 (hA)
          rw [hR.out]
          exact bodyPost_ret (v := .tuple #[.agg #[.int .i64 0, .string ⟨#[]⟩], v]) (by simp [results, Tryz.results54, go_sem, y0, y1]) rfl ⟨_, rfl, q2, q1⟩
        · have i48 : (b : Int) < 48 := by omega
          go_enter Tryz.func54, Tryz.ntmps54
          go_wp2_with fail
          obtain ⟨W0, hW0⟩ : ∃ W0, (w.alloc (.cells #[.int .i64 2, .string ⟨#[]⟩] 45)).alloc (.cells #[.int .i64 0, .string ⟨#[]⟩] 45) = W0 := ⟨_, rfl⟩
          obtain ⟨hb0, hs0, hBP, hB0⟩ := HW.out W0 hW0
          rw [hW0]
          clear HW hW0
          go_wp2_with fail
          go_fit (HN.out _)
          rintro e w1 ⟨v, rfl, hA, _, hb1⟩
          have hB1 := hB0.below hb1
          have hbw1 := hb0.trans (hb1.mono hb0.size)
          rw [hs0] at hA
          clear hB0 hBP hb0 hs0 hb1 HN
          obtain ⟨⟨c0, c1⟩, z0, z1⟩ := hB1.cells
          go_wp2_with fail
          obtain ⟨⟨y0, y1⟩, q1, q2⟩ := box_end (w := w) (w1 := w1) (Q := w.heap.size + 1) (.int .i64 0) (.string ⟨#[]⟩) hB1 (Nat.le_succ _) hbw1 (hA)
          rw [hR.out]
          exact bodyPost_ret (v := .tuple #[.agg #[.int .i64 0, .string ⟨#[]⟩], v]) (by simp [results, Tryz.results54, go_sem, y0, y1]) rfl ⟨_, rfl, q2, q1⟩
end Go.Proofs.YtpkjaallhhjleaaGreatDoor

/-
  parser.behindSequence: what it returns: for every byte, whatever is kept of a sequence.
-/
namespace Go.Proofs.YtpkjaallhhjleaaGreatDoor
open Go.RowKit

theorem step_stN (pre : List (Option Nat)) (x : Option Nat) (b : Nat) : stN (stepN pre x b) = 3 := by
  unfold stepN
  repeat' split
  all_goals rfl

set_option maxRecDepth 20000 in
set_option maxHeartbeats 4000000 in
theorem seq_any (pre : List (Option Nat)) (x : Option Nat) (b : Nat) (w : World) (hb : b < 256) (hk : OkP (.seq pre x)) (hP : PowW w) :
    Calls Tryz.prog 55 #[.agg #[.int .i64 3, .string (rend pre x)], .int .u8 (b : Int)] w (FedW w (seqN pre x b)) := by
  obtain ⟨R, hR⟩ : ∃ R, seqN pre x b = R := ⟨_, rfl⟩
  rw [hR]
  have hR := Lib.hid hR
  have HN := Lib.hid (fun W => invalid_any W)
  have HI : Hid (∀ W, Calls Tryz.prog 88 #[.agg #[.int .i64 3, .string (rend pre x)], .int .u8 (b : Int)] W (FedW W (withinN (.seq pre x) b))) := fun W => pwithin_any (.seq pre x) b W hb
  have HL := Lib.hid (fun W (hW : Below w.heap.size w W) => longer_any pre x b W hk hb (hP.below hW))
  have HP := Lib.hid (fun W => params_any pre x W hk)
  have hne := rend_ne pre x
  obtain ⟨O, hO⟩ : ∃ O, stB (stepN pre x b) = O := ⟨_, rfl⟩
  have HO : Hid (stV (stepN pre x b) = .agg #[.int .i64 3, .string O]) := by
    show _ = _
    unfold stV
    rw [step_stN, hO]
  rw [hO] at HL
  obtain ⟨S, hS⟩ : ∃ S, rend pre x = S := ⟨_, rfl⟩
  rw [hS] at HL HP hne HI ⊢
  have hq : (S.toList == [63]) = false := by
    rw [beq_eq_false_iff_ne, Lib.toList_data]
    exact hne
  clear hne hP hk hO hS
  have HW : Hid (∀ W0, (w.alloc (.cells #[.int .i64 3, .string S] 45)).alloc (.cells #[.int .i64 0, .string ⟨#[]⟩] 45) = W0 → Below w.heap.size w W0 ∧ W0.heap.size = w.heap.size + 2 ∧ blk2 W0 w.heap.size (.int .i64 3) (.string S) ∧ blk2 W0 (w.heap.size + 1) (.int .i64 0) (.string ⟨#[]⟩)) := fun W0 h => by rw [← h]; exact box_new2 w _ _ _ _
  by_cases h32 : b < 32
  · have i32 : (b : Int) < 32 := by omega
    replace hR : Hid (R = withinN (.seq pre x) b) := by
      show _ = _
      rw [← hR.out]
      unfold seqN
      rw [if_pos h32]
    obtain ⟨T, hT⟩ : ∃ T, withinN (.seq pre x) b = T := ⟨_, rfl⟩
    rw [hT] at HI hR
    obtain ⟨n, hn⟩ : ∃ n, stN T.1 = n := ⟨_, rfl⟩
    obtain ⟨s, hs⟩ : ∃ s, stB T.1 = s := ⟨_, rfl⟩
    have HI2 : Hid (∀ W, Calls Tryz.prog 88 #[.agg #[.int .i64 3, .string S], .int .u8 (b : Int)] W fun e u => ∃ v, e = .returned (.tuple #[.agg #[.int .i64 n, .string s], v]) ∧ ActsW (FromP W.heap.size) u v T.2 ∧ Below W.heap.size W u) := fun W => fed_letters (HI.out W) hn hs rfl
    have HV : Hid (stV T.1 = .agg #[.int .i64 n, .string s]) := by show _ = _; rw [← hn, ← hs]; rfl
    clear HN HI hn hs hT HL HP
    go_enter Tryz.func55, Tryz.ntmps55
    go_wp2_with fail
    obtain ⟨W0, hW0⟩ : ∃ W0, (w.alloc (.cells #[.int .i64 3, .string S] 45)).alloc (.cells #[.int .i64 0, .string ⟨#[]⟩] 45) = W0 := ⟨_, rfl⟩
    obtain ⟨hb0, hs0, hBP, hB0⟩ := HW.out W0 hW0
    rw [hW0]
    clear HW hW0
    obtain ⟨⟨p0, p1⟩, r0, r1⟩ := hBP.cells
    go_wp2_with fail
    go_fit (HI2.out _)
    rintro e w1 ⟨v, rfl, hA, hb1⟩
    have hB1 := hB0.below hb1
    have hbw1 := hb0.trans (hb1.mono hb0.size)
    rw [hs0] at hA
    clear hB0 hBP hb0 hs0 hb1 p0 p1 r0 r1 HI2
    obtain ⟨⟨c0, c1⟩, z0, z1⟩ := hB1.cells
    go_wp2_with fail
    obtain ⟨⟨y0, y1⟩, q1, q2⟩ := box_end (w := w) (w1 := w1) (Q := w.heap.size + 1) (.int .i64 n) (.string s) hB1 (Nat.le_succ _) hbw1 (hA)
    rw [hR.out]
    exact bodyPost_ret (v := .tuple #[.agg #[.int .i64 n, .string s], v]) (by simp [results, Tryz.results55, go_sem, y0, y1]) rfl ⟨_, by rw [HV.out], q2, q1⟩
  · have i32 : (32 : Int) ≤ (b : Int) := by omega
    by_cases h64 : b < 64
    · have i64 : (b : Int) < 64 := by omega
      replace hR : Hid (R = (stepN pre x b, [])) := by
        show _ = _
        rw [← hR.out]
        unfold seqN
        rw [if_neg h32, if_pos h64]
      clear HN HI HP
      go_enter Tryz.func55, Tryz.ntmps55
      go_wp2_with fail
      obtain ⟨W0, hW0⟩ : ∃ W0, (w.alloc (.cells #[.int .i64 3, .string S] 45)).alloc (.cells #[.int .i64 0, .string ⟨#[]⟩] 45) = W0 := ⟨_, rfl⟩
      obtain ⟨hb0, hs0, hBP, hB0⟩ := HW.out W0 hW0
      rw [hW0]
      clear HW hW0
      obtain ⟨⟨p0, p1⟩, r0, r1⟩ := hBP.cells
      go_wp2_with fail
      go_fit (HL.out _ hb0)
      rintro e w1 ⟨rfl, hb1⟩
      have hB1 := hB0.below hb1
      have hbw1 := hb0.trans (hb1.mono hb0.size)
      clear hB0 hBP hb0 hs0 hb1 p0 p1 r0 r1 HL
      obtain ⟨⟨c0, c1⟩, z0, z1⟩ := hB1.cells
      go_wp2_with fail
      obtain ⟨⟨y0, y1⟩, q1, q2⟩ := box_end (w := w) (w1 := w1) (Q := w.heap.size + 1) (.int .i64 3) (.string O) hB1 (Nat.le_succ _) hbw1 (ActsW.nil _ _)
      rw [hR.out]
      exact bodyPost_ret (v := .tuple #[.agg #[.int .i64 3, .string O], .slice none 0 0]) (by simp [results, Tryz.results55, go_sem, y0, y1]) rfl ⟨_, by rw [HO.out], q2, q1⟩
    · have i64 : (64 : Int) ≤ (b : Int) := by omega
      by_cases h127 : b < 127
      · have i127 : (b : Int) < 127 := by omega
        replace hR : Hid (R = (.zero, [(3, 0, paramsN pre x, b)])) := by
          show _ = _
          rw [← hR.out]
          unfold seqN
          rw [if_neg h32, if_neg h64, if_pos h127]
        clear HN HI HL
        go_enter Tryz.func55, Tryz.ntmps55
        go_wp2_with fail
        obtain ⟨W0, hW0⟩ : ∃ W0, (w.alloc (.cells #[.int .i64 3, .string S] 45)).alloc (.cells #[.int .i64 0, .string ⟨#[]⟩] 45) = W0 := ⟨_, rfl⟩
        obtain ⟨hb0, hs0, hBP, hB0⟩ := HW.out W0 hW0
        rw [hW0]
        clear HW hW0
        obtain ⟨⟨p0, p1⟩, r0, r1⟩ := hBP.cells
        go_wp2_with fail
        go_fit (HP.out _)
        rintro e w1 ⟨v, rfl, hA, hb1⟩
        have hB1 := hB0.below hb1
        have hbw1 := hb0.trans (hb1.mono hb0.size)
        have hs1 : w.heap.size + 2 ≤ w1.heap.size := by rw [← hs0]; exact hb1.size
        rw [hs0] at hA
        obtain ⟨va, vn, vc, rfl⟩ : ∃ va vn vc, v = .slice va vn vc := by
          obtain ⟨va, vc, hv, _⟩ := hA.1
          exact ⟨va, _, vc, hv⟩
        have hA2 : ActsW (FromP (w.heap.size + 1 + 1)) (w1.alloc (.cells #[.int .i64 3, .int .i32 0, .slice va vn vc, .int .u8 (b : Int)] 72)) (.slice (some ⟨w1.heap.size, 0, none⟩) 1 1) [(3, 0, paramsN pre x, b)] := acts_one (by omega) hA
        have hb2 := (Below.refl w1.heap.size w1).alloc (Nat.le_refl _) (.cells #[.int .i64 3, .int .i32 0, .slice va vn vc, .int .u8 (b : Int)] 72)
        have hB2 := hB1.below hb2
        have hbw2 := hbw1.trans (hb2.mono hbw1.size)
        clear hB0 hBP hb0 hs0 hb1 p0 p1 r0 r1 HP hb2
        obtain ⟨⟨c0, c1⟩, z0, z1⟩ := hB2.cells
        go_wp2_with fail
        obtain ⟨⟨y0, y1⟩, q1, q2⟩ := box_end (w := w) (w1 := w1.alloc (.cells #[.int .i64 3, .int .i32 0, .slice va vn vc, .int .u8 (b : Int)] 72)) (Q := w.heap.size + 1) (.int .i64 0) (.string ⟨#[]⟩) hB2 (Nat.le_succ _) hbw2 (hA2)
        rw [hR.out]
        exact bodyPost_ret (v := .tuple #[.agg #[.int .i64 0, .string ⟨#[]⟩], .slice (some ⟨w1.heap.size, 0, none⟩) 1 1]) (by simp [results, Tryz.results55, go_sem, y0, y1]) rfl ⟨_, rfl, q2, q1⟩
      · have i127 : (127 : Int) ≤ (b : Int) := by omega
        replace hR : Hid (R = (.zero, [badA])) := by
          show _ = _
          rw [← hR.out]
          unfold seqN
          rw [if_neg h32, if_neg h64, if_neg h127]
        clear HL HI HP
        go_enter Tryz.func55, Tryz.ntmps55
        go_wp2_with fail
        obtain ⟨W0, hW0⟩ : ∃ W0, (w.alloc (.cells #[.int .i64 3, .string S] 45)).alloc (.cells #[.int .i64 0, .string ⟨#[]⟩] 45) = W0 := ⟨_, rfl⟩
        obtain ⟨hb0, hs0, hBP, hB0⟩ := HW.out W0 hW0
        rw [hW0]
        clear HW hW0
        obtain ⟨⟨p0, p1⟩, r0, r1⟩ := hBP.cells
        go_wp2_with fail
        go_fit (HN.out _)
        rintro e w1 ⟨v, rfl, hA, _, hb1⟩
        have hB1 := hB0.below hb1
        have hbw1 := hb0.trans (hb1.mono hb0.size)
        rw [hs0] at hA
        clear hB0 hBP hb0 hs0 hb1 HN p0 p1 r0 r1
        obtain ⟨⟨c0, c1⟩, z0, z1⟩ := hB1.cells
        go_wp2_with fail
        obtain ⟨⟨y0, y1⟩, q1, q2⟩ := box_end (w := w) (w1 := w1) (Q := w.heap.size + 1) (.int .i64 0) (.string ⟨#[]⟩) hB1 (Nat.le_succ _) hbw1 (hA)
        rw [hR.out]
        exact bodyPost_ret (v := .tuple #[.agg #[.int .i64 0, .string ⟨#[]⟩], v]) (by simp [results, Tryz.results55, go_sem, y0, y1]) rfl ⟨_, rfl, q2, q1⟩

set_option maxRecDepth 20000 in
set_option maxHeartbeats 4000000 in
theorem wrong_any (b : Nat) (w : World) (hb : b < 256) :
    Calls Tryz.prog 55 #[.agg #[.int .i64 3, .string ⟨#[63]⟩], .int .u8 (b : Int)] w (FedW w (wrongN b)) := by
  obtain ⟨R, hR⟩ : ∃ R, wrongN b = R := ⟨_, rfl⟩
  rw [hR]
  have hR := Lib.hid hR
  have HN := Lib.hid (fun W => invalid_any W)
  have HI : Hid (∀ W, Calls Tryz.prog 88 #[.agg #[.int .i64 3, .string ⟨#[63]⟩], .int .u8 (b : Int)] W (FedW W (withinN .bad b))) := fun W => pwithin_any .bad b W hb
  have HL := Lib.hid (fun W (_ : Below w.heap.size w W) => longer_bad b W)
  have HW : Hid (∀ W0, (w.alloc (.cells #[.int .i64 3, .string ⟨#[63]⟩] 45)).alloc (.cells #[.int .i64 0, .string ⟨#[]⟩] 45) = W0 → Below w.heap.size w W0 ∧ W0.heap.size = w.heap.size + 2 ∧ blk2 W0 w.heap.size (.int .i64 3) (.string ⟨#[63]⟩) ∧ blk2 W0 (w.heap.size + 1) (.int .i64 0) (.string ⟨#[]⟩)) := fun W0 h => by rw [← h]; exact box_new2 w _ _ _ _
  by_cases h32 : b < 32
  · have i32 : (b : Int) < 32 := by omega
    replace hR : Hid (R = withinN .bad b) := by
      show _ = _
      rw [← hR.out]
      unfold wrongN
      rw [if_pos h32]
    obtain ⟨T, hT⟩ : ∃ T, withinN .bad b = T := ⟨_, rfl⟩
    rw [hT] at HI hR
    obtain ⟨n, hn⟩ : ∃ n, stN T.1 = n := ⟨_, rfl⟩
    obtain ⟨s, hs⟩ : ∃ s, stB T.1 = s := ⟨_, rfl⟩
    have HI2 : Hid (∀ W, Calls Tryz.prog 88 #[.agg #[.int .i64 3, .string ⟨#[63]⟩], .int .u8 (b : Int)] W fun e u => ∃ v, e = .returned (.tuple #[.agg #[.int .i64 n, .string s], v]) ∧ ActsW (FromP W.heap.size) u v T.2 ∧ Below W.heap.size W u) := fun W => fed_letters (HI.out W) hn hs rfl
    have HV : Hid (stV T.1 = .agg #[.int .i64 n, .string s]) := by show _ = _; rw [← hn, ← hs]; rfl
    clear HN HI hn hs hT HL
    go_enter Tryz.func55, Tryz.ntmps55
    go_wp2_with fail
    obtain ⟨W0, hW0⟩ : ∃ W0, (w.alloc (.cells #[.int .i64 3, .string ⟨#[63]⟩] 45)).alloc (.cells #[.int .i64 0, .string ⟨#[]⟩] 45) = W0 := ⟨_, rfl⟩
    obtain ⟨hb0, hs0, hBP, hB0⟩ := HW.out W0 hW0
    rw [hW0]
    clear HW hW0
    obtain ⟨⟨p0, p1⟩, r0, r1⟩ := hBP.cells
    go_wp2_with fail
    go_fit (HI2.out _)
    rintro e w1 ⟨v, rfl, hA, hb1⟩
    have hB1 := hB0.below hb1
    have hbw1 := hb0.trans (hb1.mono hb0.size)
    rw [hs0] at hA
    clear hB0 hBP hb0 hs0 hb1 p0 p1 r0 r1 HI2
    obtain ⟨⟨c0, c1⟩, z0, z1⟩ := hB1.cells
    go_wp2_with fail
    obtain ⟨⟨y0, y1⟩, q1, q2⟩ := box_end (w := w) (w1 := w1) (Q := w.heap.size + 1) (.int .i64 n) (.string s) hB1 (Nat.le_succ _) hbw1 (hA)
    rw [hR.out]
    exact bodyPost_ret (v := .tuple #[.agg #[.int .i64 n, .string s], v]) (by simp [results, Tryz.results55, go_sem, y0, y1]) rfl ⟨_, by rw [HV.out], q2, q1⟩
  · have i32 : (32 : Int) ≤ (b : Int) := by omega
    by_cases h64 : b < 64
    · have i64 : (b : Int) < 64 := by omega
      replace hR : Hid (R = (.bad, [])) := by
        show _ = _
        rw [← hR.out]
        unfold wrongN
        rw [if_neg h32, if_pos h64]
      clear HN HI
      go_enter Tryz.func55, Tryz.ntmps55
      go_wp2_with fail
      obtain ⟨W0, hW0⟩ : ∃ W0, (w.alloc (.cells #[.int .i64 3, .string ⟨#[63]⟩] 45)).alloc (.cells #[.int .i64 0, .string ⟨#[]⟩] 45) = W0 := ⟨_, rfl⟩
      obtain ⟨hb0, hs0, hBP, hB0⟩ := HW.out W0 hW0
      rw [hW0]
      clear HW hW0
      obtain ⟨⟨p0, p1⟩, r0, r1⟩ := hBP.cells
      go_wp2_with fail
      go_fit (HL.out _ hb0)
      rintro e w1 ⟨rfl, hb1⟩
      have hB1 := hB0.below hb1
      have hbw1 := hb0.trans (hb1.mono hb0.size)
      clear hB0 hBP hb0 hs0 hb1 p0 p1 r0 r1 HL
      obtain ⟨⟨c0, c1⟩, z0, z1⟩ := hB1.cells
      go_wp2_with fail
      obtain ⟨⟨y0, y1⟩, q1, q2⟩ := box_end (w := w) (w1 := w1) (Q := w.heap.size + 1) (.int .i64 3) (.string ⟨#[63]⟩) hB1 (Nat.le_succ _) hbw1 (ActsW.nil _ _)
      rw [hR.out]
      exact bodyPost_ret (v := .tuple #[.agg #[.int .i64 3, .string ⟨#[63]⟩], .slice none 0 0]) (by simp [results, Tryz.results55, go_sem, y0, y1]) rfl ⟨_, rfl, q2, q1⟩
    · have i64 : (64 : Int) ≤ (b : Int) := by omega
      by_cases h127 : b < 127
      · have i127 : (b : Int) < 127 := by omega
        replace hR : Hid (R = (.zero, [badA])) := by
          show _ = _
          rw [← hR.out]
          unfold wrongN
          rw [if_neg h32, if_neg h64]
        clear HL HI
        go_enter Tryz.func55, Tryz.ntmps55
        go_wp2_with fail
        obtain ⟨W0, hW0⟩ : ∃ W0, (w.alloc (.cells #[.int .i64 3, .string ⟨#[63]⟩] 45)).alloc (.cells #[.int .i64 0, .string ⟨#[]⟩] 45) = W0 := ⟨_, rfl⟩
        obtain ⟨hb0, hs0, hBP, hB0⟩ := HW.out W0 hW0
        rw [hW0]
        clear HW hW0
        obtain ⟨⟨p0, p1⟩, r0, r1⟩ := hBP.cells
        go_wp2_with fail
        go_fit (HN.out _)
        rintro e w1 ⟨v, rfl, hA, _, hb1⟩
        have hB1 := hB0.below hb1
        have hbw1 := hb0.trans (hb1.mono hb0.size)
        rw [hs0] at hA
        clear hB0 hBP hb0 hs0 hb1 HN p0 p1 r0 r1
        obtain ⟨⟨c0, c1⟩, z0, z1⟩ := hB1.cells
        go_wp2_with fail
        obtain ⟨⟨y0, y1⟩, q1, q2⟩ := box_end (w := w) (w1 := w1) (Q := w.heap.size + 1) (.int .i64 0) (.string ⟨#[]⟩) hB1 (Nat.le_succ _) hbw1 (hA)
        rw [hR.out]
        exact bodyPost_ret (v := .tuple #[.agg #[.int .i64 0, .string ⟨#[]⟩], v]) (by simp [results, Tryz.results55, go_sem, y0, y1]) rfl ⟨_, rfl, q2, q1⟩
      · have i127 : (127 : Int) ≤ (b : Int) := by omega
        replace hR : Hid (R = (.zero, [badA])) := by
          show _ = _
          rw [← hR.out]
          unfold wrongN
          rw [if_neg h32, if_neg h64]
        clear HL HI
        go_enter Tryz.func55, Tryz.ntmps55
        go_wp2_with fail
        obtain ⟨W0, hW0⟩ : ∃ W0, (w.alloc (.cells #[.int .i64 3, .string ⟨#[63]⟩] 45)).alloc (.cells #[.int .i64 0, .string ⟨#[]⟩] 45) = W0 := ⟨_, rfl⟩
        obtain ⟨hb0, hs0, hBP, hB0⟩ := HW.out W0 hW0
        rw [hW0]
        clear HW hW0
        obtain ⟨⟨p0, p1⟩, r0, r1⟩ := hBP.cells
        go_wp2_with fail
        go_fit (HN.out _)
        rintro e w1 ⟨v, rfl, hA, _, hb1⟩
        have hB1 := hB0.below hb1
        have hbw1 := hb0.trans (hb1.mono hb0.size)
        rw [hs0] at hA
        clear hB0 hBP hb0 hs0 hb1 HN p0 p1 r0 r1
        obtain ⟨⟨c0, c1⟩, z0, z1⟩ := hB1.cells
        go_wp2_with fail
        obtain ⟨⟨y0, y1⟩, q1, q2⟩ := box_end (w := w) (w1 := w1) (Q := w.heap.size + 1) (.int .i64 0) (.string ⟨#[]⟩) hB1 (Nat.le_succ _) hbw1 (hA)
        rw [hR.out]
        exact bodyPost_ret (v := .tuple #[.agg #[.int .i64 0, .string ⟨#[]⟩], v]) (by simp [results, Tryz.results55, go_sem, y0, y1]) rfl ⟨_, rfl, q2, q1⟩
end Go.Proofs.YtpkjaallhhjleaaGreatDoor
