/-
  parser.behindSequence: what it returns: for every byte, whatever is kept of a sequence.
-/
import Derived.Test.YtbpnnnjbddjboaaDoorPsEsc
namespace Go.Proofs.YtbpnnnjbddjboaaDoor
open Go.RowKit

theorem step_stN (pre : List (Option Nat)) (x : Option Nat) (b : Nat) : stN (stepN pre x b) = 3 := by
  unfold stepN
  repeat' split
  all_goals rfl

set_option maxRecDepth 20000 in
set_option maxHeartbeats 4000000 in
theorem seq_any (pre : List (Option Nat)) (x : Option Nat) (b : Nat) (w : World) (hb : b < 256) (hk : OkP (.seq pre x)) (hP : PowW w) :
    Calls Tryd.prog 17 #[.agg #[.int .i64 3, .string (rend pre x)], .int .u8 (b : Int)] w (FedW w (seqN pre x b)) := by
  obtain ⟨R, hR⟩ : ∃ R, seqN pre x b = R := ⟨_, rfl⟩
  rw [hR]
  have hR := Lib.hid hR
  have HN := Lib.hid (fun W => invalid_any W)
  have HI : Hid (∀ W, Calls Tryd.prog 33 #[.agg #[.int .i64 3, .string (rend pre x)], .int .u8 (b : Int)] W (FedW W (withinN (.seq pre x) b))) := fun W => within_any (.seq pre x) b W hb
  have HL := Lib.hid (fun W (hW : Below w.heap.size w W) => longer_any pre x b W hk hb (hP.below hW))
  have HP := Lib.hid (fun W => params_any pre x W hk)
  have hne := rend_ne pre x
  obtain ⟨O, hO⟩ : ∃ O, stB (stepN pre x b) = O := ⟨_, rfl⟩
  have HO : Hid (stV (stepN pre x b) = .agg #[.int .i64 3, .string O]) := by
    show _ = _
    unfold stV
    rw [step_stN, hO]
  rw [hO] at HL
  obtain ⟨S, hS⟩ : ∃ S, rend pre x = S := ⟨_, rfl⟩
  rw [hS] at HL HP hne HI ⊢
  have hq : (S.toList == [63]) = false := by
    rw [beq_eq_false_iff_ne, Lib.toList_data]
    exact hne
  clear hne hP hk hO hS
  have HW : Hid (∀ W0, (w.alloc (.cells #[.int .i64 3, .string S] 24)).alloc (.cells #[.int .i64 0, .string ⟨#[]⟩] 24) = W0 → Below w.heap.size w W0 ∧ W0.heap.size = w.heap.size + 2 ∧ blk2 W0 w.heap.size (.int .i64 3) (.string S) ∧ blk2 W0 (w.heap.size + 1) (.int .i64 0) (.string ⟨#[]⟩)) := fun W0 h => by rw [← h]; exact box_new2 w _ _ _ _
  by_cases h32 : b < 32
  · have i32 : (b : Int) < 32 := by omega
    replace hR : Hid (R = withinN (.seq pre x) b) := by
      show _ = _
      rw [← hR.out]
      unfold seqN
      rw [if_pos h32]
    obtain ⟨T, hT⟩ : ∃ T, withinN (.seq pre x) b = T := ⟨_, rfl⟩
    rw [hT] at HI hR
    obtain ⟨n, hn⟩ : ∃ n, stN T.1 = n := ⟨_, rfl⟩
    obtain ⟨s, hs⟩ : ∃ s, stB T.1 = s := ⟨_, rfl⟩
    have HI2 : Hid (∀ W, Calls Tryd.prog 33 #[.agg #[.int .i64 3, .string S], .int .u8 (b : Int)] W fun e u => ∃ v, e = .returned (.tuple #[.agg #[.int .i64 n, .string s], v]) ∧ ActsW (FromP W.heap.size) u v T.2 ∧ Below W.heap.size W u) := fun W => fed_letters (HI.out W) hn hs rfl
    have HV : Hid (stV T.1 = .agg #[.int .i64 n, .string s]) := by show _ = _; rw [← hn, ← hs]; rfl
    clear HN HI hn hs hT HL HP
    go_enter Tryd.func17, Tryd.ntmps17
    go_wp2_with fail
    obtain ⟨W0, hW0⟩ : ∃ W0, (w.alloc (.cells #[.int .i64 3, .string S] 24)).alloc (.cells #[.int .i64 0, .string ⟨#[]⟩] 24) = W0 := ⟨_, rfl⟩
    obtain ⟨hb0, hs0, hBP, hB0⟩ := HW.out W0 hW0
    rw [hW0]
    clear HW hW0
    obtain ⟨⟨p0, p1⟩, r0, r1⟩ := hBP.cells
    go_wp2_with fail
    go_fit (HI2.out _)
    rintro e w1 ⟨v, rfl, hA, hb1⟩
    have hB1 := hB0.below hb1
    have hbw1 := hb0.trans (hb1.mono hb0.size)
    rw [hs0] at hA
    clear hB0 hBP hb0 hs0 hb1 p0 p1 r0 r1 HI2
    obtain ⟨⟨c0, c1⟩, z0, z1⟩ := hB1.cells
    go_wp2_with fail
    obtain ⟨⟨y0, y1⟩, q1, q2⟩ := box_end (w := w) (w1 := w1) (Q := w.heap.size + 1) (.int .i64 n) (.string s) hB1 (Nat.le_succ _) hbw1 (hA)
    rw [hR.out]
    exact bodyPost_ret (v := .tuple #[.agg #[.int .i64 n, .string s], v]) (by simp [results, Tryd.results17, go_sem, y0, y1]) rfl ⟨_, by rw [HV.out], q2, q1⟩
  · have i32 : (32 : Int) ≤ (b : Int) := by omega
    by_cases h64 : b < 64
    · have i64 : (b : Int) < 64 := by omega
      replace hR : Hid (R = (stepN pre x b, [])) := by
        show _ = _
        rw [← hR.out]
        unfold seqN
        rw [if_neg h32, if_pos h64]
      clear HN HI HP
      go_enter Tryd.func17, Tryd.ntmps17
      go_wp2_with fail
      obtain ⟨W0, hW0⟩ : ∃ W0, (w.alloc (.cells #[.int .i64 3, .string S] 24)).alloc (.cells #[.int .i64 0, .string ⟨#[]⟩] 24) = W0 := ⟨_, rfl⟩
      obtain ⟨hb0, hs0, hBP, hB0⟩ := HW.out W0 hW0
      rw [hW0]
      clear HW hW0
      obtain ⟨⟨p0, p1⟩, r0, r1⟩ := hBP.cells
      go_wp2_with fail
      go_fit (HL.out _ hb0)
      rintro e w1 ⟨rfl, hb1⟩
      have hB1 := hB0.below hb1
      have hbw1 := hb0.trans (hb1.mono hb0.size)
      clear hB0 hBP hb0 hs0 hb1 p0 p1 r0 r1 HL
      obtain ⟨⟨c0, c1⟩, z0, z1⟩ := hB1.cells
      go_wp2_with fail
      obtain ⟨⟨y0, y1⟩, q1, q2⟩ := box_end (w := w) (w1 := w1) (Q := w.heap.size + 1) (.int .i64 3) (.string O) hB1 (Nat.le_succ _) hbw1 (ActsW.nil _ _)
      rw [hR.out]
      exact bodyPost_ret (v := .tuple #[.agg #[.int .i64 3, .string O], .slice none 0 0]) (by simp [results, Tryd.results17, go_sem, y0, y1]) rfl ⟨_, by rw [HO.out], q2, q1⟩
    · have i64 : (64 : Int) ≤ (b : Int) := by omega
      by_cases h127 : b < 127
      · have i127 : (b : Int) < 127 := by omega
        replace hR : Hid (R = (.zero, [(3, 0, paramsN pre x, b)])) := by
          show _ = _
          rw [← hR.out]
          unfold seqN
          rw [if_neg h32, if_neg h64, if_pos h127]
        clear HN HI HL
        go_enter Tryd.func17, Tryd.ntmps17
        go_wp2_with fail
        obtain ⟨W0, hW0⟩ : ∃ W0, (w.alloc (.cells #[.int .i64 3, .string S] 24)).alloc (.cells #[.int .i64 0, .string ⟨#[]⟩] 24) = W0 := ⟨_, rfl⟩
        obtain ⟨hb0, hs0, hBP, hB0⟩ := HW.out W0 hW0
        rw [hW0]
        clear HW hW0
        obtain ⟨⟨p0, p1⟩, r0, r1⟩ := hBP.cells
        go_wp2_with fail
        go_fit (HP.out _)
        rintro e w1 ⟨v, rfl, hA, hb1⟩
        have hB1 := hB0.below hb1
        have hbw1 := hb0.trans (hb1.mono hb0.size)
        have hs1 : w.heap.size + 2 ≤ w1.heap.size := by rw [← hs0]; exact hb1.size
        rw [hs0] at hA
        obtain ⟨va, vn, vc, rfl⟩ : ∃ va vn vc, v = .slice va vn vc := by
          obtain ⟨va, vc, hv, _⟩ := hA.1
          exact ⟨va, _, vc, hv⟩
        have hA2 : ActsW (FromP (w.heap.size + 1 + 1)) (w1.alloc (.cells #[.int .i64 3, .int .i32 0, .slice va vn vc, .int .u8 (b : Int)] 34)) (.slice (some ⟨w1.heap.size, 0, none⟩) 1 1) [(3, 0, paramsN pre x, b)] := acts_one (by omega) hA
        have hb2 := (Below.refl w1.heap.size w1).alloc (Nat.le_refl _) (.cells #[.int .i64 3, .int .i32 0, .slice va vn vc, .int .u8 (b : Int)] 34)
        have hB2 := hB1.below hb2
        have hbw2 := hbw1.trans (hb2.mono hbw1.size)
        clear hB0 hBP hb0 hs0 hb1 p0 p1 r0 r1 HP hb2
        obtain ⟨⟨c0, c1⟩, z0, z1⟩ := hB2.cells
        go_wp2_with fail
        obtain ⟨⟨y0, y1⟩, q1, q2⟩ := box_end (w := w) (w1 := w1.alloc (.cells #[.int .i64 3, .int .i32 0, .slice va vn vc, .int .u8 (b : Int)] 34)) (Q := w.heap.size + 1) (.int .i64 0) (.string ⟨#[]⟩) hB2 (Nat.le_succ _) hbw2 (hA2)
        rw [hR.out]
        exact bodyPost_ret (v := .tuple #[.agg #[.int .i64 0, .string ⟨#[]⟩], .slice (some ⟨w1.heap.size, 0, none⟩) 1 1]) (by simp [results, Tryd.results17, go_sem, y0, y1]) rfl ⟨_, rfl, q2, q1⟩
      · have i127 : (127 : Int) ≤ (b : Int) := by omega
        replace hR : Hid (R = (.zero, [badA])) := by
          show _ = _
          rw [← hR.out]
          unfold seqN
          rw [if_neg h32, if_neg h64, if_neg h127]
        clear HL HI HP
        go_enter Tryd.func17, Tryd.ntmps17
        go_wp2_with fail
        obtain ⟨W0, hW0⟩ : ∃ W0, (w.alloc (.cells #[.int .i64 3, .string S] 24)).alloc (.cells #[.int .i64 0, .string ⟨#[]⟩] 24) = W0 := ⟨_, rfl⟩
        obtain ⟨hb0, hs0, hBP, hB0⟩ := HW.out W0 hW0
        rw [hW0]
        clear HW hW0
        obtain ⟨⟨p0, p1⟩, r0, r1⟩ := hBP.cells
        go_wp2_with fail
        go_fit (HN.out _)
        rintro e w1 ⟨v, rfl, hA, _, hb1⟩
        have hB1 := hB0.below hb1
        have hbw1 := hb0.trans (hb1.mono hb0.size)
        rw [hs0] at hA
        clear hB0 hBP hb0 hs0 hb1 HN p0 p1 r0 r1
        obtain ⟨⟨c0, c1⟩, z0, z1⟩ := hB1.cells
        go_wp2_with fail
        obtain ⟨⟨y0, y1⟩, q1, q2⟩ := box_end (w := w) (w1 := w1) (Q := w.heap.size + 1) (.int .i64 0) (.string ⟨#[]⟩) hB1 (Nat.le_succ _) hbw1 (hA)
        rw [hR.out]
        exact bodyPost_ret (v := .tuple #[.agg #[.int .i64 0, .string ⟨#[]⟩], v]) (by simp [results, Tryd.results17, go_sem, y0, y1]) rfl ⟨_, rfl, q2, q1⟩

set_option maxRecDepth 20000 in
set_option maxHeartbeats 4000000 in
theorem wrong_any (b : Nat) (w : World) (hb : b < 256) :
    Calls Tryd.prog 17 #[.agg #[.int .i64 3, .string ⟨#[63]⟩], .int .u8 (b : Int)] w (FedW w (wrongN b)) := by
  obtain ⟨R, hR⟩ : ∃ R, wrongN b = R := ⟨_, rfl⟩
  rw [hR]
  have hR := Lib.hid hR
  have HN := Lib.hid (fun W => invalid_any W)
  have HI : Hid (∀ W, Calls Tryd.prog 33 #[.agg #[.int .i64 3, .string ⟨#[63]⟩], .int .u8 (b : Int)] W (FedW W (withinN .bad b))) := fun W => within_any .bad b W hb
  have HL := Lib.hid (fun W (_ : Below w.heap.size w W) => longer_bad b W)
  have HW : Hid (∀ W0, (w.alloc (.cells #[.int .i64 3, .string ⟨#[63]⟩] 24)).alloc (.cells #[.int .i64 0, .string ⟨#[]⟩] 24) = W0 → Below w.heap.size w W0 ∧ W0.heap.size = w.heap.size + 2 ∧ blk2 W0 w.heap.size (.int .i64 3) (.string ⟨#[63]⟩) ∧ blk2 W0 (w.heap.size + 1) (.int .i64 0) (.string ⟨#[]⟩)) := fun W0 h => by rw [← h]; exact box_new2 w _ _ _ _
  by_cases h32 : b < 32
  · have i32 : (b : Int) < 32 := by omega
    replace hR : Hid (R = withinN .bad b) := by
      show _ = _
      rw [← hR.out]
      unfold wrongN
      rw [if_pos h32]
    obtain ⟨T, hT⟩ : ∃ T, withinN .bad b = T := ⟨_, rfl⟩
    rw [hT] at HI hR
    obtain ⟨n, hn⟩ : ∃ n, stN T.1 = n := ⟨_, rfl⟩
    obtain ⟨s, hs⟩ : ∃ s, stB T.1 = s := ⟨_, rfl⟩
    have HI2 : Hid (∀ W, Calls Tryd.prog 33 #[.agg #[.int .i64 3, .string ⟨#[63]⟩], .int .u8 (b : Int)] W fun e u => ∃ v, e = .returned (.tuple #[.agg #[.int .i64 n, .string s], v]) ∧ ActsW (FromP W.heap.size) u v T.2 ∧ Below W.heap.size W u) := fun W => fed_letters (HI.out W) hn hs rfl
    have HV : Hid (stV T.1 = .agg #[.int .i64 n, .string s]) := by show _ = _; rw [← hn, ← hs]; rfl
    clear HN HI hn hs hT HL
    go_enter Tryd.func17, Tryd.ntmps17
    go_wp2_with fail
    obtain ⟨W0, hW0⟩ : ∃ W0, (w.alloc (.cells #[.int .i64 3, .string ⟨#[63]⟩] 24)).alloc (.cells #[.int .i64 0, .string ⟨#[]⟩] 24) = W0 := ⟨_, rfl⟩
    obtain ⟨hb0, hs0, hBP, hB0⟩ := HW.out W0 hW0
    rw [hW0]
    clear HW hW0
    obtain ⟨⟨p0, p1⟩, r0, r1⟩ := hBP.cells
    go_wp2_with fail
    go_fit (HI2.out _)
    rintro e w1 ⟨v, rfl, hA, hb1⟩
    have hB1 := hB0.below hb1
    have hbw1 := hb0.trans (hb1.mono hb0.size)
    rw [hs0] at hA
    clear hB0 hBP hb0 hs0 hb1 p0 p1 r0 r1 HI2
    obtain ⟨⟨c0, c1⟩, z0, z1⟩ := hB1.cells
    go_wp2_with fail
    obtain ⟨⟨y0, y1⟩, q1, q2⟩ := box_end (w := w) (w1 := w1) (Q := w.heap.size + 1) (.int .i64 n) (.string s) hB1 (Nat.le_succ _) hbw1 (hA)
    rw [hR.out]
    exact bodyPost_ret (v := .tuple #[.agg #[.int .i64 n, .string s], v]) (by simp [results, Tryd.results17, go_sem, y0, y1]) rfl ⟨_, by rw [HV.out], q2, q1⟩
  · have i32 : (32 : Int) ≤ (b : Int) := by omega
    by_cases h64 : b < 64
    · have i64 : (b : Int) < 64 := by omega
      replace hR : Hid (R = (.bad, [])) := by
        show _ = _
        rw [← hR.out]
        unfold wrongN
        rw [if_neg h32, if_pos h64]
      clear HN HI
      go_enter Tryd.func17, Tryd.ntmps17
      go_wp2_with fail
      obtain ⟨W0, hW0⟩ : ∃ W0, (w.alloc (.cells #[.int .i64 3, .string ⟨#[63]⟩] 24)).alloc (.cells #[.int .i64 0, .string ⟨#[]⟩] 24) = W0 := ⟨_, rfl⟩
      obtain ⟨hb0, hs0, hBP, hB0⟩ := HW.out W0 hW0
      rw [hW0]
      clear HW hW0
      obtain ⟨⟨p0, p1⟩, r0, r1⟩ := hBP.cells
      go_wp2_with fail
      go_fit (HL.out _ hb0)
      rintro e w1 ⟨rfl, hb1⟩
      have hB1 := hB0.below hb1
      have hbw1 := hb0.trans (hb1.mono hb0.size)
      clear hB0 hBP hb0 hs0 hb1 p0 p1 r0 r1 HL
      obtain ⟨⟨c0, c1⟩, z0, z1⟩ := hB1.cells
      go_wp2_with fail
      obtain ⟨⟨y0, y1⟩, q1, q2⟩ := box_end (w := w) (w1 := w1) (Q := w.heap.size + 1) (.int .i64 3) (.string ⟨#[63]⟩) hB1 (Nat.le_succ _) hbw1 (ActsW.nil _ _)
      rw [hR.out]
      exact bodyPost_ret (v := .tuple #[.agg #[.int .i64 3, .string ⟨#[63]⟩], .slice none 0 0]) (by simp [results, Tryd.results17, go_sem, y0, y1]) rfl ⟨_, rfl, q2, q1⟩
    · have i64 : (64 : Int) ≤ (b : Int) := by omega
      by_cases h127 : b < 127
      · have i127 : (b : Int) < 127 := by omega
        replace hR : Hid (R = (.zero, [badA])) := by
          show _ = _
          rw [← hR.out]
          unfold wrongN
          rw [if_neg h32, if_neg h64]
        clear HL HI
        go_enter Tryd.func17, Tryd.ntmps17
        go_wp2_with fail
        obtain ⟨W0, hW0⟩ : ∃ W0, (w.alloc (.cells #[.int .i64 3, .string ⟨#[63]⟩] 24)).alloc (.cells #[.int .i64 0, .string ⟨#[]⟩] 24) = W0 := ⟨_, rfl⟩
        obtain ⟨hb0, hs0, hBP, hB0⟩ := HW.out W0 hW0
        rw [hW0]
        clear HW hW0
        obtain ⟨⟨p0, p1⟩, r0, r1⟩ := hBP.cells
        go_wp2_with fail
        go_fit (HN.out _)
        rintro e w1 ⟨v, rfl, hA, _, hb1⟩
        have hB1 := hB0.below hb1
        have hbw1 := hb0.trans (hb1.mono hb0.size)
        rw [hs0] at hA
        clear hB0 hBP hb0 hs0 hb1 HN p0 p1 r0 r1
        obtain ⟨⟨c0, c1⟩, z0, z1⟩ := hB1.cells
        go_wp2_with fail
        obtain ⟨⟨y0, y1⟩, q1, q2⟩ := box_end (w := w) (w1 := w1) (Q := w.heap.size + 1) (.int .i64 0) (.string ⟨#[]⟩) hB1 (Nat.le_succ _) hbw1 (hA)
        rw [hR.out]
        exact bodyPost_ret (v := .tuple #[.agg #[.int .i64 0, .string ⟨#[]⟩], v]) (by simp [results, Tryd.results17, go_sem, y0, y1]) rfl ⟨_, rfl, q2, q1⟩
      · have i127 : (127 : Int) ≤ (b : Int) := by omega
        replace hR : Hid (R = (.zero, [badA])) := by
          show _ = _
          rw [← hR.out]
          unfold wrongN
          rw [if_neg h32, if_neg h64]
        clear HL HI
        go_enter Tryd.func17, Tryd.ntmps17
        go_wp2_with fail
        obtain ⟨W0, hW0⟩ : ∃ W0, (w.alloc (.cells #[.int .i64 3, .string ⟨#[63]⟩] 24)).alloc (.cells #[.int .i64 0, .string ⟨#[]⟩] 24) = W0 := ⟨_, rfl⟩
        obtain ⟨hb0, hs0, hBP, hB0⟩ := HW.out W0 hW0
        rw [hW0]
        clear HW hW0
        obtain ⟨⟨p0, p1⟩, r0, r1⟩ := hBP.cells
        go_wp2_with fail
        go_fit (HN.out _)
        rintro e w1 ⟨v, rfl, hA, _, hb1⟩
        have hB1 := hB0.below hb1
        have hbw1 := hb0.trans (hb1.mono hb0.size)
        rw [hs0] at hA
        clear hB0 hBP hb0 hs0 hb1 HN p0 p1 r0 r1
        obtain ⟨⟨c0, c1⟩, z0, z1⟩ := hB1.cells
        go_wp2_with fail
        obtain ⟨⟨y0, y1⟩, q1, q2⟩ := box_end (w := w) (w1 := w1) (Q := w.heap.size + 1) (.int .i64 0) (.string ⟨#[]⟩) hB1 (Nat.le_succ _) hbw1 (hA)
        rw [hR.out]
        exact bodyPost_ret (v := .tuple #[.agg #[.int .i64 0, .string ⟨#[]⟩], v]) (by simp [results, Tryd.results17, go_sem, y0, y1]) rfl ⟨_, rfl, q2, q1⟩
end Go.Proofs.YtbpnnnjbddjboaaDoor
