/-
  parser.Feed: what it returns: for every state that may be, for every byte.
-/
import Derived.Test.YtbpnnnjbddjboaaDoorPsStart
namespace Go.Proofs.YtbpnnnjbddjboaaDoor
open Go.RowKit

set_option maxRecDepth 20000 in
set_option maxHeartbeats 4000000 in
theorem feed_zero (b : Nat) (w : World) (hb : b < 256) (hP : LaidP w) :
    Calls Tryd.prog 9 #[.agg #[.int .i64 0, .string ⟨#[]⟩], .int .u8 (b : Int)] w (FedW w (firstN b)) := by
  obtain ⟨R, hR⟩ : ∃ R, firstN b = R := ⟨_, rfl⟩
  have HF : Hid (∀ W, Below w.heap.size w W → Calls Tryd.prog 15 #[.int .u8 (b : Int)] W (FedW W R)) := fun W hW => by rw [← hR]; exact first_any b W hb (hP.tab.below hW)
  rw [hR]
  obtain ⟨n, hn⟩ : ∃ n, stN R.1 = n := ⟨_, rfl⟩
  obtain ⟨z, hz⟩ : ∃ z, stB R.1 = z := ⟨_, rfl⟩
  have HF2 := Lib.hid (fun W hW => fed_letters (HF.out W hW) hn hz rfl)
  have HV : Hid (stV R.1 = .agg #[.int .i64 n, .string z]) := by show _ = _; rw [← hn, ← hz]; rfl
  have hR : Hid (R = R) := rfl
  clear HF hn hz hP
  have HW : Hid (∀ W0, (w.alloc (.cells #[.int .i64 0, .string ⟨#[]⟩] 24)).alloc (.cells #[.int .i64 0, .string ⟨#[]⟩] 24) = W0 → Below w.heap.size w W0 ∧ W0.heap.size = w.heap.size + 2 ∧ blk2 W0 w.heap.size (.int .i64 0) (.string ⟨#[]⟩) ∧ blk2 W0 (w.heap.size + 1) (.int .i64 0) (.string ⟨#[]⟩)) := fun W0 h => by rw [← h]; exact box_new2 w _ _ _ _
  go_enter Tryd.func9, Tryd.ntmps9
  go_wp2_with fail
  obtain ⟨W0, hW0⟩ : ∃ W0, (w.alloc (.cells #[.int .i64 0, .string ⟨#[]⟩] 24)).alloc (.cells #[.int .i64 0, .string ⟨#[]⟩] 24) = W0 := ⟨_, rfl⟩
  obtain ⟨hb0, hs0, hBP, hB0⟩ := HW.out W0 hW0
  rw [hW0]
  clear HW hW0
  obtain ⟨⟨p0, p1⟩, r0, r1⟩ := hBP.cells
  go_wp2_with fail
  go_fit (HF2.out _ hb0)
  rintro e w1 ⟨v, rfl, hA, hb1⟩
  have hB1 := hB0.below hb1
  have hbw1 := hb0.trans (hb1.mono hb0.size)
  rw [hs0] at hA
  clear hB0 hBP hb0 hs0 hb1 p0 p1 r0 r1 HF2
  obtain ⟨⟨c0, c1⟩, z0, z1⟩ := hB1.cells
  go_wp2_with fail
  obtain ⟨⟨y0, y1⟩, q1, q2⟩ := box_end (w := w) (w1 := w1) (Q := w.heap.size + 1) (.int .i64 n) (.string z) hB1 (Nat.le_succ _) hbw1 (hA)
  exact bodyPost_ret (v := .tuple #[.agg #[.int .i64 n, .string z], v]) (by simp [results, Tryd.results9, go_sem, y0, y1]) rfl ⟨_, by rw [HV.out], q2, q1⟩

set_option maxRecDepth 20000 in
set_option maxHeartbeats 4000000 in
theorem feed_start (s : ByteArray) (b : Nat) (w : World) (hb : b < 256) (hP : LaidP w) (hS : Beg s) :
    Calls Tryd.prog 9 #[.agg #[.int .i64 1, .string s], .int .u8 (b : Int)] w (FedW w (startN s b)) := by
  have hne : (s.toList == []) = false := by
    rw [beq_eq_false_iff_ne, Lib.toList_data]
    intro h
    have := Lib.size_eq s
    rw [h] at this
    rcases hS with k | k | k <;> (rw [k.1] at this; cases this)
  obtain ⟨R, hR⟩ : ∃ R, startN s b = R := ⟨_, rfl⟩
  have HF : Hid (∀ W, Below w.heap.size w W → Calls Tryd.prog 18 #[.agg #[.int .i64 1, .string s], .int .u8 (b : Int)] W (FedW W R)) := fun W hW => by rw [← hR]; exact start_any s b W hb hS (hP.tab.below hW)
  rw [hR]
  obtain ⟨n, hn⟩ : ∃ n, stN R.1 = n := ⟨_, rfl⟩
  obtain ⟨z, hz⟩ : ∃ z, stB R.1 = z := ⟨_, rfl⟩
  have HF2 := Lib.hid (fun W hW => fed_letters (HF.out W hW) hn hz rfl)
  have HV : Hid (stV R.1 = .agg #[.int .i64 n, .string z]) := by show _ = _; rw [← hn, ← hz]; rfl
  have hR : Hid (R = R) := rfl
  clear HF hn hz hP
  have HW : Hid (∀ W0, (w.alloc (.cells #[.int .i64 1, .string s] 24)).alloc (.cells #[.int .i64 0, .string ⟨#[]⟩] 24) = W0 → Below w.heap.size w W0 ∧ W0.heap.size = w.heap.size + 2 ∧ blk2 W0 w.heap.size (.int .i64 1) (.string s) ∧ blk2 W0 (w.heap.size + 1) (.int .i64 0) (.string ⟨#[]⟩)) := fun W0 h => by rw [← h]; exact box_new2 w _ _ _ _
  go_enter Tryd.func9, Tryd.ntmps9
  go_wp2_with fail
  obtain ⟨W0, hW0⟩ : ∃ W0, (w.alloc (.cells #[.int .i64 1, .string s] 24)).alloc (.cells #[.int .i64 0, .string ⟨#[]⟩] 24) = W0 := ⟨_, rfl⟩
  obtain ⟨hb0, hs0, hBP, hB0⟩ := HW.out W0 hW0
  rw [hW0]
  clear HW hW0
  obtain ⟨⟨p0, p1⟩, r0, r1⟩ := hBP.cells
  go_wp2_with fail
  go_fit (HF2.out _ hb0)
  rintro e w1 ⟨v, rfl, hA, hb1⟩
  have hB1 := hB0.below hb1
  have hbw1 := hb0.trans (hb1.mono hb0.size)
  rw [hs0] at hA
  clear hB0 hBP hb0 hs0 hb1 p0 p1 r0 r1 HF2
  obtain ⟨⟨c0, c1⟩, z0, z1⟩ := hB1.cells
  go_wp2_with fail
  obtain ⟨⟨y0, y1⟩, q1, q2⟩ := box_end (w := w) (w1 := w1) (Q := w.heap.size + 1) (.int .i64 n) (.string z) hB1 (Nat.le_succ _) hbw1 (hA)
  exact bodyPost_ret (v := .tuple #[.agg #[.int .i64 n, .string z], v]) (by simp [results, Tryd.results9, go_sem, y0, y1]) rfl ⟨_, by rw [HV.out], q2, q1⟩

set_option maxRecDepth 20000 in
set_option maxHeartbeats 4000000 in
theorem feed_esc (b : Nat) (w : World) (hb : b < 256) (_hP : LaidP w) :
    Calls Tryd.prog 9 #[.agg #[.int .i64 2, .string ⟨#[]⟩], .int .u8 (b : Int)] w (FedW w (escN b)) := by
  obtain ⟨R, hR⟩ : ∃ R, escN b = R := ⟨_, rfl⟩
  have HF : Hid (∀ W, Below w.heap.size w W → Calls Tryd.prog 16 #[.agg #[.int .i64 2, .string ⟨#[]⟩], .int .u8 (b : Int)] W (FedW W R)) := fun W hW => by rw [← hR]; exact esc_any b W hb
  rw [hR]
  obtain ⟨n, hn⟩ : ∃ n, stN R.1 = n := ⟨_, rfl⟩
  obtain ⟨z, hz⟩ : ∃ z, stB R.1 = z := ⟨_, rfl⟩
  have HF2 := Lib.hid (fun W hW => fed_letters (HF.out W hW) hn hz rfl)
  have HV : Hid (stV R.1 = .agg #[.int .i64 n, .string z]) := by show _ = _; rw [← hn, ← hz]; rfl
  have hR : Hid (R = R) := rfl
  clear HF hn hz
  have HW : Hid (∀ W0, (w.alloc (.cells #[.int .i64 2, .string ⟨#[]⟩] 24)).alloc (.cells #[.int .i64 0, .string ⟨#[]⟩] 24) = W0 → Below w.heap.size w W0 ∧ W0.heap.size = w.heap.size + 2 ∧ blk2 W0 w.heap.size (.int .i64 2) (.string ⟨#[]⟩) ∧ blk2 W0 (w.heap.size + 1) (.int .i64 0) (.string ⟨#[]⟩)) := fun W0 h => by rw [← h]; exact box_new2 w _ _ _ _
  go_enter Tryd.func9, Tryd.ntmps9
  go_wp2_with fail
  obtain ⟨W0, hW0⟩ : ∃ W0, (w.alloc (.cells #[.int .i64 2, .string ⟨#[]⟩] 24)).alloc (.cells #[.int .i64 0, .string ⟨#[]⟩] 24) = W0 := ⟨_, rfl⟩
  obtain ⟨hb0, hs0, hBP, hB0⟩ := HW.out W0 hW0
  rw [hW0]
  clear HW hW0
  obtain ⟨⟨p0, p1⟩, r0, r1⟩ := hBP.cells
  go_wp2_with fail
  go_fit (HF2.out _ hb0)
  rintro e w1 ⟨v, rfl, hA, hb1⟩
  have hB1 := hB0.below hb1
  have hbw1 := hb0.trans (hb1.mono hb0.size)
  rw [hs0] at hA
  clear hB0 hBP hb0 hs0 hb1 p0 p1 r0 r1 HF2
  obtain ⟨⟨c0, c1⟩, z0, z1⟩ := hB1.cells
  go_wp2_with fail
  obtain ⟨⟨y0, y1⟩, q1, q2⟩ := box_end (w := w) (w1 := w1) (Q := w.heap.size + 1) (.int .i64 n) (.string z) hB1 (Nat.le_succ _) hbw1 (hA)
  exact bodyPost_ret (v := .tuple #[.agg #[.int .i64 n, .string z], v]) (by simp [results, Tryd.results9, go_sem, y0, y1]) rfl ⟨_, by rw [HV.out], q2, q1⟩

set_option maxRecDepth 20000 in
set_option maxHeartbeats 4000000 in
theorem feed_seq (pre : List (Option Nat)) (x : Option Nat) (b : Nat) (w : World) (hb : b < 256) (hP : LaidP w) (hk : OkP (.seq pre x)) :
    Calls Tryd.prog 9 #[.agg #[.int .i64 3, .string (rend pre x)], .int .u8 (b : Int)] w (FedW w (seqN pre x b)) := by
  obtain ⟨R, hR⟩ : ∃ R, seqN pre x b = R := ⟨_, rfl⟩
  have HF : Hid (∀ W, Below w.heap.size w W → Calls Tryd.prog 17 #[.agg #[.int .i64 3, .string (rend pre x)], .int .u8 (b : Int)] W (FedW W R)) := fun W hW => by rw [← hR]; exact seq_any pre x b W hb hk (hP.pow.below hW)
  rw [hR]
  obtain ⟨n, hn⟩ : ∃ n, stN R.1 = n := ⟨_, rfl⟩
  obtain ⟨z, hz⟩ : ∃ z, stB R.1 = z := ⟨_, rfl⟩
  have HF2 := Lib.hid (fun W hW => fed_letters (HF.out W hW) hn hz rfl)
  have HV : Hid (stV R.1 = .agg #[.int .i64 n, .string z]) := by show _ = _; rw [← hn, ← hz]; rfl
  have hR : Hid (R = R) := rfl
  clear HF hn hz hP
  have HW : Hid (∀ W0, (w.alloc (.cells #[.int .i64 3, .string (rend pre x)] 24)).alloc (.cells #[.int .i64 0, .string ⟨#[]⟩] 24) = W0 → Below w.heap.size w W0 ∧ W0.heap.size = w.heap.size + 2 ∧ blk2 W0 w.heap.size (.int .i64 3) (.string (rend pre x)) ∧ blk2 W0 (w.heap.size + 1) (.int .i64 0) (.string ⟨#[]⟩)) := fun W0 h => by rw [← h]; exact box_new2 w _ _ _ _
  go_enter Tryd.func9, Tryd.ntmps9
  go_wp2_with fail
  obtain ⟨W0, hW0⟩ : ∃ W0, (w.alloc (.cells #[.int .i64 3, .string (rend pre x)] 24)).alloc (.cells #[.int .i64 0, .string ⟨#[]⟩] 24) = W0 := ⟨_, rfl⟩
  obtain ⟨hb0, hs0, hBP, hB0⟩ := HW.out W0 hW0
  rw [hW0]
  clear HW hW0
  obtain ⟨⟨p0, p1⟩, r0, r1⟩ := hBP.cells
  go_wp2_with fail
  go_fit (HF2.out _ hb0)
  rintro e w1 ⟨v, rfl, hA, hb1⟩
  have hB1 := hB0.below hb1
  have hbw1 := hb0.trans (hb1.mono hb0.size)
  rw [hs0] at hA
  clear hB0 hBP hb0 hs0 hb1 p0 p1 r0 r1 HF2
  obtain ⟨⟨c0, c1⟩, z0, z1⟩ := hB1.cells
  go_wp2_with fail
  obtain ⟨⟨y0, y1⟩, q1, q2⟩ := box_end (w := w) (w1 := w1) (Q := w.heap.size + 1) (.int .i64 n) (.string z) hB1 (Nat.le_succ _) hbw1 (hA)
  exact bodyPost_ret (v := .tuple #[.agg #[.int .i64 n, .string z], v]) (by simp [results, Tryd.results9, go_sem, y0, y1]) rfl ⟨_, by rw [HV.out], q2, q1⟩

set_option maxRecDepth 20000 in
set_option maxHeartbeats 4000000 in
theorem feed_bad (b : Nat) (w : World) (hb : b < 256) (_hP : LaidP w) :
    Calls Tryd.prog 9 #[.agg #[.int .i64 3, .string ⟨#[63]⟩], .int .u8 (b : Int)] w (FedW w (wrongN b)) := by
  obtain ⟨R, hR⟩ : ∃ R, wrongN b = R := ⟨_, rfl⟩
  have HF : Hid (∀ W, Below w.heap.size w W → Calls Tryd.prog 17 #[.agg #[.int .i64 3, .string ⟨#[63]⟩], .int .u8 (b : Int)] W (FedW W R)) := fun W hW => by rw [← hR]; exact wrong_any b W hb
  rw [hR]
  obtain ⟨n, hn⟩ : ∃ n, stN R.1 = n := ⟨_, rfl⟩
  obtain ⟨z, hz⟩ : ∃ z, stB R.1 = z := ⟨_, rfl⟩
  have HF2 := Lib.hid (fun W hW => fed_letters (HF.out W hW) hn hz rfl)
  have HV : Hid (stV R.1 = .agg #[.int .i64 n, .string z]) := by show _ = _; rw [← hn, ← hz]; rfl
  have hR : Hid (R = R) := rfl
  clear HF hn hz
  have HW : Hid (∀ W0, (w.alloc (.cells #[.int .i64 3, .string ⟨#[63]⟩] 24)).alloc (.cells #[.int .i64 0, .string ⟨#[]⟩] 24) = W0 → Below w.heap.size w W0 ∧ W0.heap.size = w.heap.size + 2 ∧ blk2 W0 w.heap.size (.int .i64 3) (.string ⟨#[63]⟩) ∧ blk2 W0 (w.heap.size + 1) (.int .i64 0) (.string ⟨#[]⟩)) := fun W0 h => by rw [← h]; exact box_new2 w _ _ _ _
  go_enter Tryd.func9, Tryd.ntmps9
  go_wp2_with fail
  obtain ⟨W0, hW0⟩ : ∃ W0, (w.alloc (.cells #[.int .i64 3, .string ⟨#[63]⟩] 24)).alloc (.cells #[.int .i64 0, .string ⟨#[]⟩] 24) = W0 := ⟨_, rfl⟩
  obtain ⟨hb0, hs0, hBP, hB0⟩ := HW.out W0 hW0
  rw [hW0]
  clear HW hW0
  obtain ⟨⟨p0, p1⟩, r0, r1⟩ := hBP.cells
  go_wp2_with fail
  go_fit (HF2.out _ hb0)
  rintro e w1 ⟨v, rfl, hA, hb1⟩
  have hB1 := hB0.below hb1
  have hbw1 := hb0.trans (hb1.mono hb0.size)
  rw [hs0] at hA
  clear hB0 hBP hb0 hs0 hb1 p0 p1 r0 r1 HF2
  obtain ⟨⟨c0, c1⟩, z0, z1⟩ := hB1.cells
  go_wp2_with fail
  obtain ⟨⟨y0, y1⟩, q1, q2⟩ := box_end (w := w) (w1 := w1) (Q := w.heap.size + 1) (.int .i64 n) (.string z) hB1 (Nat.le_succ _) hbw1 (hA)
  exact bodyPost_ret (v := .tuple #[.agg #[.int .i64 n, .string z], v]) (by simp [results, Tryd.results9, go_sem, y0, y1]) rfl ⟨_, by rw [HV.out], q2, q1⟩

theorem feed_any (p : Ps) (b : Nat) (w : World) (hb : b < 256) (hP : LaidP w) (hk : OkP p) :
    Calls Tryd.prog 9 #[stV p, .int .u8 (b : Int)] w (FedW w (feedN p b)) := by
  cases p with
  | zero => exact feed_zero b w hb hP
  | start s => exact feed_start s b w hb hP hk
  | esc => exact feed_esc b w hb hP
  | seq pre x => exact feed_seq pre x b w hb hP hk
  | bad => exact feed_bad b w hb hP
end Go.Proofs.YtbpnnnjbddjboaaDoor
