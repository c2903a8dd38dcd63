/-
  limnerref09: first, anew: what each returns, where the document's decoder stands then: for every byte.
-/
import Derived.Test.YtdnldfgolbcjiaaDoorBe35
import Derived.Test.YtdnldfgolbcjiaaDoorBe39
namespace Go.Proofs.YtdnldfgolbcjiaaDoor
open Go.RowKit

set_option maxRecDepth 4000 in
set_option maxHeartbeats 8000000 in
theorem rfirst_any (R b : Nat) (x v : Value) (w : World) (hB : boxR w R x (.bool false) v) (hb : b < 256) :
    Calls Tryd.prog 28 #[.pointer (some ⟨R, 0, none⟩), .int .u8 (b : Int)] w (FedH R v w (firstK b)) := by
  have hl := hB.lt
  obtain ⟨⟨c0, _, _⟩, f0, _, _⟩ := hB.cells
  have cv := bytes_conv 28 Tryd.underlying28 ((row_byte 0 w b hb (Nat.zero_le _)).bytes)
  obtain ⟨W1, hW1⟩ : ∃ W1, (w.setCell ⟨R, 0, none⟩ (.string ⟨#[]⟩)).alloc (.cells #[.int .u8 (b : Int)] 5) = W1 := ⟨_, rfl⟩
  have hk1 : KeepW (fun k => k ≠ R) w W1 := by rw [← hW1]; exact (keep_R _ _ _ _).trans (keep_below _ (alloc_below _ _))
  have hB1 : boxR W1 R (.string (heldS (.held noB))) (.bool (isP (.held noB))) v := by rw [← hW1]; exact (hB.set0 _).below (alloc_below _ _)
  have HK1 := Lib.hid hk1
  have HB1 := Lib.hid hB1
  have HW1 := Lib.hid hW1
  have HBG := Lib.hid (fun W => begins_any (oneS b) W (by rw [one_size]; decide) (by rw [one_size]; decide))
  clear hk1 hB1 hW1
  by_cases e27 : b = 27
  · have HE : Hid (firstK b = (.held (oneS b), [])) := by show firstK b = _; unfold firstK; rw [if_pos (.inl e27)]
    rw [HE.out]
    subst e27
    have cv' : (convert 28 9 (.slice (some ⟨w.heap.size, 0, none⟩) 1 1)).run Tryd.prog (w.alloc (.cells #[.int .u8 27] 5)) = .ok (.string (oneS 27)) (w.alloc (.cells #[.int .u8 27] 5)) := cv
    have HW1' : Hid ((w.setCell ⟨R, 0, none⟩ (.string ⟨#[]⟩)).alloc (.cells #[.int .u8 27] 5) = W1) := HW1
    clear cv
    go_enter Tryd.func28, Tryd.ntmps28
    go_wp2_with fail
    go_ret
    exact fedh_none (p := .held (oneS 27)) (((keep_R w R 0 (.string ⟨#[]⟩)).trans (keep_R _ _ _ _)).trans (keep_below _ (alloc_below _ _))) (((hB.set0 _).set0 _).below (alloc_below _ _)) rfl
  have i27 : ((b : Int) == 27) = false := u8_no e27
  by_cases h128 : b < 128
  · have j128 : (b : Int) < 128 := by omega
    have HNB : Hid (¬ (b = 27 ∨ begB (oneS b) = true)) := by
      rintro (h | h)
      · exact e27 h
      · have := beg_first _ (of_decide_eq_true h : Beg _)
        rw [bt_one b hb] at this
        omega
    by_cases c13 : b = 13
    · have HE : Hid (firstK b = (.held noB, [(2, 0, noB)])) := by
        show firstK b = _
        unfold firstK
        rw [if_neg HNB.out]
        show (Ky.held noB, [oneK b]) = _
        unfold oneK ctlK
        rw [if_pos (by omega), if_pos (by omega)]
      subst c13
      have cv' : (convert 28 9 (.slice (some ⟨w.heap.size, 0, none⟩) 1 1)).run Tryd.prog (w.alloc (.cells #[.int .u8 13] 5)) = .ok (.string (oneS 13)) (w.alloc (.cells #[.int .u8 13] 5)) := cv
      have HW1' : Hid ((w.setCell ⟨R, 0, none⟩ (.string ⟨#[]⟩)).alloc (.cells #[.int .u8 13] 5) = W1) := HW1
      clear cv
      have HK : Hid (∀ W, Calls Tryd.prog 31 #[.int .i64 2, .int .i32 0, .string ⟨#[]⟩] W fun e w' => ∃ u, e = .returned u ∧ OutK W.heap.size w' u [(2, 0, noB)] ∧ Below W.heap.size W w') := fun W => rkey_any 2 0 noB W
      rw [HE.out]
      go_enter Tryd.func28, Tryd.ntmps28
      go_wp2_with fail
      rw [HW1'.out]
      go_fit (HK.out _)
      rintro e w2 ⟨u, rfl, hu, hb2⟩
      have HF := Lib.hid (fedh_key (R := R) (v := v) (p := .held noB) HK1.out hu hb2 HB1.out rfl)
      clear hu hb2
      go_wp2_with fail
      go_ret
      exact HF.out
    have q13 : ((b : Int) == 13) = false := u8_no c13
    by_cases c10 : b = 10
    · have HE : Hid (firstK b = (.held noB, [(2, 0, noB)])) := by
        show firstK b = _
        unfold firstK
        rw [if_neg HNB.out]
        show (Ky.held noB, [oneK b]) = _
        unfold oneK ctlK
        rw [if_pos (by omega), if_pos (by omega)]
      subst c10
      have cv' : (convert 28 9 (.slice (some ⟨w.heap.size, 0, none⟩) 1 1)).run Tryd.prog (w.alloc (.cells #[.int .u8 10] 5)) = .ok (.string (oneS 10)) (w.alloc (.cells #[.int .u8 10] 5)) := cv
      have HW1' : Hid ((w.setCell ⟨R, 0, none⟩ (.string ⟨#[]⟩)).alloc (.cells #[.int .u8 10] 5) = W1) := HW1
      clear cv
      have HK : Hid (∀ W, Calls Tryd.prog 31 #[.int .i64 2, .int .i32 0, .string ⟨#[]⟩] W fun e w' => ∃ u, e = .returned u ∧ OutK W.heap.size w' u [(2, 0, noB)] ∧ Below W.heap.size W w') := fun W => rkey_any 2 0 noB W
      rw [HE.out]
      go_enter Tryd.func28, Tryd.ntmps28
      go_wp2_with fail
      rw [HW1'.out]
      go_fit (HK.out _)
      rintro e w2 ⟨u, rfl, hu, hb2⟩
      have HF := Lib.hid (fedh_key (R := R) (v := v) (p := .held noB) HK1.out hu hb2 HB1.out rfl)
      clear hu hb2
      go_wp2_with fail
      go_ret
      exact HF.out
    have q10 : ((b : Int) == 10) = false := u8_no c10
    by_cases c9 : b = 9
    · have HE : Hid (firstK b = (.held noB, [(3, 0, noB)])) := by
        show firstK b = _
        unfold firstK
        rw [if_neg HNB.out]
        show (Ky.held noB, [oneK b]) = _
        unfold oneK ctlK
        rw [if_pos (by omega), if_neg (by omega), if_pos (by omega)]
      subst c9
      have cv' : (convert 28 9 (.slice (some ⟨w.heap.size, 0, none⟩) 1 1)).run Tryd.prog (w.alloc (.cells #[.int .u8 9] 5)) = .ok (.string (oneS 9)) (w.alloc (.cells #[.int .u8 9] 5)) := cv
      have HW1' : Hid ((w.setCell ⟨R, 0, none⟩ (.string ⟨#[]⟩)).alloc (.cells #[.int .u8 9] 5) = W1) := HW1
      clear cv
      have HK : Hid (∀ W, Calls Tryd.prog 31 #[.int .i64 3, .int .i32 0, .string ⟨#[]⟩] W fun e w' => ∃ u, e = .returned u ∧ OutK W.heap.size w' u [(3, 0, noB)] ∧ Below W.heap.size W w') := fun W => rkey_any 3 0 noB W
      rw [HE.out]
      go_enter Tryd.func28, Tryd.ntmps28
      go_wp2_with fail
      rw [HW1'.out]
      go_fit (HK.out _)
      rintro e w2 ⟨u, rfl, hu, hb2⟩
      have HF := Lib.hid (fedh_key (R := R) (v := v) (p := .held noB) HK1.out hu hb2 HB1.out rfl)
      clear hu hb2
      go_wp2_with fail
      go_ret
      exact HF.out
    have q9 : ((b : Int) == 9) = false := u8_no c9
    by_cases c8 : b = 8
    · have HE : Hid (firstK b = (.held noB, [(4, 0, noB)])) := by
        show firstK b = _
        unfold firstK
        rw [if_neg HNB.out]
        show (Ky.held noB, [oneK b]) = _
        unfold oneK ctlK
        rw [if_pos (by omega), if_neg (by omega), if_neg (by omega), if_pos (by omega)]
      subst c8
      have cv' : (convert 28 9 (.slice (some ⟨w.heap.size, 0, none⟩) 1 1)).run Tryd.prog (w.alloc (.cells #[.int .u8 8] 5)) = .ok (.string (oneS 8)) (w.alloc (.cells #[.int .u8 8] 5)) := cv
      have HW1' : Hid ((w.setCell ⟨R, 0, none⟩ (.string ⟨#[]⟩)).alloc (.cells #[.int .u8 8] 5) = W1) := HW1
      clear cv
      have HK : Hid (∀ W, Calls Tryd.prog 31 #[.int .i64 4, .int .i32 0, .string ⟨#[]⟩] W fun e w' => ∃ u, e = .returned u ∧ OutK W.heap.size w' u [(4, 0, noB)] ∧ Below W.heap.size W w') := fun W => rkey_any 4 0 noB W
      rw [HE.out]
      go_enter Tryd.func28, Tryd.ntmps28
      go_wp2_with fail
      rw [HW1'.out]
      go_fit (HK.out _)
      rintro e w2 ⟨u, rfl, hu, hb2⟩
      have HF := Lib.hid (fedh_key (R := R) (v := v) (p := .held noB) HK1.out hu hb2 HB1.out rfl)
      clear hu hb2
      go_wp2_with fail
      go_ret
      exact HF.out
    have q8 : ((b : Int) == 8) = false := u8_no c8
    by_cases c127 : b = 127
    · have HE : Hid (firstK b = (.held noB, [(4, 0, noB)])) := by
        show firstK b = _
        unfold firstK
        rw [if_neg HNB.out]
        show (Ky.held noB, [oneK b]) = _
        unfold oneK ctlK
        rw [if_pos (by omega), if_neg (by omega), if_neg (by omega), if_pos (by omega)]
      subst c127
      have cv' : (convert 28 9 (.slice (some ⟨w.heap.size, 0, none⟩) 1 1)).run Tryd.prog (w.alloc (.cells #[.int .u8 127] 5)) = .ok (.string (oneS 127)) (w.alloc (.cells #[.int .u8 127] 5)) := cv
      have HW1' : Hid ((w.setCell ⟨R, 0, none⟩ (.string ⟨#[]⟩)).alloc (.cells #[.int .u8 127] 5) = W1) := HW1
      clear cv
      have HK : Hid (∀ W, Calls Tryd.prog 31 #[.int .i64 4, .int .i32 0, .string ⟨#[]⟩] W fun e w' => ∃ u, e = .returned u ∧ OutK W.heap.size w' u [(4, 0, noB)] ∧ Below W.heap.size W w') := fun W => rkey_any 4 0 noB W
      rw [HE.out]
      go_enter Tryd.func28, Tryd.ntmps28
      go_wp2_with fail
      rw [HW1'.out]
      go_fit (HK.out _)
      rintro e w2 ⟨u, rfl, hu, hb2⟩
      have HF := Lib.hid (fedh_key (R := R) (v := v) (p := .held noB) HK1.out hu hb2 HB1.out rfl)
      clear hu hb2
      go_wp2_with fail
      go_ret
      exact HF.out
    have q127 : ((b : Int) == 127) = false := u8_no c127
    by_cases c0 : b = 0
    · have HE : Hid (firstK b = (.held noB, [(6, 64, noB)])) := by
        show firstK b = _
        unfold firstK
        rw [if_neg HNB.out]
        show (Ky.held noB, [oneK b]) = _
        unfold oneK ctlK
        rw [if_pos (by omega), if_neg (by omega), if_neg (by omega), if_neg (by omega), if_pos (by omega), c0]
      subst c0
      have cv' : (convert 28 9 (.slice (some ⟨w.heap.size, 0, none⟩) 1 1)).run Tryd.prog (w.alloc (.cells #[.int .u8 0] 5)) = .ok (.string (oneS 0)) (w.alloc (.cells #[.int .u8 0] 5)) := cv
      have HW1' : Hid ((w.setCell ⟨R, 0, none⟩ (.string ⟨#[]⟩)).alloc (.cells #[.int .u8 0] 5) = W1) := HW1
      clear cv
      have HK : Hid (∀ W, Calls Tryd.prog 31 #[.int .i64 6, .int .i32 64, .string ⟨#[]⟩] W fun e w' => ∃ u, e = .returned u ∧ OutK W.heap.size w' u [(6, 64, noB)] ∧ Below W.heap.size W w') := fun W => rkey_any 6 64 noB W
      rw [HE.out]
      go_enter Tryd.func28, Tryd.ntmps28
      go_wp2_with fail
      rw [HW1'.out]
      go_fit (HK.out _)
      rintro e w2 ⟨u, rfl, hu, hb2⟩
      have HF := Lib.hid (fedh_key (R := R) (v := v) (p := .held noB) HK1.out hu hb2 HB1.out rfl)
      clear hu hb2
      go_wp2_with fail
      go_ret
      exact HF.out
    have q0 : ((b : Int) == 0) = false := u8_no c0
    by_cases c28 : 28 ≤ b ∧ b < 32
    · have HE : Hid (firstK b = (.held noB, [(6, b + 64, noB)])) := by
        show firstK b = _
        unfold firstK
        rw [if_neg HNB.out]
        show (Ky.held noB, [oneK b]) = _
        unfold oneK ctlK
        rw [if_pos (by omega), if_neg (by omega), if_neg (by omega), if_neg (by omega), if_pos (by omega)]
      have j28 : (28 : Int) ≤ (b : Int) := by omega
      have j32 : (b : Int) < 32 := by omega
      have HK : Hid (∀ W, Calls Tryd.prog 31 #[.int .i64 6, .int .i32 ((b : Int) + 64), .string ⟨#[]⟩] W fun e w' => ∃ u, e = .returned u ∧ OutK W.heap.size w' u [(6, b + 64, noB)] ∧ Below W.heap.size W w') := fun W => rkey_any 6 (b + 64) noB W
      rw [HE.out]
      go_enter Tryd.func28, Tryd.ntmps28
      go_wp2_with fail
      rw [HW1.out]
      go_fit (HK.out _)
      rintro e w2 ⟨u, rfl, hu, hb2⟩
      have HF := Lib.hid (fedh_key (R := R) (v := v) (p := .held noB) HK1.out hu hb2 HB1.out rfl)
      clear hu hb2
      go_wp2_with fail
      go_ret
      exact HF.out
    by_cases c32 : b < 32
    · have HE : Hid (firstK b = (.held noB, [(6, b + 96, noB)])) := by
        show firstK b = _
        unfold firstK
        rw [if_neg HNB.out]
        show (Ky.held noB, [oneK b]) = _
        unfold oneK ctlK
        rw [if_pos (by omega), if_neg (by omega), if_neg (by omega), if_neg (by omega), if_neg (by omega)]
      have j28 : (b : Int) < 28 := by omega
      have j32 : (b : Int) < 32 := by omega
      have HK : Hid (∀ W, Calls Tryd.prog 31 #[.int .i64 6, .int .i32 ((b : Int) + 96), .string ⟨#[]⟩] W fun e w' => ∃ u, e = .returned u ∧ OutK W.heap.size w' u [(6, b + 96, noB)] ∧ Below W.heap.size W w') := fun W => rkey_any 6 (b + 96) noB W
      rw [HE.out]
      go_enter Tryd.func28, Tryd.ntmps28
      go_wp2_with fail
      rw [HW1.out]
      go_fit (HK.out _)
      rintro e w2 ⟨u, rfl, hu, hb2⟩
      have HF := Lib.hid (fedh_key (R := R) (v := v) (p := .held noB) HK1.out hu hb2 HB1.out rfl)
      clear hu hb2
      go_wp2_with fail
      go_ret
      exact HF.out
    have c126 : 32 ≤ b ∧ b < 127 := by omega
    by_cases ct : 32 ≤ b
    · have HE : Hid (firstK b = (.held noB, [(1, b, noB)])) := by
        show firstK b = _
        unfold firstK
        rw [if_neg HNB.out]
        show (Ky.held noB, [oneK b]) = _
        unfold oneK ctlK
        rw [if_neg (by omega), if_pos (by omega)]
      have j28 : (28 : Int) ≤ (b : Int) := by omega
      have j32 : (32 : Int) ≤ (b : Int) := by omega
      have j127 : (b : Int) < 127 := by omega
      have HK : Hid (∀ W, Calls Tryd.prog 31 #[.int .i64 1, .int .i32 (b : Int), .string ⟨#[]⟩] W fun e w' => ∃ u, e = .returned u ∧ OutK W.heap.size w' u [(1, b, noB)] ∧ Below W.heap.size W w') := fun W => rkey_any 1 b noB W
      rw [HE.out]
      go_enter Tryd.func28, Tryd.ntmps28
      go_wp2_with fail
      rw [HW1.out]
      go_fit (HK.out _)
      rintro e w2 ⟨u, rfl, hu, hb2⟩
      have HF := Lib.hid (fedh_key (R := R) (v := v) (p := .held noB) HK1.out hu hb2 HB1.out rfl)
      clear hu hb2
      go_wp2_with fail
      go_ret
      exact HF.out
    · omega
  have j128 : (128 : Int) ≤ (b : Int) := by omega
  by_cases hg : begB (oneS b) = true
  · have HE : Hid (firstK b = (.held (oneS b), [])) := by show firstK b = _; unfold firstK; rw [if_pos (.inr hg)]
    rw [HE.out]
    rw [hg] at HBG
    clear hg
    go_enter Tryd.func28, Tryd.ntmps28
    go_wp2_with fail
    rw [HW1.out]
    go_fit (HBG.out _)
    rintro e w2 ⟨rfl, hb2⟩
    have HK2 := Lib.hid (HK1.out.trans (keep_below _ hb2))
    have HB2 := Lib.hid (HB1.out.below hb2)
    have hl2 := HB2.out.lt
    obtain ⟨⟨d0, _, _⟩, g0, _, _⟩ := HB2.out.cells
    clear hb2
    go_wp2_with fail
    go_ret
    exact fedh_none (p := .held (oneS b)) (HK2.out.trans (keep_R _ _ _ _)) (HB2.out.set0 _) rfl
  have hg0 : begB (oneS b) = false := by cases h : begB (oneS b); rfl; exact absurd h hg
  have HE : Hid (firstK b = (.held noB, [badK (oneS b)])) := by
    show firstK b = _
    unfold firstK
    rw [if_neg (fun h => by rcases h with h | h; exact e27 h; exact hg h)]
    show (Ky.held noB, [oneK b]) = _
    unfold oneK
    rw [if_neg (by omega), if_neg h128]
  rw [HE.out]
  rw [hg0] at HBG
  clear hg hg0
  have q13 : ((b : Int) == 13) = false := beq_eq_false_iff_ne.2 (by omega)
  have q10 : ((b : Int) == 10) = false := beq_eq_false_iff_ne.2 (by omega)
  have q9 : ((b : Int) == 9) = false := beq_eq_false_iff_ne.2 (by omega)
  have q8 : ((b : Int) == 8) = false := beq_eq_false_iff_ne.2 (by omega)
  have q127 : ((b : Int) == 127) = false := beq_eq_false_iff_ne.2 (by omega)
  have q0 : ((b : Int) == 0) = false := beq_eq_false_iff_ne.2 (by omega)
  have j28 : (28 : Int) ≤ (b : Int) := by omega
  have j32 : (32 : Int) ≤ (b : Int) := by omega
  have j127 : (127 : Int) ≤ (b : Int) := by omega
  have HK : Hid (∀ W, Calls Tryd.prog 31 #[.int .i64 0, .int .i32 0, .string (oneS b)] W fun e w' => ∃ u, e = .returned u ∧ OutK W.heap.size w' u [badK (oneS b)] ∧ Below W.heap.size W w') := fun W => rkey_any 0 0 (oneS b) W
  go_enter Tryd.func28, Tryd.ntmps28
  go_wp2_with fail
  rw [HW1.out]
  go_fit (HBG.out _)
  rintro e w2 ⟨rfl, hb2⟩
  have HK2 := Lib.hid (HK1.out.trans (keep_below _ hb2))
  have HB2 := Lib.hid (HB1.out.below hb2)
  clear hb2
  go_wp2_with fail
  go_fit (HK.out _)
  rintro e w3 ⟨u, rfl, hu, hb3⟩
  have HF := Lib.hid (fedh_key (R := R) (v := v) (p := .held noB) HK2.out hu hb3 HB2.out rfl)
  clear hu hb3
  go_wp2_with fail
  go_ret
  exact HF.out

set_option maxRecDepth 4000 in
set_option maxHeartbeats 4000000 in
theorem ranew_any (R b : Nat) (x v : Value) (s : ByteArray) (w : World) (hB : boxR w R x (.bool false) v) (hb : b < 256) :
    Calls Tryd.prog 33 #[.pointer (some ⟨R, 0, none⟩), .string s, .int .u8 (b : Int)] w (FedH R v w (anewK (badK s) b)) := by
  have HKY : Hid (∀ W, Calls Tryd.prog 31 #[.int .i64 0, .int .i32 0, .string s] W fun e w' => ∃ u, e = .returned u ∧ OutK W.heap.size w' u [badK s] ∧ Below W.heap.size W w') := fun W => rkey_any 0 0 s W
  have HFI := Lib.hid (fun W (h : boxR W R x (.bool false) v) => rfirst_any R b x v W h hb)
  have HB := Lib.hid hB
  have hlR := hB.lt
  clear hB
  go_enter Tryd.func33, Tryd.ntmps33
  go_wp2_with fail
  go_fit (HKY.out _)
  rintro e w1 ⟨u, rfl, hu, hb1⟩
  have HU := Lib.hid hu
  have HB1 := Lib.hid hb1
  have HF1 := Lib.hid (HFI.out w1 (HB.out.below hb1))
  clear hu hb1
  go_wp2_with fail
  go_fit HF1.out
  rintro e w2 ⟨u2, rfl, hu2, hB2, hk2, hp2⟩
  have hlo := HU.out.lt
  have hU2 : OutK w.heap.size w2 u [badK s] := HU.out.keep hk2 fun j e hj => by
    have := (hlo j e).1
    omega
  have z1 := HB1.out.size
  have z2 := hk2.size
  obtain ⟨u3, w3, hr, hO, hk3, hn3⟩ := run_outK 34 34 Tryd.underlying34 hU2 hu2 (by omega) (by have := first_keys b; simp only [List.length_cons, List.length_nil]; omega)
  have hB3 : boxR w3 R (.string (heldS (firstK b).1)) (.bool (isP (firstK b).1)) v := hB2.keep hk3 fun e => by
    have := (hlo R e).1
    omega
  have hfin : FedH R v w (anewK (badK s) b) (.returned u3) w3 := ⟨u3, rfl, hO.keys, hB3, ((keep_below _ HB1.out).trans hk2).comp hk3 fun j hj _ e => by
    have := (hlo j e).1
    omega, hp2⟩
  have HFin := Lib.hid hfin
  clear hfin hB3 hn3 hk3 hO z1 z2 hU2 hlo hk2 hu2 hB2 hp2
  go_wp2_with (at_builtin; refine wpList_run (by rfl) _ _ 34 (by rfl) (by rfl) (by rfl) hr ?_)
  go_ret
  exact HFin.out
end Go.Proofs.YtdnldfgolbcjiaaDoor
