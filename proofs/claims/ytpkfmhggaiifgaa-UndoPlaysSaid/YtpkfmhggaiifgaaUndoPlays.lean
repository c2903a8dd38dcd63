/-
  For every row of at most 300 acts: what each call tells, what is now, and how many steps there are, is what the document's list says; so the law returns true. A longer row: the examples alone, as the law says. No condition.
-/
import Derived.Test.YtpkfmhggaiifgaaUnPlay
import Derived.Test.YtpkfmhggaiifgaaUnOpen
namespace Go.Proofs.Ytpkfmhggaiifgaa
open Go.ChangeShapes Go.WideShapes Go.ChangeAt Go.RowKit

set_option maxRecDepth 100000 in
set_option maxHeartbeats 1000000 in
theorem undoPlays_far (v : Value) (l : List (Int × Int × Int × Int)) (w : World) (hA : UActsW w v l) (h : 300 < l.length) :
    Calls Try.prog 3 #[v] w fun e w' => e = .returned (.bool true) ∧ Below w.heap.size w w' := by
  obtain ⟨ao, cap, rfl, _⟩ := hA
  have H := Lib.hid (undone_any w)
  have h2 : 300 < (l.length : Int) := by omega
  go_enter Try.func3, Try.ntmps3
  go_wp2_with fail
  go_fit H.out
  rintro e w3 ⟨rfl, b3⟩
  go_wp2
  go_ret
  exact ⟨rfl, b3⟩

/-- What both begin with. -/
theorem play_first {w w1 w2 w3 : World} {U R b : Nat} {sl : Value} (hb1 : Below w.heap.size w w1) (hU : w1.heap.size = U) (hb2 : Below U w1 w2) (hs2 : w2.heap.size = U + 1) (hu : UndoW (fun k => k ≠ U) w2 U ⟨(b, ⟨#[]⟩, 7), [], [], 0⟩ (.slice none 0 0) (.slice none 0 0))
    (hR : R = U + 1 + 1) (hb3 : Below w2.heap.size w2 w3) (hs3 : w3.heap.size = w2.heap.size + 2) (hr : RefW (okUR U R) w3 R [(⟨#[]⟩, 7)] 0 0 sl) : PlayI w w3 U R ⟨(b, ⟨#[]⟩, 7), [], [], 0⟩ [(⟨#[]⟩, 7)] 0 0 := by
  have hs1 := hb1.size
  have hx : UndoW (okUR U R) w3 U ⟨(b, ⟨#[]⟩, 7), [], [], 0⟩ (.slice none 0 0) (.slice none 0 0) := by
    refine ⟨(hu.below hb3).blk, fun k => k.1 rfl, (hu.text.mono (ok' := okUR U R) fun k hk ho => ⟨ho, by omega⟩).keepW (keep_below _ hb3), StatesW.nil _ _, StatesW.nil _ _, by simp⟩
  exact ⟨⟨_, _, hx⟩, ⟨sl, hr⟩, rfl, rfl, rfl, (hb1.trans (hb2.mono (by omega))).trans (hb3.mono (by omega)), by omega, by omega, by omega, by omega, by omega⟩

/-- What is said of both at the end of a round. -/
theorem play_say {w wr : World} {U R t : Nat} {u : US} {L : List (ByteArray × Int)} {op : Int} (h : PlayI w wr U R u L t op) : ∃ (b : Nat) (s : ByteArray) (c : Int) (n : Nat), t < n ∧ n ≤ 101 ∧
    (∃ g o cap, wr.cell? ⟨R, 0, none⟩ = some (.slice (some ⟨g, o, none⟩) n cap) ∧ wr.cell? ⟨R, 1, none⟩ = some (.int .i64 (t : Int))) ∧
    Hid (Calls Try.prog 20 #[.pointer (some ⟨U, 0, none⟩)] wr fun e w1 => e = .returned (.tuple #[.pointer (some ⟨b, 0, none⟩), .int .i64 c]) ∧ Below wr.heap.size wr w1) ∧
    Hid (∀ W, Below wr.heap.size wr W → Calls Try.prog 21 #[.pointer (some ⟨R, 0, none⟩)] W fun e w1 => e = .returned (.agg #[.string s, .int .i64 c]) ∧ Below wr.heap.size wr w1) ∧
    Hid (∀ W, Below wr.heap.size wr W → Calls Try.prog 14 #[.pointer (some ⟨b, 0, none⟩), .int .i64 c, .string s, .int .i64 c] W fun e w1 => e = .returned (.bool true) ∧ Below wr.heap.size wr w1) ∧
    Hid (∀ W, Below wr.heap.size wr W → Calls Try.prog 22 #[.pointer (some ⟨U, 0, none⟩), .int .i64 (t : Int), .int .i64 ((n : Int) - 1 - (t : Int))] W fun e w1 => e = .returned (.bool true) ∧ Below wr.heap.size wr w1) := by
  obtain ⟨a, d, hu⟩ := h.e
  obtain ⟨sl, hr⟩ := h.r
  obtain ⟨⟨c0, c1, _⟩, _⟩ := hr.blk.cells
  have hat := rfC_at L t _ (play_now h)
  obtain ⟨g, o, cap, rfl, _, _, _⟩ := hr.row.at_ hat.1
  refine ⟨u.now.1, u.now.2.1, u.now.2.2, L.length, hr.now, hr.few, ⟨g, o, cap, c0, c1⟩, unow_any wr hu, fun W hW => ?_, fun W hW => ?_, fun W hW => ?_⟩
  · exact (rnow_any W (hr.below hW) (play_now h)).mono fun e w1 ⟨h1, h2⟩ => ⟨h1, hW.trans (h2.mono hW.size)⟩
  · exact (uis_any u.now.2.2 W (hu.below hW).text).mono fun e w1 ⟨h1, h2⟩ => ⟨h1, hW.trans (h2.mono hW.size)⟩
  · exact (usay_at W (hu.below hW) (by rw [h.at_]) (play_len h)).mono fun e w1 ⟨h1, h2⟩ => ⟨h1, hW.trans (h2.mono hW.size)⟩

set_option maxRecDepth 100000 in
set_option maxHeartbeats 16000000 in
theorem undoPlays_near (v : Value) (l : List (Int × Int × Int × Int)) (w : World) (hA : UActsW w v l) (h : l.length ≤ 300) :
    Calls Try.prog 3 #[v] w fun e w' => e = .returned (.bool true) ∧ Below w.heap.size w w' := by
  have HA0 : ∃ ao cap, v = .slice ao l.length cap ∧ Hid (∀ W, Below w.heap.size w W → ∀ (i : Nat) x, l[i]? = some x → (0 ≤ x.1 ∧ x.1 ≤ 255 ∧ 0 ≤ x.2.1 ∧ x.2.1 ≤ 255) ∧ ∃ g o, ao = some ⟨g, o, none⟩ ∧ W.cell? ⟨g, o + i * 4, none⟩ = some (.int .u8 x.1) ∧
      W.cell? ⟨g, o + i * 4 + 1, none⟩ = some (.int .u8 x.2.1) ∧ W.cell? ⟨g, o + i * 4 + 2, none⟩ = some (.int .i64 x.2.2.1) ∧ W.cell? ⟨g, o + i * 4 + 3, none⟩ = some (.int .i64 x.2.2.2)) := by
    obtain ⟨ao, cap, hv, _⟩ := id hA
    refine ⟨ao, cap, hv, fun W hW => ?_⟩
    obtain ⟨ao', cap', hv', hc⟩ := hA.below hW
    rw [hv] at hv'
    cases hv'
    exact hc
  obtain ⟨ao, cap, rfl, HA⟩ := HA0
  have HG : Hid (∀ i, i < l.length → ∃ x, l[i]? = some x) := fun i hi => ⟨_, List.getElem?_eq_getElem hi⟩
  clear hA
  obtain ⟨n, hn⟩ : ∃ n, l.length = n := ⟨_, rfl⟩
  rw [hn] at HG h ⊢
  clear hn
  have h2 : (n : Int) ≤ 300 := by omega
  have H1 := Lib.hid (utext_any (ok := fun _ => True) ⟨#[]⟩ w (fun _ _ => trivial) (by decide))
  go_enter Try.func3, Try.ntmps3
  go_wp2_with fail
  go_fit H1.out
  rintro e w1 ⟨⟨b1, rfl, T1⟩, k1⟩
  have H2 := Lib.hid (unew_any 7 w1 T1)
  clear T1 H1
  go_wp2_with fail
  go_fit H2.out
  rintro e w2 ⟨rfl, k2, s2, Z2⟩
  obtain ⟨U, hU⟩ : ∃ U, w1.heap.size = U := ⟨_, rfl⟩
  rw [hU] at k2 s2 Z2 ⊢
  have H3 := Lib.hid (rnew_any (ok := okUR U (w2.heap.size + 1)) ⟨#[]⟩ 7 w2 ⟨by omega, by omega⟩ (fun k => k.2 rfl))
  have HP := Lib.hid (fun (w3 : World) R sl hR hb3 hs3 hr => play_first (w3 := w3) (R := R) (sl := sl) k1 hU k2 s2 Z2 hR hb3 hs3 hr)
  obtain ⟨R, hR⟩ : ∃ R, w2.heap.size + 1 = R := ⟨_, rfl⟩
  rw [hR] at H3
  have HR : Hid (R = U + 1 + 1) := by show _ = _; omega
  have HRe := Lib.hid hR
  clear hU s2 Z2 k1 k2 H2 hR
  go_wp2_with fail
  go_fit H3.out
  rintro e w3 ⟨rfl, k3, s3, sl3, Z3⟩
  have HI := Lib.hid (HP.out w3 R sl3 HR.out k3 s3 Z3)
  clear HP k3 s3 Z3 H3 HRe HR
  go_wp2
  go_loopw [5] (fun s5 wr => ∃ i : Nat, s5 = .int .i64 (i : Int) ∧ i ≤ n ∧ ∃ u L t op, PlayI w wr U R u L t op) (fun s5 _ => n - (intOf s5).toNat)
  case atStart => exact ⟨0, rfl, Nat.zero_le _, _, _, _, _, HI.out⟩
  case round =>
    clear HI
    obtain ⟨i, rfl, hil, u, L, t, op, hI⟩ := hrel
    by_cases hlt : i < n
    · obtain ⟨⟨k, tx, cu, gr⟩, hx⟩ := HG.out i hlt
      obtain ⟨⟨k0, k1, tx0, tx1⟩, g, o, hao, c0, c1, c2, c3⟩ := HA.out wr hI.below i _ hx
      subst hao
      dsimp only at k0 k1 tx0 tx1 c0 c1 c2 c3
      clear hx HA HG
      have i1 : (i : Int) < (n : Int) := by omega
      obtain ⟨K, hK⟩ : ∃ K, k % 8 = K := ⟨_, rfl⟩
      have K0 : 0 ≤ K := by omega
      have K7 : K ≤ 7 := by omega
      obtain ⟨V0, hV0⟩ : ∃ V0, wr.alloc (.cells #[.int .u8 k, .int .u8 tx, .int .i64 cu, .int .i64 gr] 31) = V0 := ⟨_, rfl⟩
      have hI0 : PlayI w V0 U R u L t op := by rw [← hV0]; exact hI.mono ((Below.refl _ _).alloc (Nat.le_refl _) _)
      have HI0 := Lib.hid hI0
      have HE := Lib.hid hV0
      have hIU := hI.lU
      have hIR := hI.lR
      clear hV0 hI hI0
      have HL : Hid (U < wr.heap.size ∧ R < wr.heap.size) := ⟨hIU, hIR⟩
      by_cases q4 : K = 4
      · subst q4
        by_cases ht : 0 < t
        · as_aux_lemma =>
            obtain ⟨b, s, c, H⟩ := play_back HI0.out ht
            have HH := Lib.hid H
            clear H HI0
            go_wp2_with fail
            rw [HE.out]
            go_fit HH.out
            rintro e w3 ⟨rfl, H4⟩
            clear HH HE
            go_wp2_with fail
            go_fit H4.out
            rintro e w4 ⟨rfl, H5⟩
            have bA : Below w4.heap.size w4 (w4.alloc (.cells #[.string s, .int .i64 c] 35)) := (Below.refl _ _).alloc (Nat.le_refl _) _
            have H6 := Lib.hid (uis_any c _ (H5.out.2.keepW (keep_below _ bA)))
            have HJ : Hid (∀ W, Below (w4.alloc (.cells #[.string s, .int .i64 c] 35)).heap.size (w4.alloc (.cells #[.string s, .int .i64 c] 35)) W → Hid (∃ u' L' t' op', PlayI w W U R u' L' t' op')) := fun W hW => by
              obtain ⟨u', L', t', op', h⟩ := H5.out.1
              exact Lib.hid ⟨u', L', t', op', (h.mono bA).mono hW⟩
            clear H4 H5 bA
            go_wp2_with fail
            go_fit H6.out
            rintro e wz ⟨rfl, k5⟩
            have I := HJ.out wz k5
            clear H6 HJ k5
            obtain ⟨u2, L2, t2, op2, hI2⟩ := I.out
            obtain ⟨bz, sz, cz, m, ht2, hm2, ⟨g2, o2, cap2, r0, r1⟩, N1, N2, S1, S2⟩ := play_say hI2
            have HF := Lib.hid (fun W (hW : Below wz.heap.size wz W) => hI2.mono hW)
            have HRC : Hid (∀ W, Below wz.heap.size wz W → W.cell? ⟨R, 0, none⟩ = some (.slice (some ⟨g2, o2, none⟩) m cap2) ∧ W.cell? ⟨R, 1, none⟩ = some (.int .i64 (t2 : Int))) := fun W hW => ⟨by rw [hW.cell (p := ⟨R, 0, none⟩) (rlt r0)]; exact r0, by rw [hW.cell (p := ⟨R, 1, none⟩) (rlt r1)]; exact r1⟩
            have y0 : (0 : Int) ≤ (t2 : Int) := by omega
            have y1 : (t2 : Int) ≤ 101 := by omega
            have y2 : (m : Int) ≤ 101 := by omega
            have y3 : (1 : Int) ≤ (m : Int) := by omega
            have y4 : IntKind.i64.wrap ((m : Int) - 1) = (m : Int) - 1 := by rw [IntKind.wrap_i64]; omega
            have y5 : IntKind.i64.wrap ((m : Int) - 1 - (t2 : Int)) = (m : Int) - 1 - (t2 : Int) := by rw [IntKind.wrap_i64]; omega
            have hf0 : ∀ W : World, (Instr.field 35 (.agg #[.string sz, .int .i64 cz]) 0).run Try.prog W = .ok (.string sz) W := fun _ => by kernel_rfl
            have hf1 : ∀ W : World, (Instr.field 35 (.agg #[.string sz, .int .i64 cz]) 1).run Try.prog W = .ok (.int .i64 cz) W := fun _ => by kernel_rfl
            clear hI2 I r0 r1 ht2 hm2
            go_wp2_with fail
            go_fit N1.out
            rintro e wn ⟨rfl, kn⟩
            obtain ⟨r0, r1⟩ := HRC.out wn kn
            clear N1
            go_wp2_with fail
            go_region_held3 (fun W => W.cell? ⟨R, 0, none⟩ = some (.slice (some ⟨g2, o2, none⟩) m cap2) ∧ W.cell? ⟨R, 1, none⟩ = some (.int .i64 (t2 : Int))) (first | exact HRC.out _ ⟨kd.os, kd.tape, kd.output, kd.size, kd.block⟩ | exact HRC.out _ ⟨kc.os, kc.tape, kc.output, kc.size, kc.block⟩ | exact HRC.out _ ⟨kb.os, kb.tape, kb.output, kb.size, kb.block⟩ | exact HRC.out _ ⟨ka.os, ka.tape, ka.output, ka.size, ka.block⟩ | go_keep)
              (first
                | (go_at_call 21; go_must (go_fit (N2.out _ ?_)); exact ⟨ka.os, ka.tape, ka.output, ka.size, ka.block⟩; rintro e wb ⟨rfl, kb⟩)
                | (go_at_call 21; go_must (go_fit (N2.out _ ?_)); exact ⟨kn.os, kn.tape, kn.output, kn.size, kn.block⟩; rintro e wa ⟨rfl, ka⟩)
                | (go_at_call 14; go_must (go_fit (S1.out _ ?_)); exact ⟨kb.os, kb.tape, kb.output, kb.size, kb.block⟩; rintro e wc ⟨rfl, kc⟩)
                | (go_at_call 22; go_must (go_fit (S2.out _ ?_)); exact ⟨kc.os, kc.tape, kc.output, kc.size, kc.block⟩; rintro e wd ⟨rfl, kd⟩))
            all_goals
              have hz := HF.out _ kd
              clear HF HRC N2 S1 S2 y4 y5 hf0 hf1
              go_wp2
              go_roundw
              case rel => exact ⟨i + 1, by go_num, by omega, _, _, _, _, hz⟩
              case measure => simp [intOf]; omega
        · as_aux_lemma =>
            have HH := Lib.hid (play_back_no HI0.out (by omega))
            clear HI0
            go_wp2_with fail
            rw [HE.out]
            go_fit HH.out
            rintro e w3 ⟨rfl, H4⟩
            clear HH HE
            go_wp2_with fail
            go_fit H4.out
            rintro e w4 ⟨rfl, H5⟩
            obtain ⟨wz, hwz⟩ : ∃ wz, w4.alloc (.cells #[.string ⟨#[]⟩, .int .i64 0] 35) = wz := ⟨_, rfl⟩
            have I : Hid (∃ u' L' t' op', PlayI w wz U R u' L' t' op') := by
              obtain ⟨u', L', t', op', h⟩ := H5.out
              exact Lib.hid ⟨u', L', t', op', by rw [← hwz]; exact h.mono ((Below.refl _ _).alloc (Nat.le_refl _) _)⟩
            have HWZ := Lib.hid hwz
            clear H4 H5 hwz
            obtain ⟨u2, L2, t2, op2, hI2⟩ := I.out
            obtain ⟨bz, sz, cz, m, ht2, hm2, ⟨g2, o2, cap2, r0, r1⟩, N1, N2, S1, S2⟩ := play_say hI2
            have HF := Lib.hid (fun W (hW : Below wz.heap.size wz W) => hI2.mono hW)
            have HRC : Hid (∀ W, Below wz.heap.size wz W → W.cell? ⟨R, 0, none⟩ = some (.slice (some ⟨g2, o2, none⟩) m cap2) ∧ W.cell? ⟨R, 1, none⟩ = some (.int .i64 (t2 : Int))) := fun W hW => ⟨by rw [hW.cell (p := ⟨R, 0, none⟩) (rlt r0)]; exact r0, by rw [hW.cell (p := ⟨R, 1, none⟩) (rlt r1)]; exact r1⟩
            have y0 : (0 : Int) ≤ (t2 : Int) := by omega
            have y1 : (t2 : Int) ≤ 101 := by omega
            have y2 : (m : Int) ≤ 101 := by omega
            have y3 : (1 : Int) ≤ (m : Int) := by omega
            have y4 : IntKind.i64.wrap ((m : Int) - 1) = (m : Int) - 1 := by rw [IntKind.wrap_i64]; omega
            have y5 : IntKind.i64.wrap ((m : Int) - 1 - (t2 : Int)) = (m : Int) - 1 - (t2 : Int) := by rw [IntKind.wrap_i64]; omega
            have hf0 : ∀ W : World, (Instr.field 35 (.agg #[.string sz, .int .i64 cz]) 0).run Try.prog W = .ok (.string sz) W := fun _ => by kernel_rfl
            have hf1 : ∀ W : World, (Instr.field 35 (.agg #[.string sz, .int .i64 cz]) 1).run Try.prog W = .ok (.int .i64 cz) W := fun _ => by kernel_rfl
            clear hI2 I r0 r1 ht2 hm2
            go_wp2_with fail
            rw [HWZ.out]
            go_fit N1.out
            rintro e wn ⟨rfl, kn⟩
            obtain ⟨r0, r1⟩ := HRC.out wn kn
            clear N1
            go_wp2_with fail
            go_region_held3 (fun W => W.cell? ⟨R, 0, none⟩ = some (.slice (some ⟨g2, o2, none⟩) m cap2) ∧ W.cell? ⟨R, 1, none⟩ = some (.int .i64 (t2 : Int))) (first | exact HRC.out _ ⟨kd.os, kd.tape, kd.output, kd.size, kd.block⟩ | exact HRC.out _ ⟨kc.os, kc.tape, kc.output, kc.size, kc.block⟩ | exact HRC.out _ ⟨kb.os, kb.tape, kb.output, kb.size, kb.block⟩ | exact HRC.out _ ⟨ka.os, ka.tape, ka.output, ka.size, ka.block⟩ | go_keep)
              (first
                | (go_at_call 21; go_must (go_fit (N2.out _ ?_)); exact ⟨ka.os, ka.tape, ka.output, ka.size, ka.block⟩; rintro e wb ⟨rfl, kb⟩)
                | (go_at_call 21; go_must (go_fit (N2.out _ ?_)); exact ⟨kn.os, kn.tape, kn.output, kn.size, kn.block⟩; rintro e wa ⟨rfl, ka⟩)
                | (go_at_call 14; go_must (go_fit (S1.out _ ?_)); exact ⟨kb.os, kb.tape, kb.output, kb.size, kb.block⟩; rintro e wc ⟨rfl, kc⟩)
                | (go_at_call 22; go_must (go_fit (S2.out _ ?_)); exact ⟨kc.os, kc.tape, kc.output, kc.size, kc.block⟩; rintro e wd ⟨rfl, kd⟩))
            all_goals
              have hz := HF.out _ kd
              clear HF HRC N2 S1 S2 y4 y5 hf0 hf1
              go_wp2
              go_roundw
              case rel => exact ⟨i + 1, by go_num, by omega, _, _, _, _, hz⟩
              case measure => simp [intOf]; omega
      · by_cases q5 : K = 5
        · subst q5
          by_cases ht : 0 < t
          · as_aux_lemma =>
              obtain ⟨b, s, c, H⟩ := play_back HI0.out ht
              have HH := Lib.hid H
              clear H HI0
              go_wp2_with fail
              rw [HE.out]
              go_fit HH.out
              rintro e w3 ⟨rfl, H4⟩
              clear HH HE
              go_wp2_with fail
              go_fit H4.out
              rintro e w4 ⟨rfl, H5⟩
              have bA : Below w4.heap.size w4 (w4.alloc (.cells #[.string s, .int .i64 c] 35)) := (Below.refl _ _).alloc (Nat.le_refl _) _
              have H6 := Lib.hid (uis_any c _ (H5.out.2.keepW (keep_below _ bA)))
              have HJ : Hid (∀ W, Below (w4.alloc (.cells #[.string s, .int .i64 c] 35)).heap.size (w4.alloc (.cells #[.string s, .int .i64 c] 35)) W → Hid (∃ u' L' t' op', PlayI w W U R u' L' t' op')) := fun W hW => by
                obtain ⟨u', L', t', op', h⟩ := H5.out.1
                exact Lib.hid ⟨u', L', t', op', (h.mono bA).mono hW⟩
              clear H4 H5 bA
              go_wp2_with fail
              go_fit H6.out
              rintro e wz ⟨rfl, k5⟩
              have I := HJ.out wz k5
              clear H6 HJ k5
              obtain ⟨u2, L2, t2, op2, hI2⟩ := I.out
              obtain ⟨bz, sz, cz, m, ht2, hm2, ⟨g2, o2, cap2, r0, r1⟩, N1, N2, S1, S2⟩ := play_say hI2
              have HF := Lib.hid (fun W (hW : Below wz.heap.size wz W) => hI2.mono hW)
              have HRC : Hid (∀ W, Below wz.heap.size wz W → W.cell? ⟨R, 0, none⟩ = some (.slice (some ⟨g2, o2, none⟩) m cap2) ∧ W.cell? ⟨R, 1, none⟩ = some (.int .i64 (t2 : Int))) := fun W hW => ⟨by rw [hW.cell (p := ⟨R, 0, none⟩) (rlt r0)]; exact r0, by rw [hW.cell (p := ⟨R, 1, none⟩) (rlt r1)]; exact r1⟩
              have y0 : (0 : Int) ≤ (t2 : Int) := by omega
              have y1 : (t2 : Int) ≤ 101 := by omega
              have y2 : (m : Int) ≤ 101 := by omega
              have y3 : (1 : Int) ≤ (m : Int) := by omega
              have y4 : IntKind.i64.wrap ((m : Int) - 1) = (m : Int) - 1 := by rw [IntKind.wrap_i64]; omega
              have y5 : IntKind.i64.wrap ((m : Int) - 1 - (t2 : Int)) = (m : Int) - 1 - (t2 : Int) := by rw [IntKind.wrap_i64]; omega
              have hf0 : ∀ W : World, (Instr.field 35 (.agg #[.string sz, .int .i64 cz]) 0).run Try.prog W = .ok (.string sz) W := fun _ => by kernel_rfl
              have hf1 : ∀ W : World, (Instr.field 35 (.agg #[.string sz, .int .i64 cz]) 1).run Try.prog W = .ok (.int .i64 cz) W := fun _ => by kernel_rfl
              clear hI2 I r0 r1 ht2 hm2
              go_wp2_with fail
              go_fit N1.out
              rintro e wn ⟨rfl, kn⟩
              obtain ⟨r0, r1⟩ := HRC.out wn kn
              clear N1
              go_wp2_with fail
              go_region_held3 (fun W => W.cell? ⟨R, 0, none⟩ = some (.slice (some ⟨g2, o2, none⟩) m cap2) ∧ W.cell? ⟨R, 1, none⟩ = some (.int .i64 (t2 : Int))) (first | exact HRC.out _ ⟨kd.os, kd.tape, kd.output, kd.size, kd.block⟩ | exact HRC.out _ ⟨kc.os, kc.tape, kc.output, kc.size, kc.block⟩ | exact HRC.out _ ⟨kb.os, kb.tape, kb.output, kb.size, kb.block⟩ | exact HRC.out _ ⟨ka.os, ka.tape, ka.output, ka.size, ka.block⟩ | go_keep)
                (first
                  | (go_at_call 21; go_must (go_fit (N2.out _ ?_)); exact ⟨ka.os, ka.tape, ka.output, ka.size, ka.block⟩; rintro e wb ⟨rfl, kb⟩)
                  | (go_at_call 21; go_must (go_fit (N2.out _ ?_)); exact ⟨kn.os, kn.tape, kn.output, kn.size, kn.block⟩; rintro e wa ⟨rfl, ka⟩)
                  | (go_at_call 14; go_must (go_fit (S1.out _ ?_)); exact ⟨kb.os, kb.tape, kb.output, kb.size, kb.block⟩; rintro e wc ⟨rfl, kc⟩)
                  | (go_at_call 22; go_must (go_fit (S2.out _ ?_)); exact ⟨kc.os, kc.tape, kc.output, kc.size, kc.block⟩; rintro e wd ⟨rfl, kd⟩))
              all_goals
                have hz := HF.out _ kd
                clear HF HRC N2 S1 S2 y4 y5 hf0 hf1
                go_wp2
                go_roundw
                case rel => exact ⟨i + 1, by go_num, by omega, _, _, _, _, hz⟩
                case measure => simp [intOf]; omega
          · as_aux_lemma =>
              have HH := Lib.hid (play_back_no HI0.out (by omega))
              clear HI0
              go_wp2_with fail
              rw [HE.out]
              go_fit HH.out
              rintro e w3 ⟨rfl, H4⟩
              clear HH HE
              go_wp2_with fail
              go_fit H4.out
              rintro e w4 ⟨rfl, H5⟩
              obtain ⟨wz, hwz⟩ : ∃ wz, w4.alloc (.cells #[.string ⟨#[]⟩, .int .i64 0] 35) = wz := ⟨_, rfl⟩
              have I : Hid (∃ u' L' t' op', PlayI w wz U R u' L' t' op') := by
                obtain ⟨u', L', t', op', h⟩ := H5.out
                exact Lib.hid ⟨u', L', t', op', by rw [← hwz]; exact h.mono ((Below.refl _ _).alloc (Nat.le_refl _) _)⟩
              have HWZ := Lib.hid hwz
              clear H4 H5 hwz
              obtain ⟨u2, L2, t2, op2, hI2⟩ := I.out
              obtain ⟨bz, sz, cz, m, ht2, hm2, ⟨g2, o2, cap2, r0, r1⟩, N1, N2, S1, S2⟩ := play_say hI2
              have HF := Lib.hid (fun W (hW : Below wz.heap.size wz W) => hI2.mono hW)
              have HRC : Hid (∀ W, Below wz.heap.size wz W → W.cell? ⟨R, 0, none⟩ = some (.slice (some ⟨g2, o2, none⟩) m cap2) ∧ W.cell? ⟨R, 1, none⟩ = some (.int .i64 (t2 : Int))) := fun W hW => ⟨by rw [hW.cell (p := ⟨R, 0, none⟩) (rlt r0)]; exact r0, by rw [hW.cell (p := ⟨R, 1, none⟩) (rlt r1)]; exact r1⟩
              have y0 : (0 : Int) ≤ (t2 : Int) := by omega
              have y1 : (t2 : Int) ≤ 101 := by omega
              have y2 : (m : Int) ≤ 101 := by omega
              have y3 : (1 : Int) ≤ (m : Int) := by omega
              have y4 : IntKind.i64.wrap ((m : Int) - 1) = (m : Int) - 1 := by rw [IntKind.wrap_i64]; omega
              have y5 : IntKind.i64.wrap ((m : Int) - 1 - (t2 : Int)) = (m : Int) - 1 - (t2 : Int) := by rw [IntKind.wrap_i64]; omega
              have hf0 : ∀ W : World, (Instr.field 35 (.agg #[.string sz, .int .i64 cz]) 0).run Try.prog W = .ok (.string sz) W := fun _ => by kernel_rfl
              have hf1 : ∀ W : World, (Instr.field 35 (.agg #[.string sz, .int .i64 cz]) 1).run Try.prog W = .ok (.int .i64 cz) W := fun _ => by kernel_rfl
              clear hI2 I r0 r1 ht2 hm2
              go_wp2_with fail
              rw [HWZ.out]
              go_fit N1.out
              rintro e wn ⟨rfl, kn⟩
              obtain ⟨r0, r1⟩ := HRC.out wn kn
              clear N1
              go_wp2_with fail
              go_region_held3 (fun W => W.cell? ⟨R, 0, none⟩ = some (.slice (some ⟨g2, o2, none⟩) m cap2) ∧ W.cell? ⟨R, 1, none⟩ = some (.int .i64 (t2 : Int))) (first | exact HRC.out _ ⟨kd.os, kd.tape, kd.output, kd.size, kd.block⟩ | exact HRC.out _ ⟨kc.os, kc.tape, kc.output, kc.size, kc.block⟩ | exact HRC.out _ ⟨kb.os, kb.tape, kb.output, kb.size, kb.block⟩ | exact HRC.out _ ⟨ka.os, ka.tape, ka.output, ka.size, ka.block⟩ | go_keep)
                (first
                  | (go_at_call 21; go_must (go_fit (N2.out _ ?_)); exact ⟨ka.os, ka.tape, ka.output, ka.size, ka.block⟩; rintro e wb ⟨rfl, kb⟩)
                  | (go_at_call 21; go_must (go_fit (N2.out _ ?_)); exact ⟨kn.os, kn.tape, kn.output, kn.size, kn.block⟩; rintro e wa ⟨rfl, ka⟩)
                  | (go_at_call 14; go_must (go_fit (S1.out _ ?_)); exact ⟨kb.os, kb.tape, kb.output, kb.size, kb.block⟩; rintro e wc ⟨rfl, kc⟩)
                  | (go_at_call 22; go_must (go_fit (S2.out _ ?_)); exact ⟨kc.os, kc.tape, kc.output, kc.size, kc.block⟩; rintro e wd ⟨rfl, kd⟩))
              all_goals
                have hz := HF.out _ kd
                clear HF HRC N2 S1 S2 y4 y5 hf0 hf1
                go_wp2
                go_roundw
                case rel => exact ⟨i + 1, by go_num, by omega, _, _, _, _, hz⟩
                case measure => simp [intOf]; omega
        · by_cases q6 : K = 6
          · subst q6
            by_cases ht : t + 1 < L.length
            · as_aux_lemma =>
                obtain ⟨b, s, c, H⟩ := play_forth HI0.out ht
                have HH := Lib.hid H
                clear H HI0
                go_wp2_with fail
                rw [HE.out]
                go_fit HH.out
                rintro e w3 ⟨rfl, H4⟩
                clear HH HE
                go_wp2_with fail
                go_fit H4.out
                rintro e w4 ⟨rfl, H5⟩
                have bA : Below w4.heap.size w4 (w4.alloc (.cells #[.string s, .int .i64 c] 35)) := (Below.refl _ _).alloc (Nat.le_refl _) _
                have H6 := Lib.hid (uis_any c _ (H5.out.2.keepW (keep_below _ bA)))
                have HJ : Hid (∀ W, Below (w4.alloc (.cells #[.string s, .int .i64 c] 35)).heap.size (w4.alloc (.cells #[.string s, .int .i64 c] 35)) W → Hid (∃ u' L' t' op', PlayI w W U R u' L' t' op')) := fun W hW => by
                  obtain ⟨u', L', t', op', h⟩ := H5.out.1
                  exact Lib.hid ⟨u', L', t', op', (h.mono bA).mono hW⟩
                clear H4 H5 bA
                go_wp2_with fail
                go_fit H6.out
                rintro e wz ⟨rfl, k5⟩
                have I := HJ.out wz k5
                clear H6 HJ k5
                obtain ⟨u2, L2, t2, op2, hI2⟩ := I.out
                obtain ⟨bz, sz, cz, m, ht2, hm2, ⟨g2, o2, cap2, r0, r1⟩, N1, N2, S1, S2⟩ := play_say hI2
                have HF := Lib.hid (fun W (hW : Below wz.heap.size wz W) => hI2.mono hW)
                have HRC : Hid (∀ W, Below wz.heap.size wz W → W.cell? ⟨R, 0, none⟩ = some (.slice (some ⟨g2, o2, none⟩) m cap2) ∧ W.cell? ⟨R, 1, none⟩ = some (.int .i64 (t2 : Int))) := fun W hW => ⟨by rw [hW.cell (p := ⟨R, 0, none⟩) (rlt r0)]; exact r0, by rw [hW.cell (p := ⟨R, 1, none⟩) (rlt r1)]; exact r1⟩
                have y0 : (0 : Int) ≤ (t2 : Int) := by omega
                have y1 : (t2 : Int) ≤ 101 := by omega
                have y2 : (m : Int) ≤ 101 := by omega
                have y3 : (1 : Int) ≤ (m : Int) := by omega
                have y4 : IntKind.i64.wrap ((m : Int) - 1) = (m : Int) - 1 := by rw [IntKind.wrap_i64]; omega
                have y5 : IntKind.i64.wrap ((m : Int) - 1 - (t2 : Int)) = (m : Int) - 1 - (t2 : Int) := by rw [IntKind.wrap_i64]; omega
                have hf0 : ∀ W : World, (Instr.field 35 (.agg #[.string sz, .int .i64 cz]) 0).run Try.prog W = .ok (.string sz) W := fun _ => by kernel_rfl
                have hf1 : ∀ W : World, (Instr.field 35 (.agg #[.string sz, .int .i64 cz]) 1).run Try.prog W = .ok (.int .i64 cz) W := fun _ => by kernel_rfl
                clear hI2 I r0 r1 ht2 hm2
                go_wp2_with fail
                go_fit N1.out
                rintro e wn ⟨rfl, kn⟩
                obtain ⟨r0, r1⟩ := HRC.out wn kn
                clear N1
                go_wp2_with fail
                go_region_held3 (fun W => W.cell? ⟨R, 0, none⟩ = some (.slice (some ⟨g2, o2, none⟩) m cap2) ∧ W.cell? ⟨R, 1, none⟩ = some (.int .i64 (t2 : Int))) (first | exact HRC.out _ ⟨kd.os, kd.tape, kd.output, kd.size, kd.block⟩ | exact HRC.out _ ⟨kc.os, kc.tape, kc.output, kc.size, kc.block⟩ | exact HRC.out _ ⟨kb.os, kb.tape, kb.output, kb.size, kb.block⟩ | exact HRC.out _ ⟨ka.os, ka.tape, ka.output, ka.size, ka.block⟩ | go_keep)
                  (first
                    | (go_at_call 21; go_must (go_fit (N2.out _ ?_)); exact ⟨ka.os, ka.tape, ka.output, ka.size, ka.block⟩; rintro e wb ⟨rfl, kb⟩)
                    | (go_at_call 21; go_must (go_fit (N2.out _ ?_)); exact ⟨kn.os, kn.tape, kn.output, kn.size, kn.block⟩; rintro e wa ⟨rfl, ka⟩)
                    | (go_at_call 14; go_must (go_fit (S1.out _ ?_)); exact ⟨kb.os, kb.tape, kb.output, kb.size, kb.block⟩; rintro e wc ⟨rfl, kc⟩)
                    | (go_at_call 22; go_must (go_fit (S2.out _ ?_)); exact ⟨kc.os, kc.tape, kc.output, kc.size, kc.block⟩; rintro e wd ⟨rfl, kd⟩))
                all_goals
                  have hz := HF.out _ kd
                  clear HF HRC N2 S1 S2 y4 y5 hf0 hf1
                  go_wp2
                  go_roundw
                  case rel => exact ⟨i + 1, by go_num, by omega, _, _, _, _, hz⟩
                  case measure => simp [intOf]; omega
            · as_aux_lemma =>
                have HH := Lib.hid (play_forth_no HI0.out ht)
                clear HI0
                go_wp2_with fail
                rw [HE.out]
                go_fit HH.out
                rintro e w3 ⟨rfl, H4⟩
                clear HH HE
                go_wp2_with fail
                go_fit H4.out
                rintro e w4 ⟨rfl, H5⟩
                obtain ⟨wz, hwz⟩ : ∃ wz, w4.alloc (.cells #[.string ⟨#[]⟩, .int .i64 0] 35) = wz := ⟨_, rfl⟩
                have I : Hid (∃ u' L' t' op', PlayI w wz U R u' L' t' op') := by
                  obtain ⟨u', L', t', op', h⟩ := H5.out
                  exact Lib.hid ⟨u', L', t', op', by rw [← hwz]; exact h.mono ((Below.refl _ _).alloc (Nat.le_refl _) _)⟩
                have HWZ := Lib.hid hwz
                clear H4 H5 hwz
                obtain ⟨u2, L2, t2, op2, hI2⟩ := I.out
                obtain ⟨bz, sz, cz, m, ht2, hm2, ⟨g2, o2, cap2, r0, r1⟩, N1, N2, S1, S2⟩ := play_say hI2
                have HF := Lib.hid (fun W (hW : Below wz.heap.size wz W) => hI2.mono hW)
                have HRC : Hid (∀ W, Below wz.heap.size wz W → W.cell? ⟨R, 0, none⟩ = some (.slice (some ⟨g2, o2, none⟩) m cap2) ∧ W.cell? ⟨R, 1, none⟩ = some (.int .i64 (t2 : Int))) := fun W hW => ⟨by rw [hW.cell (p := ⟨R, 0, none⟩) (rlt r0)]; exact r0, by rw [hW.cell (p := ⟨R, 1, none⟩) (rlt r1)]; exact r1⟩
                have y0 : (0 : Int) ≤ (t2 : Int) := by omega
                have y1 : (t2 : Int) ≤ 101 := by omega
                have y2 : (m : Int) ≤ 101 := by omega
                have y3 : (1 : Int) ≤ (m : Int) := by omega
                have y4 : IntKind.i64.wrap ((m : Int) - 1) = (m : Int) - 1 := by rw [IntKind.wrap_i64]; omega
                have y5 : IntKind.i64.wrap ((m : Int) - 1 - (t2 : Int)) = (m : Int) - 1 - (t2 : Int) := by rw [IntKind.wrap_i64]; omega
                have hf0 : ∀ W : World, (Instr.field 35 (.agg #[.string sz, .int .i64 cz]) 0).run Try.prog W = .ok (.string sz) W := fun _ => by kernel_rfl
                have hf1 : ∀ W : World, (Instr.field 35 (.agg #[.string sz, .int .i64 cz]) 1).run Try.prog W = .ok (.int .i64 cz) W := fun _ => by kernel_rfl
                clear hI2 I r0 r1 ht2 hm2
                go_wp2_with fail
                rw [HWZ.out]
                go_fit N1.out
                rintro e wn ⟨rfl, kn⟩
                obtain ⟨r0, r1⟩ := HRC.out wn kn
                clear N1
                go_wp2_with fail
                go_region_held3 (fun W => W.cell? ⟨R, 0, none⟩ = some (.slice (some ⟨g2, o2, none⟩) m cap2) ∧ W.cell? ⟨R, 1, none⟩ = some (.int .i64 (t2 : Int))) (first | exact HRC.out _ ⟨kd.os, kd.tape, kd.output, kd.size, kd.block⟩ | exact HRC.out _ ⟨kc.os, kc.tape, kc.output, kc.size, kc.block⟩ | exact HRC.out _ ⟨kb.os, kb.tape, kb.output, kb.size, kb.block⟩ | exact HRC.out _ ⟨ka.os, ka.tape, ka.output, ka.size, ka.block⟩ | go_keep)
                  (first
                    | (go_at_call 21; go_must (go_fit (N2.out _ ?_)); exact ⟨ka.os, ka.tape, ka.output, ka.size, ka.block⟩; rintro e wb ⟨rfl, kb⟩)
                    | (go_at_call 21; go_must (go_fit (N2.out _ ?_)); exact ⟨kn.os, kn.tape, kn.output, kn.size, kn.block⟩; rintro e wa ⟨rfl, ka⟩)
                    | (go_at_call 14; go_must (go_fit (S1.out _ ?_)); exact ⟨kb.os, kb.tape, kb.output, kb.size, kb.block⟩; rintro e wc ⟨rfl, kc⟩)
                    | (go_at_call 22; go_must (go_fit (S2.out _ ?_)); exact ⟨kc.os, kc.tape, kc.output, kc.size, kc.block⟩; rintro e wd ⟨rfl, kd⟩))
                all_goals
                  have hz := HF.out _ kd
                  clear HF HRC N2 S1 S2 y4 y5 hf0 hf1
                  go_wp2
                  go_roundw
                  case rel => exact ⟨i + 1, by go_num, by omega, _, _, _, _, hz⟩
                  case measure => simp [intOf]; omega
          · by_cases q7 : K = 7
            · as_aux_lemma =>
                subst q7
                have HXB : Hid (∀ W, KeepW (okUR U R) V0 W → W.cell? ⟨wr.heap.size, 1, none⟩ = some (.int .u8 tx) ∧ W.cell? ⟨wr.heap.size, 2, none⟩ = some (.int .i64 cu) ∧ W.cell? ⟨wr.heap.size, 3, none⟩ = some (.int .i64 gr)) := fun W hW => by
                  have e := heap_alloc_new wr (.cells #[.int .u8 k, .int .u8 tx, .int .i64 cu, .int .i64 gr] 31)
                  rw [HE.out] at e
                  have hB : okUR U R wr.heap.size := by
                    have h1 := HL.out.1
                    have h2 := HL.out.2
                    exact ⟨by omega, by omega⟩
                  refine ⟨hW.cell ?_ hB, hW.cell ?_ hB, hW.cell ?_ hB⟩ <;> (rw [cell_of_row _ _ _ _ _ (0, 0) e]; rfl)
                have HH := Lib.hid (play_move cu HI0.out)
                clear HI0
                go_wp2_with fail
                rw [HE.out]
                go_fit HH.out
                rintro e w3 ⟨rfl, k3, H4⟩
                obtain ⟨q1, q2, q3⟩ := HXB.out w3 k3
                clear HH HE HXB k3
                go_wp2_with fail
                go_fit H4.out
                rintro e wz ⟨rfl, I⟩
                clear H4 q1 q2 q3
                obtain ⟨u2, L2, t2, op2, hI2⟩ := I.out
                obtain ⟨bz, sz, cz, m, ht2, hm2, ⟨g2, o2, cap2, r0, r1⟩, N1, N2, S1, S2⟩ := play_say hI2
                have HF := Lib.hid (fun W (hW : Below wz.heap.size wz W) => hI2.mono hW)
                have HRC : Hid (∀ W, Below wz.heap.size wz W → W.cell? ⟨R, 0, none⟩ = some (.slice (some ⟨g2, o2, none⟩) m cap2) ∧ W.cell? ⟨R, 1, none⟩ = some (.int .i64 (t2 : Int))) := fun W hW => ⟨by rw [hW.cell (p := ⟨R, 0, none⟩) (rlt r0)]; exact r0, by rw [hW.cell (p := ⟨R, 1, none⟩) (rlt r1)]; exact r1⟩
                have y0 : (0 : Int) ≤ (t2 : Int) := by omega
                have y1 : (t2 : Int) ≤ 101 := by omega
                have y2 : (m : Int) ≤ 101 := by omega
                have y3 : (1 : Int) ≤ (m : Int) := by omega
                have y4 : IntKind.i64.wrap ((m : Int) - 1) = (m : Int) - 1 := by rw [IntKind.wrap_i64]; omega
                have y5 : IntKind.i64.wrap ((m : Int) - 1 - (t2 : Int)) = (m : Int) - 1 - (t2 : Int) := by rw [IntKind.wrap_i64]; omega
                have hf0 : ∀ W : World, (Instr.field 35 (.agg #[.string sz, .int .i64 cz]) 0).run Try.prog W = .ok (.string sz) W := fun _ => by kernel_rfl
                have hf1 : ∀ W : World, (Instr.field 35 (.agg #[.string sz, .int .i64 cz]) 1).run Try.prog W = .ok (.int .i64 cz) W := fun _ => by kernel_rfl
                clear hI2 I r0 r1 ht2 hm2
                go_wp2_with fail
                go_fit N1.out
                rintro e wn ⟨rfl, kn⟩
                obtain ⟨r0, r1⟩ := HRC.out wn kn
                clear N1
                go_wp2_with fail
                go_region_held3 (fun W => W.cell? ⟨R, 0, none⟩ = some (.slice (some ⟨g2, o2, none⟩) m cap2) ∧ W.cell? ⟨R, 1, none⟩ = some (.int .i64 (t2 : Int))) (first | exact HRC.out _ ⟨kd.os, kd.tape, kd.output, kd.size, kd.block⟩ | exact HRC.out _ ⟨kc.os, kc.tape, kc.output, kc.size, kc.block⟩ | exact HRC.out _ ⟨kb.os, kb.tape, kb.output, kb.size, kb.block⟩ | exact HRC.out _ ⟨ka.os, ka.tape, ka.output, ka.size, ka.block⟩ | go_keep)
                  (first
                    | (go_at_call 21; go_must (go_fit (N2.out _ ?_)); exact ⟨ka.os, ka.tape, ka.output, ka.size, ka.block⟩; rintro e wb ⟨rfl, kb⟩)
                    | (go_at_call 21; go_must (go_fit (N2.out _ ?_)); exact ⟨kn.os, kn.tape, kn.output, kn.size, kn.block⟩; rintro e wa ⟨rfl, ka⟩)
                    | (go_at_call 14; go_must (go_fit (S1.out _ ?_)); exact ⟨kb.os, kb.tape, kb.output, kb.size, kb.block⟩; rintro e wc ⟨rfl, kc⟩)
                    | (go_at_call 22; go_must (go_fit (S2.out _ ?_)); exact ⟨kc.os, kc.tape, kc.output, kc.size, kc.block⟩; rintro e wd ⟨rfl, kd⟩))
                all_goals
                  have hz := HF.out _ kd
                  clear HF HRC N2 S1 S2 y4 y5 hf0 hf1
                  go_wp2
                  go_roundw
                  case rel => exact ⟨i + 1, by go_num, by omega, _, _, _, _, hz⟩
                  case measure => simp [intOf]; omega
            · as_aux_lemma =>
                have d4 : (K == 4) = false := by simpa using q4
                have d5 : (K == 5) = false := by simpa using q5
                have d6 : (K == 6) = false := by simpa using q6
                have d7 : (K == 7) = false := by simpa using q7
                have HXB : Hid (∀ W, KeepW (okUR U R) V0 W → W.cell? ⟨wr.heap.size, 1, none⟩ = some (.int .u8 tx) ∧ W.cell? ⟨wr.heap.size, 2, none⟩ = some (.int .i64 cu) ∧ W.cell? ⟨wr.heap.size, 3, none⟩ = some (.int .i64 gr)) := fun W hW => by
                  have e := heap_alloc_new wr (.cells #[.int .u8 k, .int .u8 tx, .int .i64 cu, .int .i64 gr] 31)
                  rw [HE.out] at e
                  have hB : okUR U R wr.heap.size := by
                    have h1 := HL.out.1
                    have h2 := HL.out.2
                    exact ⟨by omega, by omega⟩
                  refine ⟨hW.cell ?_ hB, hW.cell ?_ hB, hW.cell ?_ hB⟩ <;> (rw [cell_of_row _ _ _ _ _ (0, 0) e]; rfl)
                have H3 : Hid (∀ W, Below V0.heap.size V0 W → Calls Try.prog 18 #[.int .u8 tx] W fun e w1 => e = .returned (.string (letterB tx)) ∧ Below V0.heap.size V0 w1) := fun W hW =>
                  (ubytes_any tx W tx0 tx1).mono fun e w1 ⟨h1, h2⟩ => ⟨h1, hW.trans (h2.mono hW.size)⟩
                have H4 : Hid (∀ W, Below V0.heap.size V0 W → Calls Try.prog 9 #[.string (letterB tx)] W fun e w1 => (∃ b, e = .returned (.pointer (some ⟨b, 0, none⟩)) ∧ TextP (okUR U R) w1 b (letterB tx)) ∧ Below V0.heap.size V0 w1) := fun W hW =>
                  (utext_any (ok := okUR U R) (letterB tx) W (fun k hk => HI0.out.ok k (Nat.le_trans hW.size hk)) (by rw [letterB_size]; decide)).mono fun e w1 ⟨h1, h2⟩ => ⟨h1, hW.trans (h2.mono hW.size)⟩
                have H5 := Lib.hid (play_do (s := letterB tx) cu gr HI0.out)
                have H6 := Lib.hid (fun W => ubytes_any tx W tx0 tx1)
                obtain ⟨s, hs⟩ : ∃ s, letterB tx = s := ⟨_, rfl⟩
                rw [hs] at H3 H4 H5 H6
                obtain ⟨q1, q2, q3⟩ := HXB.out V0 (KeepW.refl _ _)
                clear HI0 hs
                go_wp2_with fail
                rw [HE.out]
                clear HE
                go_region_held3 (fun W => W.cell? ⟨wr.heap.size, 1, none⟩ = some (.int .u8 tx) ∧ W.cell? ⟨wr.heap.size, 2, none⟩ = some (.int .i64 cu) ∧ W.cell? ⟨wr.heap.size, 3, none⟩ = some (.int .i64 gr)) (first | exact HXB.out _ kc | exact HXB.out _ (keep_below _ ⟨kb.os, kb.tape, kb.output, kb.size, kb.block⟩) | exact HXB.out _ (keep_below _ ⟨ka.os, ka.tape, ka.output, ka.size, ka.block⟩) | go_keep)
                  (first
                    | (go_at_call 18; go_must (go_fit (H3.out _ ?_)); exact ⟨rfl, rfl, rfl, Nat.le_refl _, fun _ _ => rfl⟩; rintro e wa ⟨rfl, ka⟩)
                    | (go_at_call 9; go_must (go_fit (H4.out _ ?_)); exact ⟨ka.os, ka.tape, ka.output, ka.size, ka.block⟩; rintro e wb ⟨⟨b, rfl, hT⟩, kb⟩)
                    | (go_at_call 17; go_must (go_fit (H5.out _ ?_ b ?_)); exact ⟨kb.os, kb.tape, kb.output, kb.size, kb.block⟩; exact hT; rintro e wc ⟨rfl, kc, H7⟩))
                all_goals clear hT
                have H8 : Hid (∀ W, Below wc.heap.size wc W → Calls Try.prog 18 #[.int .u8 tx] W fun e w1 => e = .returned (.string s) ∧ Below wc.heap.size wc w1) := fun W hW =>
                  (H6.out W).mono fun e w1 ⟨h1, h2⟩ => ⟨h1, hW.trans (h2.mono hW.size)⟩
                obtain ⟨q1, q2, q3⟩ := HXB.out wc kc
                clear H3 H4 H5 H6 ka kb
                go_wp2_with fail
                go_region_held3 (fun W => W.cell? ⟨wr.heap.size, 1, none⟩ = some (.int .u8 tx) ∧ W.cell? ⟨wr.heap.size, 2, none⟩ = some (.int .i64 cu) ∧ W.cell? ⟨wr.heap.size, 3, none⟩ = some (.int .i64 gr)) (first | exact HXB.out _ (kc.trans (keep_below _ ⟨ke.os, ke.tape, ke.output, ke.size, ke.block⟩)) | exact HXB.out _ kz | go_keep)
                  (first
                    | (go_at_call 18; go_must (go_fit (H8.out _ ?_)); exact ⟨rfl, rfl, rfl, Nat.le_refl _, fun _ _ => rfl⟩; rintro e we ⟨rfl, ke⟩)
                    | (go_at_call 19; go_must (go_fit (H7.out _ ?_)); exact ⟨ke.os, ke.tape, ke.output, ke.size, ke.block⟩; rintro e wz ⟨rfl, kz, I⟩))
                clear H8 H7 HXB kc kz q1 q2 q3
                obtain ⟨u2, L2, t2, op2, hI2⟩ := I.out
                obtain ⟨bz, sz, cz, m, ht2, hm2, ⟨g2, o2, cap2, r0, r1⟩, N1, N2, S1, S2⟩ := play_say hI2
                have HF := Lib.hid (fun W (hW : Below wz.heap.size wz W) => hI2.mono hW)
                have HRC : Hid (∀ W, Below wz.heap.size wz W → W.cell? ⟨R, 0, none⟩ = some (.slice (some ⟨g2, o2, none⟩) m cap2) ∧ W.cell? ⟨R, 1, none⟩ = some (.int .i64 (t2 : Int))) := fun W hW => ⟨by rw [hW.cell (p := ⟨R, 0, none⟩) (rlt r0)]; exact r0, by rw [hW.cell (p := ⟨R, 1, none⟩) (rlt r1)]; exact r1⟩
                have y0 : (0 : Int) ≤ (t2 : Int) := by omega
                have y1 : (t2 : Int) ≤ 101 := by omega
                have y2 : (m : Int) ≤ 101 := by omega
                have y3 : (1 : Int) ≤ (m : Int) := by omega
                have y4 : IntKind.i64.wrap ((m : Int) - 1) = (m : Int) - 1 := by rw [IntKind.wrap_i64]; omega
                have y5 : IntKind.i64.wrap ((m : Int) - 1 - (t2 : Int)) = (m : Int) - 1 - (t2 : Int) := by rw [IntKind.wrap_i64]; omega
                have hf0 : ∀ W : World, (Instr.field 35 (.agg #[.string sz, .int .i64 cz]) 0).run Try.prog W = .ok (.string sz) W := fun _ => by kernel_rfl
                have hf1 : ∀ W : World, (Instr.field 35 (.agg #[.string sz, .int .i64 cz]) 1).run Try.prog W = .ok (.int .i64 cz) W := fun _ => by kernel_rfl
                clear hI2 I r0 r1 ht2 hm2
                go_wp2_with fail
                go_fit N1.out
                rintro e wn ⟨rfl, kn⟩
                obtain ⟨r0, r1⟩ := HRC.out wn kn
                clear N1
                go_wp2_with fail
                go_region_held3 (fun W => W.cell? ⟨R, 0, none⟩ = some (.slice (some ⟨g2, o2, none⟩) m cap2) ∧ W.cell? ⟨R, 1, none⟩ = some (.int .i64 (t2 : Int))) (first | exact HRC.out _ ⟨kd.os, kd.tape, kd.output, kd.size, kd.block⟩ | exact HRC.out _ ⟨kc.os, kc.tape, kc.output, kc.size, kc.block⟩ | exact HRC.out _ ⟨kb.os, kb.tape, kb.output, kb.size, kb.block⟩ | exact HRC.out _ ⟨ka.os, ka.tape, ka.output, ka.size, ka.block⟩ | go_keep)
                  (first
                    | (go_at_call 21; go_must (go_fit (N2.out _ ?_)); exact ⟨ka.os, ka.tape, ka.output, ka.size, ka.block⟩; rintro e wb ⟨rfl, kb⟩)
                    | (go_at_call 21; go_must (go_fit (N2.out _ ?_)); exact ⟨kn.os, kn.tape, kn.output, kn.size, kn.block⟩; rintro e wa ⟨rfl, ka⟩)
                    | (go_at_call 14; go_must (go_fit (S1.out _ ?_)); exact ⟨kb.os, kb.tape, kb.output, kb.size, kb.block⟩; rintro e wc ⟨rfl, kc⟩)
                    | (go_at_call 22; go_must (go_fit (S2.out _ ?_)); exact ⟨kc.os, kc.tape, kc.output, kc.size, kc.block⟩; rintro e wd ⟨rfl, kd⟩))
                all_goals
                  have hz := HF.out _ kd
                  clear HF HRC N2 S1 S2 y4 y5 hf0 hf1
                  go_wp2
                  go_roundw
                  case rel => exact ⟨i + 1, by go_num, by omega, _, _, _, _, hz⟩
                  case measure => simp [intOf]; omega
    · have hb := hI.below
      have H4 := Lib.hid (undone_any wr)
      have i3 : (n : Int) ≤ (i : Int) := by omega
      clear hI
      go_wp2_with fail
      go_fit H4.out
      rintro e w4 ⟨rfl, b4⟩
      have l4 := hb.trans (b4.mono hb.size)
      go_wp2
      go_ret
      exact ⟨rfl, l4⟩

theorem undoPlays_any (v : Value) (l : List (Int × Int × Int × Int)) (w : World) (hA : UActsW w v l) :
    Calls Try.prog 3 #[v] w fun e w' => e = .returned (.bool true) ∧ Below w.heap.size w w' := by
  by_cases h : 300 < l.length
  · exact undoPlays_far v l w hA h
  · exact undoPlays_near v l w hA (by omega)

-- FRAME
theorem undoPlays_own : ownKnob Try.prog.godebug = none := by kernel_rfl

set_option maxRecDepth 100000 in
theorem undoPlays_lifted (os : Os) (started : os.Started) (H : Type) (enc : TypeId × Value → H) :
    ReturnsInHanded {} Try.checked os 3 .any (Rows.undoPlaysSpec.pre6 enc Try.prog Try.f3 Rows.undoPlaysRow.domain false) (Rows.undoPlaysSpec.post enc Try.prog Try.f3 false true false false) := by
  refine returnsInHanded_of_change (C := Try.checked) undoPlays_own started (by kernel_rfl) Try.func3
    (ChangeSpec.witness6 (enc := enc) (C := Try.checked) false ⟨#[], #[.slice none 0 0], []⟩ 8 (by kernel_rfl) (by kernel_rfl) (by kernel_rfl) (by kernel_rfl)) ?_
  intro W base args ds gs before hval0 hW hcnd _
  have hval : ∀ (j : Nat) t v, Try.f3.params[j]? = some t → args[j]? = some v → Value.okWide Try.prog W .any base t v := hval0
  have hW' := hW
  obtain ⟨p, q, hA0, hV, rfl, hfz, hnd⟩ := hW
  have hA : DataW.TrodAll enc Try.prog W 0 (fun _ => true) true Try.f3.params.toList args.toList ds p := hA0
  rw [Try.params3] at hA hval
  obtain ⟨v0, d0, rfl, rfl, h0⟩ := trodAll_one hA
  obtain ⟨rfl, rfl⟩ := trodVars_none hV
  have k0 := h0
  obtain ⟨x0, hS0⟩ := open_uacts (hval 0 22 v0 rfl rfl) h0
  clear hA0 hval0
  simp only [List.append_nil] at hW'
  have hlt : ∀ x ∈ p, x.block < W.heap.size := fun x hx => hW'.lt x (by simp [hx])
  refine (undoPlays_any v0 x0 W hS0).mono fun e W' ⟨he, hw⟩ => ?_
  subst he
  exact ⟨_, rfl, _, _, _, [], p, [], hW', trodAll_mk1 (shut_bool Try.underlying4 _), trodAll_mk1 (Below.trod Try.laidOut (by kernel_rfl) (of_decide_eq_true (by kernel_rfl)) k0 hw (fun x hx => hlt x (by simp [hx]))), rfl, hw.frame _, fun h => by cases h⟩

theorem undoPlays_holds : Rows.UndoPlaysSaid :=
  OpenClaim.holds_of_wide 3 Try.f3 rfl rfl rfl rfl rfl rfl rfl ⟨rfl, rfl, rfl, rfl, rfl⟩ rfl rfl rfl rfl rfl (by kernel_rfl) Try.func3 (by kernel_rfl)
    (of_decide_eq_true (by kernel_rfl)) (by unfold Func.isWrapper; first | (rw [if_pos (by decide +kernel)]; kernel_rfl) | (rw [if_neg (by decide +kernel)]; exact ⟨rfl, rfl⟩))
    (fun os started H enc _ => undoPlays_lifted os started H enc)
end Go.Proofs.Ytpkfmhggaiifgaa
