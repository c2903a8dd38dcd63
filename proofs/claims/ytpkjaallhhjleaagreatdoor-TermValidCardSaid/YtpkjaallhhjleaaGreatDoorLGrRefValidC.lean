/-
  limnerref06.Valid: what it returns where the size, the number of cells and the cursor are as they should be: cell by cell.
-/
import Derived.Test.YtpkjaallhhjleaaGreatDoorLGrRefValid
namespace Go.Proofs.YtpkjaallhhjleaaGreatDoor
open Go.RowKit

set_option maxRecDepth 100000 in
set_option maxHeartbeats 8000000 in
theorem rvalid_cells {ok : Nat → Prop} {g o N cap : Nat} (f : Frm) (m n : Nat) (w : World) (hr : f.rows = (m : Int)) (hc : f.cols = (n : Int)) (hm : 2 ≤ m ∧ m ≤ 100) (hn : 8 ≤ n ∧ n ≤ 200) (hN : N = m * n) (hS : CelsW ok w (.slice (some ⟨g, o, none⟩) N cap) f.cells) (hlen : f.cells.length = N) (h3 : withinB f.rows f.cols f.row f.col = true) (B : Bool) (hB : B = true ↔ ∀ i c, f.cells[i]? = some c → okA n f.cells i c) :
    Calls Tryz.prog 101 #[.agg #[.int .i64 f.rows, .int .i64 f.cols, .slice (some ⟨g, o, none⟩) N cap, .int .i64 f.row, .int .i64 f.col]] w fun e w' => e = .returned (.bool B) ∧ Below w.heap.size w w' := by
  rw [hr, hc] at h3 ⊢
  have H := Lib.hid (fun w => may_any (m : Int) (n : Int) w)
  rw [(sizedB_iff _ _).2 (by omega)] at H
  have HSt := Lib.hid (fun s w => style_any s w)
  have HOf := Lib.hid (fun r w => refOf_any r w)
  have hmul : (m : Int) * (n : Int) = (N : Int) := by rw [hN, Int.natCast_mul]
  have hle : N ≤ 20000 := by rw [hN]; exact Nat.mul_le_mul hm.2 hn.2
  obtain ⟨k1, k2, k3, k4⟩ := (withinB_iff _ _ _ _).1 h3
  have i1 : (m : Int) ≤ 100 := by omega
  have i2 : (n : Int) ≤ 200 := by omega
  have i3 : (0 : Int) ≤ (m : Int) := by omega
  have i4 : (0 : Int) < (n : Int) := by omega
  have i5 : (N : Int) ≤ 20000 := by omega
  have hf0 := (frB.new (r := (m : Int)) (c := (n : Int)) (v := .slice (some ⟨g, o, none⟩) N cap) (a := f.row) (b := f.col) w)
  have H0 : Hid (Below (w.heap.size + 1) (w.alloc (.cells #[.int .i64 (m : Int), .int .i64 (n : Int), .slice (some ⟨g, o, none⟩) N cap, .int .i64 f.row, .int .i64 f.col] 35)) (w.alloc (.cells #[.int .i64 (m : Int), .int .i64 (n : Int), .slice (some ⟨g, o, none⟩) N cap, .int .i64 f.row, .int .i64 f.col] 35))) := Below.refl _ _
  have HX : Hid (∀ W, Below (w.heap.size + 1) (w.alloc (.cells #[.int .i64 (m : Int), .int .i64 (n : Int), .slice (some ⟨g, o, none⟩) N cap, .int .i64 f.row, .int .i64 f.col] 35)) W →
      Below w.heap.size w W ∧ frB W w.heap.size (m : Int) (n : Int) (.slice (some ⟨g, o, none⟩) N cap) f.row f.col ∧ ∀ j d, f.cells[j]? = some d → cell6 W g (o + j * 6) d) := fun W hW => by
    have hb : Below w.heap.size w W := ((Below.refl _ w).alloc (Nat.le_refl _) _).trans (hW.mono (by omega))
    exact ⟨hb, hf0.below hW (by omega), fun j d hd => by have h6 := hS.get hd; exact h6.below hb h6.lt⟩
  have HB := Lib.hid hB
  have HLn := Lib.hid hlen
  have HNm := Lib.hid hN
  have hn8 := hn.1
  obtain ⟨L, hL⟩ : ∃ L, f.cells = L := ⟨_, rfl⟩
  rw [hL] at HX HB HLn
  obtain ⟨fr, hfr⟩ : ∃ fr, f.row = fr := ⟨_, rfl⟩
  obtain ⟨fc, hfc⟩ : ∃ fc, f.col = fc := ⟨_, rfl⟩
  rw [hfr, hfc] at HX H0
  rw [hfr] at k1 k2
  rw [hfc] at k3 k4
  rw [hfr, hfc]
  clear hS hN hlen hf0 h3 hB hL hr hc hfr hfc hm hn
  go_enter Tryz.func101, Tryz.ntmps101
  go_wp2_with fail
  go_fit (H.out _)
  rintro e w2 ⟨rfl, rfl⟩
  go_wp2
  go_loopw [3] (fun s3 wr => ∃ i : Nat, s3 = .int .i64 (i : Int) ∧ i ≤ N ∧ Hid (∀ j c, j < i → L[j]? = some c → okA n L j c) ∧ Hid (Below (w.heap.size + 1) (w.alloc (.cells #[.int .i64 (m : Int), .int .i64 (n : Int), .slice (some ⟨g, o, none⟩) N cap, .int .i64 fr, .int .i64 fc] 35)) wr)) (fun s3 _ => N - (intOf s3).toNat)
  case atStart => exact ⟨0, rfl, Nat.zero_le _, (fun j c hj => by omega), H0⟩
  case round =>
    obtain ⟨i, rfl, hi, HU, HBW⟩ := hrel
    clear H0
    obtain ⟨hbw, hfr, hcel⟩ := HX.out wr HBW.out
    obtain ⟨⟨x0, x1, x2, x3, x4⟩, _⟩ := hfr.cells
    by_cases hin : i < N
    · obtain ⟨c, hc⟩ : ∃ c, L[i]? = some c := ⟨_, List.getElem?_eq_getElem (by rw [HLn.out]; exact hin)⟩
      obtain ⟨c0, c1, c2, c3, c4, c5⟩ := hcel i c hc
      have HY : Hid (∀ W, Below (wr.alloc (.cells #[.int .i32 c.1, .int .i64 c.2.1, .int .i64 c.2.2.1, .bool c.2.2.2.1, .bool c.2.2.2.2.1, .bool c.2.2.2.2.2] 82)).heap.size (wr.alloc (.cells #[.int .i32 c.1, .int .i64 c.2.1, .int .i64 c.2.2.1, .bool c.2.2.2.1, .bool c.2.2.2.2.1, .bool c.2.2.2.2.2] 82)) W →
          cell6 W wr.heap.size 0 c ∧ frB W w.heap.size (m : Int) (n : Int) (.slice (some ⟨g, o, none⟩) N cap) fr fc ∧ (∀ j d, L[j]? = some d → cell6 W g (o + j * 6) d) ∧ Below w.heap.size w W ∧ Below (w.heap.size + 1) (w.alloc (.cells #[.int .i64 (m : Int), .int .i64 (n : Int), .slice (some ⟨g, o, none⟩) N cap, .int .i64 fr, .int .i64 fc] 35)) W) := fun W hW => by
        rw [World.size_alloc] at hW
        have hb := box6 hW
        have h2 := HBW.out.trans (hb.2.mono (by have := HBW.out.size; rw [World.size_alloc] at this; exact this))
        obtain ⟨q1, q2, q3⟩ := HX.out W h2
        exact ⟨hb.1, q2, q3, q1, h2⟩
      have HNO : Hid (¬ okA n L i c → B = false) := fun hno => Bool.eq_false_iff.2 fun k => hno (HB.out.1 k i c hc)
      have HYES : Hid (okA n L i c → ∀ j d, j < i + 1 → L[j]? = some d → okA n L j d) := fun hy j d hj hd => by
        by_cases e : j = i
        · subst e; rw [hc] at hd; cases hd; exact hy
        · exact HU.out j d (by omega) hd
      have HOK : Hid (okA n L i c ↔ okA n L i c) := Iff.rfl
      have HC := Lib.hid hc
      obtain ⟨q, hq⟩ : ∃ q, i % n = q := ⟨_, rfl⟩
      have hq1 : (i : Int) % (n : Int) = (q : Int) := by rw [← hq]; exact (Int.natCast_emod i n).symm
      have hq2 : (i : Int).tmod (n : Int) = (q : Int) := by rw [Int.tmod_eq_emod_of_nonneg (by omega)]; exact hq1
      obtain ⟨n1, hn1⟩ : ∃ n1, n - 1 = n1 := ⟨_, rfl⟩
      have hn2 : (n : Int) - 1 = (n1 : Int) := by omega
      have hn3 : IntKind.i64.wrap ((n : Int) - 1) = (n1 : Int) := by rw [IntWalk.i64_in _ (by omega)]; exact hn2
      have i6 : (i : Int) < (N : Int) := by omega
      have i7 : (0 : Int) ≤ (i : Int) := by omega
      have n0 : ((n : Int) == 0) = false := by rw [beq_eq_false_iff_ne]; omega
      have n00 : ¬ n = 0 := by omega
      have hlw : w.heap.size < wr.heap.size := hfr.lt
      have hlg : g < wr.heap.size := (hcel i c hc).lt
      have HQ := Lib.hid hq
      have HN1 := Lib.hid hn1
      obtain ⟨bf, hbf⟩ : ∃ bf, ((q : Int) == 0) = bf := ⟨_, rfl⟩
      obtain ⟨bl, hbl⟩ : ∃ bl, ((q : Int) == (n1 : Int)) = bl := ⟨_, rfl⟩
      have hbf2 : decide ((q : Int) = 0) = bf := by rw [← hbf]; rfl
      have hbl2 : decide ((q : Int) = (n1 : Int)) = bl := by rw [← hbl]; rfl
      have HBF : Hid (bf = true ↔ i % n = 0) := by
        show _ ↔ _
        rw [← hbf, beq_iff_eq, hq]; omega
      have HBL : Hid (bl = true ↔ i % n = n - 1) := by
        show _ ↔ _
        rw [← hbl, beq_iff_eq, hq, hn1]; omega
      have HI : Hid (N - (i + 1) < N - i) := by show _ < _; omega
      have hi1 : i + 1 ≤ N := hin
      clear hc hcel hfr hbw hq hn1 HX HBW HU
      by_cases s1 : styB c.2.2 = true
      · have hsty := s1
        by_cases hw0 : c.2.1 < 0
        · have HF := Lib.hid (HNO.out fun k => by have := k.2.1; omega)
          clear HNO HYES HOK HOf
          have HS1 : Hid (∀ W, Calls Tryz.prog 103 #[.agg #[.int .i64 c.2.2.1, .bool c.2.2.2.1, .bool c.2.2.2.2.1, .bool c.2.2.2.2.2]] W fun e w' => e = .returned (.bool true) ∧ Below W.heap.size W w') := fun W => by
            have := HSt.out c.2.2 W
            rwa [s1] at this
          clear s1 HSt
          go_wp2
          go_quiet (fail)
          go_wp2_with fail
          go_fit (HS1.out _)
          rintro e w2 ⟨rfl, hb2⟩
          have q2 : Below (wr.alloc (.cells #[.int .i32 c.1, .int .i64 c.2.1, .int .i64 c.2.2.1, .bool c.2.2.2.1, .bool c.2.2.2.2.1, .bool c.2.2.2.2.2] 82)).heap.size (wr.alloc (.cells #[.int .i32 c.1, .int .i64 c.2.1, .int .i64 c.2.2.1, .bool c.2.2.2.1, .bool c.2.2.2.2.1, .bool c.2.2.2.2.2] 82)) w2 := ⟨hb2.os, hb2.tape, hb2.output, hb2.size, hb2.block⟩
          obtain ⟨⟨b0, b1, b2, b3, b4, b5⟩, hfr2, hce2, kb, kB⟩ := HY.out w2 q2
          obtain ⟨⟨y0, y1, y2, y3, y4⟩, _⟩ := hfr2.cells
          simp only [Nat.zero_add] at b1 b2 b3 b4 b5
          have HB2 := Lib.hid q2
          have HCE := Lib.hid hce2
          have KB := Lib.hid kb
          have KBB := Lib.hid kB
          clear hb2 q2 hfr2 hce2 HS1 kb kB
          clear HY HB2 HCE KBB
          go_wp2
          go_ret
          exact ⟨by rw [HF.out]; rfl, KB.out⟩
        by_cases hw2 : 2 < c.2.1
        · have HF := Lib.hid (HNO.out fun k => by have := k.2.2.1; omega)
          clear HNO HYES HOK HOf
          have HS1 : Hid (∀ W, Calls Tryz.prog 103 #[.agg #[.int .i64 c.2.2.1, .bool c.2.2.2.1, .bool c.2.2.2.2.1, .bool c.2.2.2.2.2]] W fun e w' => e = .returned (.bool true) ∧ Below W.heap.size W w') := fun W => by
            have := HSt.out c.2.2 W
            rwa [s1] at this
          clear s1 HSt
          go_wp2
          go_quiet (fail)
          go_wp2_with fail
          go_fit (HS1.out _)
          rintro e w2 ⟨rfl, hb2⟩
          have q2 : Below (wr.alloc (.cells #[.int .i32 c.1, .int .i64 c.2.1, .int .i64 c.2.2.1, .bool c.2.2.2.1, .bool c.2.2.2.2.1, .bool c.2.2.2.2.2] 82)).heap.size (wr.alloc (.cells #[.int .i32 c.1, .int .i64 c.2.1, .int .i64 c.2.2.1, .bool c.2.2.2.1, .bool c.2.2.2.2.1, .bool c.2.2.2.2.2] 82)) w2 := ⟨hb2.os, hb2.tape, hb2.output, hb2.size, hb2.block⟩
          obtain ⟨⟨b0, b1, b2, b3, b4, b5⟩, hfr2, hce2, kb, kB⟩ := HY.out w2 q2
          obtain ⟨⟨y0, y1, y2, y3, y4⟩, _⟩ := hfr2.cells
          simp only [Nat.zero_add] at b1 b2 b3 b4 b5
          have HB2 := Lib.hid q2
          have HCE := Lib.hid hce2
          have KB := Lib.hid kb
          have KBB := Lib.hid kB
          clear hb2 q2 hfr2 hce2 HS1 kb kB
          clear HY HB2 HCE KBB
          go_wp2
          go_ret
          exact ⟨by rw [HF.out]; rfl, KB.out⟩
        have hw0' : 0 ≤ c.2.1 := by omega
        have hw2' : c.2.1 ≤ 2 := by omega
        by_cases hz : c.2.1 = 0
        · have d0 : decide (0 < c.2.1) = false := decide_eq_false (by omega)
          have d00 : ¬ 0 < c.2.1 := by omega
          have d2 : (c.2.1 == 2) = false := by rw [beq_eq_false_iff_ne]; omega
          have d1 : (c.2.1 == 0) = true := by rw [beq_iff_eq]; omega
          clear HOf
          cases bf with
          | true =>
            have HF := Lib.hid (HNO.out fun k => (k.2.2.2.2.2 hz).1 (HBF.out.1 rfl))
            clear HNO HYES HOK hz hw0 hw2
            have HS1 : Hid (∀ W, Calls Tryz.prog 103 #[.agg #[.int .i64 c.2.2.1, .bool c.2.2.2.1, .bool c.2.2.2.2.1, .bool c.2.2.2.2.2]] W fun e w' => e = .returned (.bool true) ∧ Below W.heap.size W w') := fun W => by
              have := HSt.out c.2.2 W
              rwa [s1] at this
            clear s1 HSt
            go_wp2
            go_quiet (fail)
            go_wp2_with fail
            go_fit (HS1.out _)
            rintro e w2 ⟨rfl, hb2⟩
            have q2 : Below (wr.alloc (.cells #[.int .i32 c.1, .int .i64 c.2.1, .int .i64 c.2.2.1, .bool c.2.2.2.1, .bool c.2.2.2.2.1, .bool c.2.2.2.2.2] 82)).heap.size (wr.alloc (.cells #[.int .i32 c.1, .int .i64 c.2.1, .int .i64 c.2.2.1, .bool c.2.2.2.1, .bool c.2.2.2.2.1, .bool c.2.2.2.2.2] 82)) w2 := ⟨hb2.os, hb2.tape, hb2.output, hb2.size, hb2.block⟩
            obtain ⟨⟨b0, b1, b2, b3, b4, b5⟩, hfr2, hce2, kb, kB⟩ := HY.out w2 q2
            obtain ⟨⟨y0, y1, y2, y3, y4⟩, _⟩ := hfr2.cells
            simp only [Nat.zero_add] at b1 b2 b3 b4 b5
            have HB2 := Lib.hid q2
            have HCE := Lib.hid hce2
            have KB := Lib.hid kb
            have KBB := Lib.hid kB
            clear hb2 q2 hfr2 hce2 HS1 kb kB
            clear HY HB2 HCE KBB
            go_wp2
            go_quiet (fail)
            go_wp2
            go_quiet (fail)
            go_wp2
            go_ret
            exact ⟨by rw [HF.out]; rfl, KB.out.trans ⟨rfl, rfl, rfl, Nat.le_refl _, fun _ _ => rfl⟩⟩
          | false =>
            have hq0 : i % n ≠ 0 := fun k => by have := HBF.out.2 k; cases this
            obtain ⟨y, hy⟩ : ∃ y, i = y + 1 := ⟨i - 1, by have := Nat.zero_mod n; by_cases e : i = 0; (subst e; omega); omega⟩
            obtain ⟨p, hp⟩ : ∃ p, L[y]? = some p := ⟨_, List.getElem?_eq_getElem (by rw [HLn.out]; omega)⟩
            have hpi : L[i - 1]? = some p := by rw [hy]; exact hp
            have HP := Lib.hid hp
            have hy1 : (i : Int) - 1 = (y : Int) := by omega
            have hy2 : IntKind.i64.wrap ((i : Int) - 1) = (y : Int) := by rw [IntWalk.i64_in _ (by omega)]; exact hy1
            have hy3 : (y : Int) < (N : Int) := by omega
            have hy4 : (0 : Int) ≤ (y : Int) := by omega
            by_cases hp2 : p.2.1 = 2
            · have e2 : (p.2.1 != 2) = false := by simpa using hp2
              by_cases hr0 : c.1 = 0
              · have e0 : (c.1 != 0) = false := by simpa using hr0
                have hsq := fun w => sty_neq c.2.2 p.2.2 w
                by_cases hst : c.2.2 = p.2.2
                · have HYE := Lib.hid (HYES.out ⟨hsty, by omega, by omega, fun k => by omega, fun k => by omega, fun _ => ⟨hq0, p, hpi, hp2, hr0, hst⟩⟩)
                  rw [decide_eq_true hst] at hsq
                  clear HNO HYES HOK hz hw0 hw2 hp2 hr0 hst hq0 hy hp hpi hsty
                  have HS1 : Hid (∀ W, Calls Tryz.prog 103 #[.agg #[.int .i64 c.2.2.1, .bool c.2.2.2.1, .bool c.2.2.2.2.1, .bool c.2.2.2.2.2]] W fun e w' => e = .returned (.bool true) ∧ Below W.heap.size W w') := fun W => by
                    have := HSt.out c.2.2 W
                    rwa [s1] at this
                  clear s1 HSt
                  go_wp2
                  go_quiet (fail)
                  go_wp2_with fail
                  go_fit (HS1.out _)
                  rintro e w2 ⟨rfl, hb2⟩
                  have q2 : Below (wr.alloc (.cells #[.int .i32 c.1, .int .i64 c.2.1, .int .i64 c.2.2.1, .bool c.2.2.2.1, .bool c.2.2.2.2.1, .bool c.2.2.2.2.2] 82)).heap.size (wr.alloc (.cells #[.int .i32 c.1, .int .i64 c.2.1, .int .i64 c.2.2.1, .bool c.2.2.2.1, .bool c.2.2.2.2.1, .bool c.2.2.2.2.2] 82)) w2 := ⟨hb2.os, hb2.tape, hb2.output, hb2.size, hb2.block⟩
                  obtain ⟨⟨b0, b1, b2, b3, b4, b5⟩, hfr2, hce2, kb, kB⟩ := HY.out w2 q2
                  obtain ⟨⟨y0, y1, y2, y3, y4⟩, _⟩ := hfr2.cells
                  simp only [Nat.zero_add] at b1 b2 b3 b4 b5
                  have HB2 := Lib.hid q2
                  have HCE := Lib.hid hce2
                  have KB := Lib.hid kb
                  have KBB := Lib.hid kB
                  clear hb2 q2 hfr2 hce2 HS1 kb kB
                  clear HY HB2
                  obtain ⟨p0, p1, p2, p3, p4, p5⟩ := HCE.out y p HP.out
                  clear HCE
                  go_wp2
                  go_quiet (fail)
                  go_wp2
                  go_quiet (fail)
                  go_wp2
                  go_roundw
                  case rel => exact ⟨i + 1, by go_num, hi1, HYE.out, KBB.out.trans ⟨rfl, rfl, rfl, Nat.le_refl _, fun _ _ => rfl⟩⟩
                  case measure => simp [intOf]; exact HI.out
                · have HF := Lib.hid (HNO.out fun k => by obtain ⟨_, p', h1, _, _, h2⟩ := k.2.2.2.2.2 hz; rw [hpi] at h1; cases h1; exact hst h2)
                  rw [decide_eq_false hst] at hsq
                  clear HNO HYES HOK hz hw0 hw2 hp2 hr0 hst hq0 hy hp hpi hsty
                  have HS1 : Hid (∀ W, Calls Tryz.prog 103 #[.agg #[.int .i64 c.2.2.1, .bool c.2.2.2.1, .bool c.2.2.2.2.1, .bool c.2.2.2.2.2]] W fun e w' => e = .returned (.bool true) ∧ Below W.heap.size W w') := fun W => by
                    have := HSt.out c.2.2 W
                    rwa [s1] at this
                  clear s1 HSt
                  go_wp2
                  go_quiet (fail)
                  go_wp2_with fail
                  go_fit (HS1.out _)
                  rintro e w2 ⟨rfl, hb2⟩
                  have q2 : Below (wr.alloc (.cells #[.int .i32 c.1, .int .i64 c.2.1, .int .i64 c.2.2.1, .bool c.2.2.2.1, .bool c.2.2.2.2.1, .bool c.2.2.2.2.2] 82)).heap.size (wr.alloc (.cells #[.int .i32 c.1, .int .i64 c.2.1, .int .i64 c.2.2.1, .bool c.2.2.2.1, .bool c.2.2.2.2.1, .bool c.2.2.2.2.2] 82)) w2 := ⟨hb2.os, hb2.tape, hb2.output, hb2.size, hb2.block⟩
                  obtain ⟨⟨b0, b1, b2, b3, b4, b5⟩, hfr2, hce2, kb, kB⟩ := HY.out w2 q2
                  obtain ⟨⟨y0, y1, y2, y3, y4⟩, _⟩ := hfr2.cells
                  simp only [Nat.zero_add] at b1 b2 b3 b4 b5
                  have HB2 := Lib.hid q2
                  have HCE := Lib.hid hce2
                  have KB := Lib.hid kb
                  have KBB := Lib.hid kB
                  clear hb2 q2 hfr2 hce2 HS1 kb kB
                  clear HY HB2 KBB
                  obtain ⟨p0, p1, p2, p3, p4, p5⟩ := HCE.out y p HP.out
                  clear HCE
                  go_wp2
                  go_quiet (fail)
                  go_wp2
                  go_quiet (fail)
                  go_wp2
                  go_ret
                  exact ⟨by rw [HF.out]; rfl, KB.out.trans ⟨rfl, rfl, rfl, Nat.le_refl _, fun _ _ => rfl⟩⟩
              · have HF := Lib.hid (HNO.out fun k => by obtain ⟨_, p', h1, _, h2, _⟩ := k.2.2.2.2.2 hz; exact hr0 h2)
                have e0 : (c.1 != 0) = true := by simpa using hr0
                clear HNO HYES HOK hz hw0 hw2 hp2 hr0 hq0 hy hp hpi hsty
                have HS1 : Hid (∀ W, Calls Tryz.prog 103 #[.agg #[.int .i64 c.2.2.1, .bool c.2.2.2.1, .bool c.2.2.2.2.1, .bool c.2.2.2.2.2]] W fun e w' => e = .returned (.bool true) ∧ Below W.heap.size W w') := fun W => by
                  have := HSt.out c.2.2 W
                  rwa [s1] at this
                clear s1 HSt
                go_wp2
                go_quiet (fail)
                go_wp2_with fail
                go_fit (HS1.out _)
                rintro e w2 ⟨rfl, hb2⟩
                have q2 : Below (wr.alloc (.cells #[.int .i32 c.1, .int .i64 c.2.1, .int .i64 c.2.2.1, .bool c.2.2.2.1, .bool c.2.2.2.2.1, .bool c.2.2.2.2.2] 82)).heap.size (wr.alloc (.cells #[.int .i32 c.1, .int .i64 c.2.1, .int .i64 c.2.2.1, .bool c.2.2.2.1, .bool c.2.2.2.2.1, .bool c.2.2.2.2.2] 82)) w2 := ⟨hb2.os, hb2.tape, hb2.output, hb2.size, hb2.block⟩
                obtain ⟨⟨b0, b1, b2, b3, b4, b5⟩, hfr2, hce2, kb, kB⟩ := HY.out w2 q2
                obtain ⟨⟨y0, y1, y2, y3, y4⟩, _⟩ := hfr2.cells
                simp only [Nat.zero_add] at b1 b2 b3 b4 b5
                have HB2 := Lib.hid q2
                have HCE := Lib.hid hce2
                have KB := Lib.hid kb
                have KBB := Lib.hid kB
                clear hb2 q2 hfr2 hce2 HS1 kb kB
                clear HY HB2 KBB
                obtain ⟨p0, p1, p2, p3, p4, p5⟩ := HCE.out y p HP.out
                clear HCE
                go_wp2
                go_quiet (fail)
                go_wp2
                go_quiet (fail)
                go_wp2
                go_ret
                exact ⟨by rw [HF.out]; rfl, KB.out.trans ⟨rfl, rfl, rfl, Nat.le_refl _, fun _ _ => rfl⟩⟩
            · have HF := Lib.hid (HNO.out fun k => by obtain ⟨_, p', h1, h2, _, _⟩ := k.2.2.2.2.2 hz; rw [hpi] at h1; cases h1; exact hp2 h2)
              have e2 : (p.2.1 != 2) = true := by simpa using hp2
              clear HNO HYES HOK hz hw0 hw2 hp2 hq0 hy hp hpi hsty
              have HS1 : Hid (∀ W, Calls Tryz.prog 103 #[.agg #[.int .i64 c.2.2.1, .bool c.2.2.2.1, .bool c.2.2.2.2.1, .bool c.2.2.2.2.2]] W fun e w' => e = .returned (.bool true) ∧ Below W.heap.size W w') := fun W => by
                have := HSt.out c.2.2 W
                rwa [s1] at this
              clear s1 HSt
              go_wp2
              go_quiet (fail)
              go_wp2_with fail
              go_fit (HS1.out _)
              rintro e w2 ⟨rfl, hb2⟩
              have q2 : Below (wr.alloc (.cells #[.int .i32 c.1, .int .i64 c.2.1, .int .i64 c.2.2.1, .bool c.2.2.2.1, .bool c.2.2.2.2.1, .bool c.2.2.2.2.2] 82)).heap.size (wr.alloc (.cells #[.int .i32 c.1, .int .i64 c.2.1, .int .i64 c.2.2.1, .bool c.2.2.2.1, .bool c.2.2.2.2.1, .bool c.2.2.2.2.2] 82)) w2 := ⟨hb2.os, hb2.tape, hb2.output, hb2.size, hb2.block⟩
              obtain ⟨⟨b0, b1, b2, b3, b4, b5⟩, hfr2, hce2, kb, kB⟩ := HY.out w2 q2
              obtain ⟨⟨y0, y1, y2, y3, y4⟩, _⟩ := hfr2.cells
              simp only [Nat.zero_add] at b1 b2 b3 b4 b5
              have HB2 := Lib.hid q2
              have HCE := Lib.hid hce2
              have KB := Lib.hid kb
              have KBB := Lib.hid kB
              clear hb2 q2 hfr2 hce2 HS1 kb kB
              clear HY HB2 KBB
              obtain ⟨p0, p1, p2, p3, p4, p5⟩ := HCE.out y p HP.out
              clear HCE
              go_wp2
              go_quiet (fail)
              go_wp2
              go_quiet (fail)
              go_wp2
              go_ret
              exact ⟨by rw [HF.out]; rfl, KB.out.trans ⟨rfl, rfl, rfl, Nat.le_refl _, fun _ _ => rfl⟩⟩
        · have d0 : decide (0 < c.2.1) = true := decide_eq_true (by omega)
          have d00 : 0 < c.2.1 := by omega
          have d1 : (c.2.1 == 0) = false := by rw [beq_eq_false_iff_ne]; omega
          have HO : Hid (∀ W, Calls Tryz.prog 67 #[.int .i32 c.1] W fun e w' => e = .returned (.int .i64 (ofN c.1 : Int)) ∧ Below W.heap.size W w') := fun W => HOf.out c.1 W
          clear HOf
          by_cases hd : (ofN c.1 : Int) = c.2.1
          · have hdok := hd
            have dd : ((ofN c.1 : Int) != c.2.1) = false := by simpa using hd
            obtain ⟨D, hD⟩ : ∃ D, (ofN c.1 : Int) = D := ⟨_, rfl⟩
            rw [hD] at dd HO
            by_cases h2 : c.2.1 = 2
            · have d2 : (c.2.1 == 2) = true := by simpa using h2
              cases bl with
              | true =>
                have HF := Lib.hid (HNO.out fun k => (k.2.2.2.2.1 h2).1 (HBL.out.1 rfl))
                clear HNO HYES HOK hz hw0 hw2 hd hdok hD h2 hsty
                have HS1 : Hid (∀ W, Calls Tryz.prog 103 #[.agg #[.int .i64 c.2.2.1, .bool c.2.2.2.1, .bool c.2.2.2.2.1, .bool c.2.2.2.2.2]] W fun e w' => e = .returned (.bool true) ∧ Below W.heap.size W w') := fun W => by
                  have := HSt.out c.2.2 W
                  rwa [s1] at this
                clear s1 HSt
                go_wp2
                go_quiet (fail)
                go_wp2_with fail
                go_fit (HS1.out _)
                rintro e w2 ⟨rfl, hb2⟩
                have q2 : Below (wr.alloc (.cells #[.int .i32 c.1, .int .i64 c.2.1, .int .i64 c.2.2.1, .bool c.2.2.2.1, .bool c.2.2.2.2.1, .bool c.2.2.2.2.2] 82)).heap.size (wr.alloc (.cells #[.int .i32 c.1, .int .i64 c.2.1, .int .i64 c.2.2.1, .bool c.2.2.2.1, .bool c.2.2.2.2.1, .bool c.2.2.2.2.2] 82)) w2 := ⟨hb2.os, hb2.tape, hb2.output, hb2.size, hb2.block⟩
                obtain ⟨⟨b0, b1, b2, b3, b4, b5⟩, hfr2, hce2, kb, kB⟩ := HY.out w2 q2
                obtain ⟨⟨y0, y1, y2, y3, y4⟩, _⟩ := hfr2.cells
                simp only [Nat.zero_add] at b1 b2 b3 b4 b5
                have HB2 := Lib.hid q2
                have HCE := Lib.hid hce2
                have KB := Lib.hid kb
                have KBB := Lib.hid kB
                clear hb2 q2 hfr2 hce2 HS1 kb kB
                have HSK : Hid (∀ W, Below w2.heap.size w2 W → (fun W => W.cell? ⟨wr.heap.size, 0, none⟩ = some (.int .i32 c.1) ∧ W.cell? ⟨wr.heap.size, 1, none⟩ = some (.int .i64 c.2.1)) W) := fun W hW => by
                  obtain ⟨⟨z0, z1, _⟩, _⟩ := HY.out W (HB2.out.trans (hW.mono HB2.out.size))
                  exact ⟨z0, z1⟩
                clear HCE KB KBB
                go_wp2
                clear b2 b3 b4 b5 y0 y1 y2 y3 y4
                first
                  | go_region_held3 (fun W => W.cell? ⟨wr.heap.size, 0, none⟩ = some (.int .i32 c.1) ∧ W.cell? ⟨wr.heap.size, 1, none⟩ = some (.int .i64 c.2.1)) (first | exact HSK.out _ ⟨hb3.os, hb3.tape, hb3.output, hb3.size, hb3.block⟩ | go_keep)
                      ((go_at_call 67; go_must (go_fit (HO.out _)); rintro e w3 ⟨rfl, hb3⟩))
                  | fail
                have q3 : Below w2.heap.size w2 w3 := ⟨hb3.os, hb3.tape, hb3.output, hb3.size, hb3.block⟩
                clear b0 b1
                obtain ⟨⟨b0, b1, b2, b3, b4, b5⟩, hfr3, hce3, kb, kB⟩ := HY.out w3 (HB2.out.trans (q3.mono HB2.out.size))
                obtain ⟨⟨y0, y1, y2, y3, y4⟩, _⟩ := hfr3.cells
                simp only [Nat.zero_add] at b1 b2 b3 b4 b5
                have KB := Lib.hid kb
                have KBB := Lib.hid kB
                have HCE := Lib.hid hce3
                clear kb kB hce3 hfr3 hb3 q3 HSK HO HY HB2
                clear HCE KBB
                go_wp2
                go_ret
                exact ⟨by rw [HF.out]; rfl, KB.out⟩
              | false =>
                have hq0 : i % n ≠ n - 1 := fun k => by have := HBL.out.2 k; cases this
                obtain ⟨x, hx⟩ : ∃ x, i + 1 = x := ⟨_, rfl⟩
                have hx1 : (i : Int) + 1 = (x : Int) := by omega
                have hxN : x < N := by
                  rcases Nat.lt_or_ge x N with k | k
                  · exact k
                  · exfalso
                    have e : i + 1 = m * n := by rw [← HNm.out]; omega
                    have h1 := Nat.div_add_mod' i n
                    apply hq0
                    obtain ⟨m', hm'⟩ : ∃ m', m = m' + 1 := ⟨m - 1, by have := HNm.out; by_cases z : m = 0; (subst z; omega); omega⟩
                    rw [hm', Nat.add_mul, Nat.one_mul] at e
                    rw [show i = m' * n + (n - 1) by omega, Nat.mul_comm, Nat.mul_add_mod]
                    exact Nat.mod_eq_of_lt (by omega)
                obtain ⟨p, hp⟩ : ∃ p, L[x]? = some p := ⟨_, List.getElem?_eq_getElem (by rw [HLn.out]; exact hxN)⟩
                have hpi : L[i + 1]? = some p := by rw [hx]; exact hp
                have HP := Lib.hid hp
                have hx3 : (x : Int) < (N : Int) := by omega
                by_cases hp0 : p.2.1 = 0
                · have e2 : (p.2.1 != 0) = false := by simpa using hp0
                  have HYE := Lib.hid (HYES.out ⟨hsty, by omega, by omega, fun _ => hdok, fun _ => ⟨hq0, p, hpi, hp0⟩, fun k => by omega⟩)
                  rw [hx] at HYE hi1 HI
                  clear HNO HYES HOK hz hw0 hw2 hd hdok hD h2 hp0 hq0 hx hp hpi hsty hxN
                  have HS1 : Hid (∀ W, Calls Tryz.prog 103 #[.agg #[.int .i64 c.2.2.1, .bool c.2.2.2.1, .bool c.2.2.2.2.1, .bool c.2.2.2.2.2]] W fun e w' => e = .returned (.bool true) ∧ Below W.heap.size W w') := fun W => by
                    have := HSt.out c.2.2 W
                    rwa [s1] at this
                  clear s1 HSt
                  go_wp2
                  go_quiet (fail)
                  go_wp2_with fail
                  go_fit (HS1.out _)
                  rintro e w2 ⟨rfl, hb2⟩
                  have q2 : Below (wr.alloc (.cells #[.int .i32 c.1, .int .i64 c.2.1, .int .i64 c.2.2.1, .bool c.2.2.2.1, .bool c.2.2.2.2.1, .bool c.2.2.2.2.2] 82)).heap.size (wr.alloc (.cells #[.int .i32 c.1, .int .i64 c.2.1, .int .i64 c.2.2.1, .bool c.2.2.2.1, .bool c.2.2.2.2.1, .bool c.2.2.2.2.2] 82)) w2 := ⟨hb2.os, hb2.tape, hb2.output, hb2.size, hb2.block⟩
                  obtain ⟨⟨b0, b1, b2, b3, b4, b5⟩, hfr2, hce2, kb, kB⟩ := HY.out w2 q2
                  obtain ⟨⟨y0, y1, y2, y3, y4⟩, _⟩ := hfr2.cells
                  simp only [Nat.zero_add] at b1 b2 b3 b4 b5
                  have HB2 := Lib.hid q2
                  have HCE := Lib.hid hce2
                  have KB := Lib.hid kb
                  have KBB := Lib.hid kB
                  clear hb2 q2 hfr2 hce2 HS1 kb kB
                  have HSK : Hid (∀ W, Below w2.heap.size w2 W → (fun W => W.cell? ⟨wr.heap.size, 0, none⟩ = some (.int .i32 c.1) ∧ W.cell? ⟨wr.heap.size, 1, none⟩ = some (.int .i64 c.2.1)) W) := fun W hW => by
                    obtain ⟨⟨z0, z1, _⟩, _⟩ := HY.out W (HB2.out.trans (hW.mono HB2.out.size))
                    exact ⟨z0, z1⟩
                  clear HCE KB KBB
                  go_wp2
                  clear b2 b3 b4 b5 y0 y1 y2 y3 y4
                  first
                    | go_region_held3 (fun W => W.cell? ⟨wr.heap.size, 0, none⟩ = some (.int .i32 c.1) ∧ W.cell? ⟨wr.heap.size, 1, none⟩ = some (.int .i64 c.2.1)) (first | exact HSK.out _ ⟨hb3.os, hb3.tape, hb3.output, hb3.size, hb3.block⟩ | go_keep)
                        ((go_at_call 67; go_must (go_fit (HO.out _)); rintro e w3 ⟨rfl, hb3⟩))
                    | fail
                  have q3 : Below w2.heap.size w2 w3 := ⟨hb3.os, hb3.tape, hb3.output, hb3.size, hb3.block⟩
                  clear b0 b1
                  obtain ⟨⟨b0, b1, b2, b3, b4, b5⟩, hfr3, hce3, kb, kB⟩ := HY.out w3 (HB2.out.trans (q3.mono HB2.out.size))
                  obtain ⟨⟨y0, y1, y2, y3, y4⟩, _⟩ := hfr3.cells
                  simp only [Nat.zero_add] at b1 b2 b3 b4 b5
                  have KB := Lib.hid kb
                  have KBB := Lib.hid kB
                  have HCE := Lib.hid hce3
                  clear kb kB hce3 hfr3 hb3 q3 HSK HO HY HB2
                  obtain ⟨p0, p1, p2, p3, p4, p5⟩ := HCE.out x p HP.out
                  clear HCE
                  go_wp2
                  go_quiet (fail)
                  go_wp2
                  go_roundw
                  case rel => exact ⟨x, rfl, hi1, HYE.out, KBB.out.trans ⟨rfl, rfl, rfl, Nat.le_refl _, fun _ _ => rfl⟩⟩
                  case measure => simp [intOf]; exact HI.out
                · have HF := Lib.hid (HNO.out fun k => by obtain ⟨_, p', h1, h3⟩ := k.2.2.2.2.1 h2; rw [hpi] at h1; cases h1; exact hp0 h3)
                  have e2 : (p.2.1 != 0) = true := by simpa using hp0
                  clear HNO HYES HOK hz hw0 hw2 hd hdok hD h2 hp0 hq0 hx hp hpi hsty hxN
                  have HS1 : Hid (∀ W, Calls Tryz.prog 103 #[.agg #[.int .i64 c.2.2.1, .bool c.2.2.2.1, .bool c.2.2.2.2.1, .bool c.2.2.2.2.2]] W fun e w' => e = .returned (.bool true) ∧ Below W.heap.size W w') := fun W => by
                    have := HSt.out c.2.2 W
                    rwa [s1] at this
                  clear s1 HSt
                  go_wp2
                  go_quiet (fail)
                  go_wp2_with fail
                  go_fit (HS1.out _)
                  rintro e w2 ⟨rfl, hb2⟩
                  have q2 : Below (wr.alloc (.cells #[.int .i32 c.1, .int .i64 c.2.1, .int .i64 c.2.2.1, .bool c.2.2.2.1, .bool c.2.2.2.2.1, .bool c.2.2.2.2.2] 82)).heap.size (wr.alloc (.cells #[.int .i32 c.1, .int .i64 c.2.1, .int .i64 c.2.2.1, .bool c.2.2.2.1, .bool c.2.2.2.2.1, .bool c.2.2.2.2.2] 82)) w2 := ⟨hb2.os, hb2.tape, hb2.output, hb2.size, hb2.block⟩
                  obtain ⟨⟨b0, b1, b2, b3, b4, b5⟩, hfr2, hce2, kb, kB⟩ := HY.out w2 q2
                  obtain ⟨⟨y0, y1, y2, y3, y4⟩, _⟩ := hfr2.cells
                  simp only [Nat.zero_add] at b1 b2 b3 b4 b5
                  have HB2 := Lib.hid q2
                  have HCE := Lib.hid hce2
                  have KB := Lib.hid kb
                  have KBB := Lib.hid kB
                  clear hb2 q2 hfr2 hce2 HS1 kb kB
                  have HSK : Hid (∀ W, Below w2.heap.size w2 W → (fun W => W.cell? ⟨wr.heap.size, 0, none⟩ = some (.int .i32 c.1) ∧ W.cell? ⟨wr.heap.size, 1, none⟩ = some (.int .i64 c.2.1)) W) := fun W hW => by
                    obtain ⟨⟨z0, z1, _⟩, _⟩ := HY.out W (HB2.out.trans (hW.mono HB2.out.size))
                    exact ⟨z0, z1⟩
                  clear HCE KB KBB
                  go_wp2
                  clear b2 b3 b4 b5 y0 y1 y2 y3 y4
                  first
                    | go_region_held3 (fun W => W.cell? ⟨wr.heap.size, 0, none⟩ = some (.int .i32 c.1) ∧ W.cell? ⟨wr.heap.size, 1, none⟩ = some (.int .i64 c.2.1)) (first | exact HSK.out _ ⟨hb3.os, hb3.tape, hb3.output, hb3.size, hb3.block⟩ | go_keep)
                        ((go_at_call 67; go_must (go_fit (HO.out _)); rintro e w3 ⟨rfl, hb3⟩))
                    | fail
                  have q3 : Below w2.heap.size w2 w3 := ⟨hb3.os, hb3.tape, hb3.output, hb3.size, hb3.block⟩
                  clear b0 b1
                  obtain ⟨⟨b0, b1, b2, b3, b4, b5⟩, hfr3, hce3, kb, kB⟩ := HY.out w3 (HB2.out.trans (q3.mono HB2.out.size))
                  obtain ⟨⟨y0, y1, y2, y3, y4⟩, _⟩ := hfr3.cells
                  simp only [Nat.zero_add] at b1 b2 b3 b4 b5
                  have KB := Lib.hid kb
                  have KBB := Lib.hid kB
                  have HCE := Lib.hid hce3
                  clear kb kB hce3 hfr3 hb3 q3 HSK HO HY HB2
                  obtain ⟨p0, p1, p2, p3, p4, p5⟩ := HCE.out x p HP.out
                  clear HCE KBB
                  go_wp2
                  go_ret
                  exact ⟨by rw [HF.out]; rfl, KB.out⟩
            · have d2 : (c.2.1 == 2) = false := by simpa using h2
              have HYE := Lib.hid (HYES.out ⟨hsty, by omega, by omega, fun _ => hdok, fun k => by omega, fun k => by omega⟩)
              clear HNO HYES HOK hz hw0 hw2 hd hdok hD h2 hsty
              have HS1 : Hid (∀ W, Calls Tryz.prog 103 #[.agg #[.int .i64 c.2.2.1, .bool c.2.2.2.1, .bool c.2.2.2.2.1, .bool c.2.2.2.2.2]] W fun e w' => e = .returned (.bool true) ∧ Below W.heap.size W w') := fun W => by
                have := HSt.out c.2.2 W
                rwa [s1] at this
              clear s1 HSt
              go_wp2
              go_quiet (fail)
              go_wp2_with fail
              go_fit (HS1.out _)
              rintro e w2 ⟨rfl, hb2⟩
              have q2 : Below (wr.alloc (.cells #[.int .i32 c.1, .int .i64 c.2.1, .int .i64 c.2.2.1, .bool c.2.2.2.1, .bool c.2.2.2.2.1, .bool c.2.2.2.2.2] 82)).heap.size (wr.alloc (.cells #[.int .i32 c.1, .int .i64 c.2.1, .int .i64 c.2.2.1, .bool c.2.2.2.1, .bool c.2.2.2.2.1, .bool c.2.2.2.2.2] 82)) w2 := ⟨hb2.os, hb2.tape, hb2.output, hb2.size, hb2.block⟩
              obtain ⟨⟨b0, b1, b2, b3, b4, b5⟩, hfr2, hce2, kb, kB⟩ := HY.out w2 q2
              obtain ⟨⟨y0, y1, y2, y3, y4⟩, _⟩ := hfr2.cells
              simp only [Nat.zero_add] at b1 b2 b3 b4 b5
              have HB2 := Lib.hid q2
              have HCE := Lib.hid hce2
              have KB := Lib.hid kb
              have KBB := Lib.hid kB
              clear hb2 q2 hfr2 hce2 HS1 kb kB
              have HSK : Hid (∀ W, Below w2.heap.size w2 W → (fun W => W.cell? ⟨wr.heap.size, 0, none⟩ = some (.int .i32 c.1) ∧ W.cell? ⟨wr.heap.size, 1, none⟩ = some (.int .i64 c.2.1)) W) := fun W hW => by
                obtain ⟨⟨z0, z1, _⟩, _⟩ := HY.out W (HB2.out.trans (hW.mono HB2.out.size))
                exact ⟨z0, z1⟩
              clear HCE KB KBB
              go_wp2
              clear b2 b3 b4 b5 y0 y1 y2 y3 y4
              first
                | go_region_held3 (fun W => W.cell? ⟨wr.heap.size, 0, none⟩ = some (.int .i32 c.1) ∧ W.cell? ⟨wr.heap.size, 1, none⟩ = some (.int .i64 c.2.1)) (first | exact HSK.out _ ⟨hb3.os, hb3.tape, hb3.output, hb3.size, hb3.block⟩ | go_keep)
                    ((go_at_call 67; go_must (go_fit (HO.out _)); rintro e w3 ⟨rfl, hb3⟩))
                | fail
              have q3 : Below w2.heap.size w2 w3 := ⟨hb3.os, hb3.tape, hb3.output, hb3.size, hb3.block⟩
              clear b0 b1
              obtain ⟨⟨b0, b1, b2, b3, b4, b5⟩, hfr3, hce3, kb, kB⟩ := HY.out w3 (HB2.out.trans (q3.mono HB2.out.size))
              obtain ⟨⟨y0, y1, y2, y3, y4⟩, _⟩ := hfr3.cells
              simp only [Nat.zero_add] at b1 b2 b3 b4 b5
              have KB := Lib.hid kb
              have KBB := Lib.hid kB
              have HCE := Lib.hid hce3
              clear kb kB hce3 hfr3 hb3 q3 HSK HO HY HB2
              clear HCE
              go_wp2
              go_quiet (fail)
              go_wp2
              go_roundw
              case rel => exact ⟨i + 1, by go_num, hi1, HYE.out, KBB.out.trans ⟨rfl, rfl, rfl, Nat.le_refl _, fun _ _ => rfl⟩⟩
              case measure => simp [intOf]; exact HI.out
          · have HF := Lib.hid (HNO.out fun k => hd (k.2.2.2.1 (by omega)))
            have dd : ((ofN c.1 : Int) != c.2.1) = true := by simpa using hd
            obtain ⟨D, hD⟩ : ∃ D, (ofN c.1 : Int) = D := ⟨_, rfl⟩
            rw [hD] at dd HO
            clear HNO HYES HOK hz hw0 hw2 hd hD hsty
            have HS1 : Hid (∀ W, Calls Tryz.prog 103 #[.agg #[.int .i64 c.2.2.1, .bool c.2.2.2.1, .bool c.2.2.2.2.1, .bool c.2.2.2.2.2]] W fun e w' => e = .returned (.bool true) ∧ Below W.heap.size W w') := fun W => by
              have := HSt.out c.2.2 W
              rwa [s1] at this
            clear s1 HSt
            go_wp2
            go_quiet (fail)
            go_wp2_with fail
            go_fit (HS1.out _)
            rintro e w2 ⟨rfl, hb2⟩
            have q2 : Below (wr.alloc (.cells #[.int .i32 c.1, .int .i64 c.2.1, .int .i64 c.2.2.1, .bool c.2.2.2.1, .bool c.2.2.2.2.1, .bool c.2.2.2.2.2] 82)).heap.size (wr.alloc (.cells #[.int .i32 c.1, .int .i64 c.2.1, .int .i64 c.2.2.1, .bool c.2.2.2.1, .bool c.2.2.2.2.1, .bool c.2.2.2.2.2] 82)) w2 := ⟨hb2.os, hb2.tape, hb2.output, hb2.size, hb2.block⟩
            obtain ⟨⟨b0, b1, b2, b3, b4, b5⟩, hfr2, hce2, kb, kB⟩ := HY.out w2 q2
            obtain ⟨⟨y0, y1, y2, y3, y4⟩, _⟩ := hfr2.cells
            simp only [Nat.zero_add] at b1 b2 b3 b4 b5
            have HB2 := Lib.hid q2
            have HCE := Lib.hid hce2
            have KB := Lib.hid kb
            have KBB := Lib.hid kB
            clear hb2 q2 hfr2 hce2 HS1 kb kB
            have HSK : Hid (∀ W, Below w2.heap.size w2 W → (fun W => W.cell? ⟨wr.heap.size, 0, none⟩ = some (.int .i32 c.1) ∧ W.cell? ⟨wr.heap.size, 1, none⟩ = some (.int .i64 c.2.1)) W) := fun W hW => by
              obtain ⟨⟨z0, z1, _⟩, _⟩ := HY.out W (HB2.out.trans (hW.mono HB2.out.size))
              exact ⟨z0, z1⟩
            clear HCE KB KBB
            go_wp2
            clear b2 b3 b4 b5 y0 y1 y2 y3 y4
            first
              | go_region_held3 (fun W => W.cell? ⟨wr.heap.size, 0, none⟩ = some (.int .i32 c.1) ∧ W.cell? ⟨wr.heap.size, 1, none⟩ = some (.int .i64 c.2.1)) (first | exact HSK.out _ ⟨hb3.os, hb3.tape, hb3.output, hb3.size, hb3.block⟩ | go_keep)
                  ((go_at_call 67; go_must (go_fit (HO.out _)); rintro e w3 ⟨rfl, hb3⟩))
              | fail
            have q3 : Below w2.heap.size w2 w3 := ⟨hb3.os, hb3.tape, hb3.output, hb3.size, hb3.block⟩
            clear b0 b1
            obtain ⟨⟨b0, b1, b2, b3, b4, b5⟩, hfr3, hce3, kb, kB⟩ := HY.out w3 (HB2.out.trans (q3.mono HB2.out.size))
            obtain ⟨⟨y0, y1, y2, y3, y4⟩, _⟩ := hfr3.cells
            simp only [Nat.zero_add] at b1 b2 b3 b4 b5
            have KB := Lib.hid kb
            have KBB := Lib.hid kB
            have HCE := Lib.hid hce3
            clear kb kB hce3 hfr3 hb3 q3 HSK HO HY HB2
            clear HCE KBB
            go_wp2
            go_ret
            exact ⟨by rw [HF.out]; rfl, KB.out⟩
      · have HF := Lib.hid (HNO.out fun k => s1 k.1)
        clear HNO HYES HOK HOf
        have HS1 : Hid (∀ W, Calls Tryz.prog 103 #[.agg #[.int .i64 c.2.2.1, .bool c.2.2.2.1, .bool c.2.2.2.2.1, .bool c.2.2.2.2.2]] W fun e w' => e = .returned (.bool false) ∧ Below W.heap.size W w') := fun W => by
          have := HSt.out c.2.2 W
          rwa [Bool.eq_false_iff.2 s1] at this
        clear s1 HSt
        go_wp2
        go_quiet (fail)
        go_wp2_with fail
        go_fit (HS1.out _)
        rintro e w2 ⟨rfl, hb2⟩
        have q2 : Below (wr.alloc (.cells #[.int .i32 c.1, .int .i64 c.2.1, .int .i64 c.2.2.1, .bool c.2.2.2.1, .bool c.2.2.2.2.1, .bool c.2.2.2.2.2] 82)).heap.size (wr.alloc (.cells #[.int .i32 c.1, .int .i64 c.2.1, .int .i64 c.2.2.1, .bool c.2.2.2.1, .bool c.2.2.2.2.1, .bool c.2.2.2.2.2] 82)) w2 := ⟨hb2.os, hb2.tape, hb2.output, hb2.size, hb2.block⟩
        obtain ⟨⟨b0, b1, b2, b3, b4, b5⟩, hfr2, hce2, kb, kB⟩ := HY.out w2 q2
        obtain ⟨⟨y0, y1, y2, y3, y4⟩, _⟩ := hfr2.cells
        simp only [Nat.zero_add] at b1 b2 b3 b4 b5
        have HB2 := Lib.hid q2
        have HCE := Lib.hid hce2
        have KB := Lib.hid kb
        have KBB := Lib.hid kB
        clear hb2 q2 hfr2 hce2 HS1 kb kB
        clear HY HB2 HCE KBB
        go_wp2
        go_ret
        exact ⟨by rw [HF.out]; rfl, KB.out⟩
    · have HF : Hid (B = true) := HB.out.2 fun j c hj => HU.out j c (by have := (List.getElem?_eq_some_iff.1 hj).1; rw [HLn.out] at this; omega) hj
      obtain rfl : i = N := by omega
      have KB := Lib.hid hbw
      clear HX HBW HU hfr hcel hbw
      go_wp2
      go_ret
      exact ⟨by rw [HF.out]; rfl, KB.out⟩
end Go.Proofs.YtpkjaallhhjleaaGreatDoor
