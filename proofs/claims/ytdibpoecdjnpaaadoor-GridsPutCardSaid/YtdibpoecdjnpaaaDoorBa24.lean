/-
  grids.Put: what it returns, and lays: a frame that may be.
-/
import Derived.Test.YtdibpoecdjnpaaaDoorBa23
namespace Go.Proofs.YtdibpoecdjnpaaaDoor
open Go.RowKit

section
variable {ok : Nat → Prop} {g0 o0 N cap : Nat} {f : Frm} {m n : Nat}

/-- What the calls on the way give, whatever the world that they are made in. -/
theorem put_calls (row col r : Int) (s : Sty) (w : World) (hf : OkF f m n) (hN : N = f.cells.length) (hcap : N ≤ cap) (hS : CelsW ok w (.slice (some ⟨g0, o0, none⟩) N cap) f.cells) (hL : LaidW w) :
    Hid (∀ W, Below w.heap.size w W → Calls Tryd.prog 26 #[.agg #[.int .i64 f.rows, .int .i64 f.cols, .slice (some ⟨g0, o0, none⟩) N cap, .int .i64 f.row, .int .i64 f.col]] W fun e w' => e = .returned (.bool true) ∧ Below W.heap.size W w') ∧
    Hid (∀ W, Below w.heap.size w W → Calls Tryd.prog 35 #[.slice (some ⟨g0, o0, none⟩) N cap] W fun e w' => ∃ g' c', e = .returned (.slice (some ⟨g', 0, none⟩) N c') ∧ N ≤ c' ∧ NewL W w' g' f.cells ∧ Below W.heap.size W w') ∧
    Hid (∀ W, Below w.heap.size w W → Calls Tryd.prog 28 #[.int .i32 r] W fun e w' => e = .returned (.int .i64 (ofN r : Int)) ∧ Below W.heap.size W w') ∧
    Hid (∀ (g c : Nat) W, Calls Tryd.prog 36 #[.agg #[.int .i64 f.rows, .int .i64 f.cols, .slice (some ⟨g, 0, none⟩) N c, .int .i64 f.row, .int .i64 f.col], .int .i64 row, .int .i64 col] W fun e w' => e = .returned (.bool (withinB f.rows f.cols row col)) ∧ Below W.heap.size W w') ∧
    Hid (∀ W, Calls Tryd.prog 37 #[.agg #[.int .i64 s.1, .bool s.2.1, .bool s.2.2.1, .bool s.2.2.2]] W fun e w' => e = .returned (.bool (styB s)) ∧ Below W.heap.size W w') := by
  have hroom := hf.room
  have hpos : 0 < N := by
    have h1 := hf.len; have h2 := hf.hm; have h3 := hf.hn
    rw [hN, h1]; exact Nat.mul_pos (by omega) (by omega)
  refine ⟨fun W hW => ?_, fun W hW => ?_, fun W hW => ?_, fun g c W => ?_, fun W => ?_⟩
  · have := gvalid_any W (FrameW.below ⟨_, N, cap, rfl, hN, hcap, hS⟩ hW) (hL.below hW)
    rwa [hf.valid] at this
  · exact clone_any g0 o0 cap N W (hS.below hW) hN.symm hpos (by omega)
  · exact of_any r W (hL.1.below hW)
  · exact within_any f.rows f.cols f.row f.col row col W
  · exact styled_any s W
/-- The frame's cells are of its own now. -/
theorem put_own {w W3 : World} {s : Sty} {g c : Nat} {zs : List Value} {W2 : World} (hN : N = f.cells.length) (hc : N ≤ c) (h2 : Below (put0 w f s (some ⟨g0, o0, none⟩) N cap).heap.size (put0 w f s (some ⟨g0, o0, none⟩) N cap) W2) (h3 : Below W2.heap.size W2 W3) (hg : W2.heap.size ≤ g) (hb : blkL W3 g f.cells zs) :
    PutS w (W3.setCell ⟨w.heap.size, 2, none⟩ (.slice (some ⟨g, 0, none⟩) N c)) f s N g c f.cells zs ∧ W3.cell? ⟨w.heap.size, 2, none⟩ = some (.slice (some ⟨g0, o0, none⟩) N cap) ∧ W3.frozen? ⟨w.heap.size, 2, none⟩ = false ∧ w.heap.size < W3.heap.size := by
  obtain ⟨hz, q0, q1, q2, q3⟩ := put0_is w f s (some ⟨g0, o0, none⟩) N cap
  have h := h2.trans (h3.mono h2.size)
  rw [hz] at h h2
  have hsz := h2.size
  have r1 := q1.below h (by omega)
  have r2 := (h.block (w.heap.size + 1) (by omega)).trans q2
  have r3 := q3.below h (by omega)
  have hk := keep_set (ok := fun k => k ≠ w.heap.size) w.heap.size 2 none (.slice (some ⟨g, 0, none⟩) N c) W3 (fun k => k rfl)
  have hb1 : Below w.heap.size w W3 := q0.trans (h.mono (by omega))
  refine ⟨⟨KeepW.below hb1 hk hb1.size (fun k hk => by show _ ≠ _; omega), r1.set2 _, (hk.same _ (Array.getElem?_eq_some_iff.1 r2).1 (by show _ ≠ _; omega)).trans r2, r3.keep hk (by show _ ≠ _; omega), by omega, hb.keep hk (by show _ ≠ _; omega), hN.symm, hc⟩, r1.cells.1.2.2.1, r1.cells.2.2.2.1, r1.lt⟩

set_option maxHeartbeats 4000000 in
theorem put_no0 (row col r : Int) (s : Sty) (w : World) (hf : OkF f m n) (hN : N = f.cells.length) (hcap : N ≤ cap) (hS : CelsW ok w (.slice (some ⟨g0, o0, none⟩) N cap) f.cells) (hL : LaidW w) (h0 : ofN r = 0) :
    Calls Tryd.prog 17 #[.agg #[.int .i64 f.rows, .int .i64 f.cols, .slice (some ⟨g0, o0, none⟩) N cap, .int .i64 f.row, .int .i64 f.col], .int .i64 row, .int .i64 col, .int .i32 r, .agg #[.int .i64 s.1, .bool s.2.1, .bool s.2.2.1, .bool s.2.2.2]] w fun e w' => ∃ v', e = .returned v' ∧ FrameW AnyB w' v' f ∧ Below w.heap.size w w' := by
  obtain ⟨HV, HC, HO, HW, HY⟩ := put_calls row col r s w hf hN hcap hS hL
  obtain ⟨d, hd⟩ : ∃ d, ofN r = d := ⟨_, rfl⟩
  rw [hd] at HO h0
  have b0 : ((d : Int) == 0) = true := by rw [beq_iff_eq]; omega
  have HPO := Lib.hid (fun W2 W3 g c zs hc h2 h3 hg hb => put_own (w := w) (f := f) (s := s) (g0 := g0) (o0 := o0) (cap := cap) (zs := zs) (g := g) (c := c) (W2 := W2) (W3 := W3) hN hc h2 h3 hg hb)
  have H0 := Lib.hid (put0_is w f s (some ⟨g0, o0, none⟩) N cap).2.1
  have H0f := Lib.hid (put0_is w f s (some ⟨g0, o0, none⟩) N cap).2.2.1
  unfold put0 at HPO H0 H0f
  clear hS hL hN hcap hd hf h0
  go_enter Tryd.func17, Tryd.ntmps17
  go_wp2_with fail
  go_fit (HV.out _ H0.out)
  rintro e w2 ⟨rfl, hb2⟩
  obtain ⟨⟨x0, x1, x2, x3, x4⟩, _⟩ := (H0f.out.below hb2 H0f.out.lt).cells
  go_wp2_with fail
  go_fit (HC.out _ (H0.out.trans (hb2.mono H0.out.size)))
  rintro e w3 ⟨g, c, rfl, hc, ⟨zs, hg, hbk⟩, hb3⟩
  obtain ⟨P4, z2, f2, hlt⟩ := HPO.out w2 w3 g c zs hc hb2 hb3 hg hbk
  have HP4 := Lib.hid P4
  clear P4 HV HC HPO H0 H0f hb2 hb3 hbk x0 x1 x2 x3 x4
  go_wp2_with fail
  go_fit (HO.out _ HP4.out.below)
  rintro e w5 ⟨rfl, hb5⟩
  have HP5 := Lib.hid (HP4.out.next hb5)
  obtain ⟨⟨x0, x1, x2, x3, x4⟩, _⟩ := HP5.out.fr.cells
  clear HO hb5 z2 f2 hlt HP4
  clear HW HY
  obtain ⟨⟨r0, r1, r2, r3, r4⟩, g0', g1, g2, g3, g4⟩ := HP5.out.res.cells
  have HD := Lib.hid HP5.out.done
  have hlt := HP5.out.res.lt
  clear HP5
  go_wp2
  obtain ⟨⟨y0, y1, y2, y3, y4⟩, _⟩ := HD.out.1.cells
  unfold set5 at y0 y1 y2 y3 y4
  exact bodyPost_ret (v := .agg #[.int .i64 f.rows, .int .i64 f.cols, .slice (some ⟨g, 0, none⟩) N c, .int .i64 f.row, .int .i64 f.col]) (by simp [results, Tryd.results17, go_sem, y0, y1, y2, y3, y4]) rfl ⟨_, rfl, HD.out.2.1, HD.out.2.2⟩

set_option maxHeartbeats 4000000 in
theorem put_no1 (row col r : Int) (s : Sty) (w : World) (hf : OkF f m n) (hN : N = f.cells.length) (hcap : N ≤ cap) (hS : CelsW ok w (.slice (some ⟨g0, o0, none⟩) N cap) f.cells) (hL : LaidW w) (h0 : ofN r ≠ 0) (h1 : withinB f.rows f.cols row col = false) :
    Calls Tryd.prog 17 #[.agg #[.int .i64 f.rows, .int .i64 f.cols, .slice (some ⟨g0, o0, none⟩) N cap, .int .i64 f.row, .int .i64 f.col], .int .i64 row, .int .i64 col, .int .i32 r, .agg #[.int .i64 s.1, .bool s.2.1, .bool s.2.2.1, .bool s.2.2.2]] w fun e w' => ∃ v', e = .returned v' ∧ FrameW AnyB w' v' f ∧ Below w.heap.size w w' := by
  obtain ⟨HV, HC, HO, HW, HY⟩ := put_calls row col r s w hf hN hcap hS hL
  rw [h1] at HW
  obtain ⟨d, hd⟩ : ∃ d, ofN r = d := ⟨_, rfl⟩
  rw [hd] at HO h0
  have b0 : ((d : Int) == 0) = false := by have h00 := h0; rw [beq_eq_false_iff_ne]; omega
  have HPO := Lib.hid (fun W2 W3 g c zs hc h2 h3 hg hb => put_own (w := w) (f := f) (s := s) (g0 := g0) (o0 := o0) (cap := cap) (zs := zs) (g := g) (c := c) (W2 := W2) (W3 := W3) hN hc h2 h3 hg hb)
  have H0 := Lib.hid (put0_is w f s (some ⟨g0, o0, none⟩) N cap).2.1
  have H0f := Lib.hid (put0_is w f s (some ⟨g0, o0, none⟩) N cap).2.2.1
  unfold put0 at HPO H0 H0f
  clear hS hL hN hcap hd hf h0 h1
  go_enter Tryd.func17, Tryd.ntmps17
  go_wp2_with fail
  go_fit (HV.out _ H0.out)
  rintro e w2 ⟨rfl, hb2⟩
  obtain ⟨⟨x0, x1, x2, x3, x4⟩, _⟩ := (H0f.out.below hb2 H0f.out.lt).cells
  go_wp2_with fail
  go_fit (HC.out _ (H0.out.trans (hb2.mono H0.out.size)))
  rintro e w3 ⟨g, c, rfl, hc, ⟨zs, hg, hbk⟩, hb3⟩
  obtain ⟨P4, z2, f2, hlt⟩ := HPO.out w2 w3 g c zs hc hb2 hb3 hg hbk
  have HP4 := Lib.hid P4
  clear P4 HV HC HPO H0 H0f hb2 hb3 hbk x0 x1 x2 x3 x4
  go_wp2_with fail
  go_fit (HO.out _ HP4.out.below)
  rintro e w5 ⟨rfl, hb5⟩
  have HP5 := Lib.hid (HP4.out.next hb5)
  obtain ⟨⟨x0, x1, x2, x3, x4⟩, _⟩ := HP5.out.fr.cells
  clear HO hb5 z2 f2 hlt HP4
  clear HY
  go_wp2_with fail
  go_fit (HW.out g c _)
  rintro e w6 ⟨rfl, hb6⟩
  have HP6 := Lib.hid (HP5.out.next hb6)
  obtain ⟨⟨x0, x1, x2, x3, x4⟩, _⟩ := HP6.out.fr.cells
  clear HW hb6 HP5
  obtain ⟨⟨r0, r1, r2, r3, r4⟩, g0', g1, g2, g3, g4⟩ := HP6.out.res.cells
  have HD := Lib.hid HP6.out.done
  have hlt := HP6.out.res.lt
  clear HP6
  go_wp2
  obtain ⟨⟨y0, y1, y2, y3, y4⟩, _⟩ := HD.out.1.cells
  unfold set5 at y0 y1 y2 y3 y4
  exact bodyPost_ret (v := .agg #[.int .i64 f.rows, .int .i64 f.cols, .slice (some ⟨g, 0, none⟩) N c, .int .i64 f.row, .int .i64 f.col]) (by simp [results, Tryd.results17, go_sem, y0, y1, y2, y3, y4]) rfl ⟨_, rfl, HD.out.2.1, HD.out.2.2⟩

set_option maxHeartbeats 4000000 in
theorem put_no2 (row col r : Int) (s : Sty) (w : World) (hf : OkF f m n) (hN : N = f.cells.length) (hcap : N ≤ cap) (hS : CelsW ok w (.slice (some ⟨g0, o0, none⟩) N cap) f.cells) (hL : LaidW w) (h1 : withinB f.rows f.cols row col = true) (h2 : f.cols < col + (ofN r : Int)) :
    Calls Tryd.prog 17 #[.agg #[.int .i64 f.rows, .int .i64 f.cols, .slice (some ⟨g0, o0, none⟩) N cap, .int .i64 f.row, .int .i64 f.col], .int .i64 row, .int .i64 col, .int .i32 r, .agg #[.int .i64 s.1, .bool s.2.1, .bool s.2.2.1, .bool s.2.2.2]] w fun e w' => ∃ v', e = .returned v' ∧ FrameW AnyB w' v' f ∧ Below w.heap.size w w' := by
  obtain ⟨HV, HC, HO, HW, HY⟩ := put_calls row col r s w hf hN hcap hS hL
  rw [h1] at HW
  have hdl := ofN_le r
  obtain ⟨w1, w2', w3', w4'⟩ := (withinB_iff _ _ _ _).1 h1
  have hcl := hf.cols
  have hrl := hf.rows
  have hm2 := hf.hm
  have hn2 := hf.hn
  have k1 : f.cols ≤ 200 := by omega
  have k3 : (0 : Int) ≤ col := by omega
  have k4 : col < 200 := by omega
  obtain ⟨d, hd⟩ : ∃ d, ofN r = d := ⟨_, rfl⟩
  rw [hd] at HO h2 hdl
  have b0 : ((d : Int) == 0) = false := by rw [beq_eq_false_iff_ne]; omega
  have k5 : (d : Int) ≤ 2 := by omega
  have k6 : (0 : Int) ≤ (d : Int) := by omega
  have HPO := Lib.hid (fun W2 W3 g c zs hc h2 h3 hg hb => put_own (w := w) (f := f) (s := s) (g0 := g0) (o0 := o0) (cap := cap) (zs := zs) (g := g) (c := c) (W2 := W2) (W3 := W3) hN hc h2 h3 hg hb)
  have H0 := Lib.hid (put0_is w f s (some ⟨g0, o0, none⟩) N cap).2.1
  have H0f := Lib.hid (put0_is w f s (some ⟨g0, o0, none⟩) N cap).2.2.1
  unfold put0 at HPO H0 H0f
  clear hS hL hN hcap hd hf h1 w1 w2' w3' w4' hcl hrl hm2 hn2 hdl
  go_enter Tryd.func17, Tryd.ntmps17
  go_wp2_with fail
  go_fit (HV.out _ H0.out)
  rintro e w2 ⟨rfl, hb2⟩
  obtain ⟨⟨x0, x1, x2, x3, x4⟩, _⟩ := (H0f.out.below hb2 H0f.out.lt).cells
  go_wp2_with fail
  go_fit (HC.out _ (H0.out.trans (hb2.mono H0.out.size)))
  rintro e w3 ⟨g, c, rfl, hc, ⟨zs, hg, hbk⟩, hb3⟩
  obtain ⟨P4, z2, f2, hlt⟩ := HPO.out w2 w3 g c zs hc hb2 hb3 hg hbk
  have HP4 := Lib.hid P4
  clear P4 HV HC HPO H0 H0f hb2 hb3 hbk x0 x1 x2 x3 x4
  go_wp2_with fail
  go_fit (HO.out _ HP4.out.below)
  rintro e w5 ⟨rfl, hb5⟩
  have HP5 := Lib.hid (HP4.out.next hb5)
  obtain ⟨⟨x0, x1, x2, x3, x4⟩, _⟩ := HP5.out.fr.cells
  clear HO hb5 z2 f2 hlt HP4
  clear HY
  go_wp2_with fail
  go_fit (HW.out g c _)
  rintro e w6 ⟨rfl, hb6⟩
  have HP6 := Lib.hid (HP5.out.next hb6)
  obtain ⟨⟨x0, x1, x2, x3, x4⟩, _⟩ := HP6.out.fr.cells
  clear HW hb6 HP5
  obtain ⟨⟨r0, r1, r2, r3, r4⟩, g0', g1, g2, g3, g4⟩ := HP6.out.res.cells
  have HD := Lib.hid HP6.out.done
  have hlt := HP6.out.res.lt
  clear HP6
  go_wp2
  obtain ⟨⟨y0, y1, y2, y3, y4⟩, _⟩ := HD.out.1.cells
  unfold set5 at y0 y1 y2 y3 y4
  exact bodyPost_ret (v := .agg #[.int .i64 f.rows, .int .i64 f.cols, .slice (some ⟨g, 0, none⟩) N c, .int .i64 f.row, .int .i64 f.col]) (by simp [results, Tryd.results17, go_sem, y0, y1, y2, y3, y4]) rfl ⟨_, rfl, HD.out.2.1, HD.out.2.2⟩

set_option maxHeartbeats 4000000 in
theorem put_no3 (row col r : Int) (s : Sty) (w : World) (hf : OkF f m n) (hN : N = f.cells.length) (hcap : N ≤ cap) (hS : CelsW ok w (.slice (some ⟨g0, o0, none⟩) N cap) f.cells) (hL : LaidW w) (h0 : ofN r ≠ 0) (h1 : withinB f.rows f.cols row col = true) (h2 : col + (ofN r : Int) ≤ f.cols) (h3 : styB s = false) :
    Calls Tryd.prog 17 #[.agg #[.int .i64 f.rows, .int .i64 f.cols, .slice (some ⟨g0, o0, none⟩) N cap, .int .i64 f.row, .int .i64 f.col], .int .i64 row, .int .i64 col, .int .i32 r, .agg #[.int .i64 s.1, .bool s.2.1, .bool s.2.2.1, .bool s.2.2.2]] w fun e w' => ∃ v', e = .returned v' ∧ FrameW AnyB w' v' f ∧ Below w.heap.size w w' := by
  obtain ⟨HV, HC, HO, HW, HY⟩ := put_calls row col r s w hf hN hcap hS hL
  rw [h1] at HW
  rw [h3] at HY
  have hdl := ofN_le r
  obtain ⟨w1, w2', w3', w4'⟩ := (withinB_iff _ _ _ _).1 h1
  have hcl := hf.cols
  have hrl := hf.rows
  have hm2 := hf.hm
  have hn2 := hf.hn
  have k1 : f.cols ≤ 200 := by omega
  have k3 : (0 : Int) ≤ col := by omega
  have k4 : col < 200 := by omega
  obtain ⟨d, hd⟩ : ∃ d, ofN r = d := ⟨_, rfl⟩
  rw [hd] at HO h0 h2 hdl
  have b0 : ((d : Int) == 0) = false := by rw [beq_eq_false_iff_ne]; omega
  have k5 : (d : Int) ≤ 2 := by omega
  have k6 : (0 : Int) ≤ (d : Int) := by omega
  have HPO := Lib.hid (fun W2 W3 g c zs hc h2 h3 hg hb => put_own (w := w) (f := f) (s := s) (g0 := g0) (o0 := o0) (cap := cap) (zs := zs) (g := g) (c := c) (W2 := W2) (W3 := W3) hN hc h2 h3 hg hb)
  have H0 := Lib.hid (put0_is w f s (some ⟨g0, o0, none⟩) N cap).2.1
  have H0f := Lib.hid (put0_is w f s (some ⟨g0, o0, none⟩) N cap).2.2.1
  unfold put0 at HPO H0 H0f
  clear hS hL hN hcap hd hf h0 h1 h3 w1 w2' w3' w4' hcl hrl hm2 hn2 hdl
  go_enter Tryd.func17, Tryd.ntmps17
  go_wp2_with fail
  go_fit (HV.out _ H0.out)
  rintro e w2 ⟨rfl, hb2⟩
  obtain ⟨⟨x0, x1, x2, x3, x4⟩, _⟩ := (H0f.out.below hb2 H0f.out.lt).cells
  go_wp2_with fail
  go_fit (HC.out _ (H0.out.trans (hb2.mono H0.out.size)))
  rintro e w3 ⟨g, c, rfl, hc, ⟨zs, hg, hbk⟩, hb3⟩
  obtain ⟨P4, z2, f2, hlt⟩ := HPO.out w2 w3 g c zs hc hb2 hb3 hg hbk
  have HP4 := Lib.hid P4
  clear P4 HV HC HPO H0 H0f hb2 hb3 hbk x0 x1 x2 x3 x4
  go_wp2_with fail
  go_fit (HO.out _ HP4.out.below)
  rintro e w5 ⟨rfl, hb5⟩
  have HP5 := Lib.hid (HP4.out.next hb5)
  obtain ⟨⟨x0, x1, x2, x3, x4⟩, _⟩ := HP5.out.fr.cells
  clear HO hb5 z2 f2 hlt HP4
  go_wp2_with fail
  go_fit (HW.out g c _)
  rintro e w6 ⟨rfl, hb6⟩
  have HP6 := Lib.hid (HP5.out.next hb6)
  obtain ⟨⟨x0, x1, x2, x3, x4⟩, _⟩ := HP6.out.fr.cells
  clear HW hb6 HP5
  obtain ⟨t0, t1, t2, t3⟩ := HP6.out.styc
  go_wp2_with fail
  go_fit (HY.out _)
  rintro e w7 ⟨rfl, hb7⟩
  have HP7 := Lib.hid (HP6.out.next hb7)
  obtain ⟨⟨x0, x1, x2, x3, x4⟩, _⟩ := HP7.out.fr.cells
  clear HY hb7 HP6 t0 t1 t2 t3
  obtain ⟨⟨r0, r1, r2, r3, r4⟩, g0', g1, g2, g3, g4⟩ := HP7.out.res.cells
  have HD := Lib.hid HP7.out.done
  have hlt := HP7.out.res.lt
  clear HP7
  go_wp2
  obtain ⟨⟨y0, y1, y2, y3, y4⟩, _⟩ := HD.out.1.cells
  unfold set5 at y0 y1 y2 y3 y4
  exact bodyPost_ret (v := .agg #[.int .i64 f.rows, .int .i64 f.cols, .slice (some ⟨g, 0, none⟩) N c, .int .i64 f.row, .int .i64 f.col]) (by simp [results, Tryd.results17, go_sem, y0, y1, y2, y3, y4]) rfl ⟨_, rfl, HD.out.2.1, HD.out.2.2⟩
end
end Go.Proofs.YtdibpoecdjnpaaaDoor
