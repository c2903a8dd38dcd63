/-
  limnerref06.Put: what it returns, and lays in a block of its own: a frame that may be: nothing is put in.
-/
import Derived.Test.YtpkjaallhhjleaaGreatDoorBe26
namespace Go.Proofs.YtpkjaallhhjleaaGreatDoor
open Go.RowKit

section
variable {ok : Nat → Prop} {g0 o0 N cap : Nat} {f : Frm} {m n : Nat}

set_option maxRecDepth 100000 in
set_option maxHeartbeats 1000000 in
theorem rputR_no0 (row col r : Int) (s : Sty) (w : World) (hf : OkF f m n) (hN : N = f.cells.length) (hcap : N ≤ cap) (hS : CelsW ok w (.slice (some ⟨g0, o0, none⟩) N cap) f.cells) (h0 : ofN r = 0) :
    Calls Tryz.prog 68 #[.agg #[.int .i64 f.rows, .int .i64 f.cols, .slice (some ⟨g0, o0, none⟩) N cap, .int .i64 f.row, .int .i64 f.col], .int .i64 row, .int .i64 col, .int .i32 r, .agg #[.int .i64 s.1, .bool s.2.1, .bool s.2.2.1, .bool s.2.2.2]] w fun e w' => ∃ v', e = .returned v' ∧ OwnR w.heap.size w' v' f ∧ Below w.heap.size w w' := by
  obtain ⟨HV, HC, HO, HY⟩ := rput_calls r s w hf hN hcap hS
  obtain ⟨d, hd⟩ : ∃ d, ofN r = d := ⟨_, rfl⟩
  rw [hd] at HO h0
  have b0 : ((d : Int) == 0) = true := by rw [beq_iff_eq]; omega
  have HPO := Lib.hid (fun W2 W3 g c zs hc h2 h3 hg hb => rput_own (w := w) (f := f) (s := s) (g0 := g0) (o0 := o0) (cap := cap) (zs := zs) (g := g) (c := c) (W2 := W2) (W3 := W3) hN hc h2 h3 hg hb)
  have H0 := Lib.hid (put0_is w f s (some ⟨g0, o0, none⟩) N cap).2.1
  have H0f := Lib.hid (put0_is w f s (some ⟨g0, o0, none⟩) N cap).2.2.1
  unfold put0 at HPO H0 H0f
  clear hS hN hcap hd hf h0
  go_enter Tryz.func68, Tryz.ntmps68
  go_wp2_with fail
  go_fit (HV.out _ H0.out)
  rintro e w2 ⟨rfl, hb2⟩
  obtain ⟨⟨x0, x1, x2, x3, x4⟩, _⟩ := (H0f.out.below hb2 H0f.out.lt).cells
  go_wp2_with fail
  go_fit (HC.out _ (H0.out.trans (hb2.mono H0.out.size)))
  rintro e w3 ⟨g, c, rfl, hc, ⟨zs, hg, hbk⟩, hb3⟩
  obtain ⟨P4, z2⟩ := HPO.out w2 w3 g c zs hc hb2 hb3 hg hbk
  obtain ⟨⟨v0, v1, v2, v3, v4⟩, f0, f1, f2, f3, f4⟩ := z2.cells
  have hlt := z2.lt
  have HP4 := Lib.hid P4
  unfold set5 at HP4
  clear P4 z2 HV HC HPO H0 H0f hb2 hb3 hbk x0 x1 x2 x3 x4
  go_wp2_with fail
  go_fit (HO.out _)
  rintro e w5 ⟨rfl, hb5⟩
  have HP5 := Lib.hid (HP4.out.next hb5)
  obtain ⟨⟨x0, x1, x2, x3, x4⟩, _⟩ := HP5.out.fr.cells
  obtain ⟨t0, t1, t2, t3⟩ := HP5.out.styc
  clear HO hb5 v0 v1 v2 v3 v4 f0 f1 f2 f3 f4 hlt HP4
  clear HY t0 t1 t2 t3
  obtain ⟨⟨r0, r1, r2, r3, r4⟩, g0', g1, g2, g3, g4⟩ := HP5.out.res.cells
  have HD := Lib.hid HP5.out.doneR
  have hlt := HP5.out.res.lt
  clear HP5
  go_wp2
  obtain ⟨⟨y0, y1, y2, y3, y4⟩, _⟩ := HD.out.1.cells
  unfold set5 at y0 y1 y2 y3 y4
  exact bodyPost_ret (v := .agg #[.int .i64 f.rows, .int .i64 f.cols, .slice (some ⟨g, 0, none⟩) N c, .int .i64 f.row, .int .i64 f.col]) (by simp [results, Tryz.results68, go_sem, y0, y1, y2, y3, y4]) rfl ⟨_, rfl, HD.out.2.1, HD.out.2.2⟩

set_option maxRecDepth 100000 in
set_option maxHeartbeats 1000000 in
theorem rputR_no1 (row col r : Int) (s : Sty) (w : World) (hf : OkF f m n) (hN : N = f.cells.length) (hcap : N ≤ cap) (hS : CelsW ok w (.slice (some ⟨g0, o0, none⟩) N cap) f.cells) (h0 : ofN r ≠ 0) (h1 : styB s = false) :
    Calls Tryz.prog 68 #[.agg #[.int .i64 f.rows, .int .i64 f.cols, .slice (some ⟨g0, o0, none⟩) N cap, .int .i64 f.row, .int .i64 f.col], .int .i64 row, .int .i64 col, .int .i32 r, .agg #[.int .i64 s.1, .bool s.2.1, .bool s.2.2.1, .bool s.2.2.2]] w fun e w' => ∃ v', e = .returned v' ∧ OwnR w.heap.size w' v' f ∧ Below w.heap.size w w' := by
  obtain ⟨HV, HC, HO, HY⟩ := rput_calls r s w hf hN hcap hS
  rw [h1] at HY
  obtain ⟨d, hd⟩ : ∃ d, ofN r = d := ⟨_, rfl⟩
  rw [hd] at HO h0
  have b0 : ((d : Int) == 0) = false := by rw [beq_eq_false_iff_ne]; omega
  have HPO := Lib.hid (fun W2 W3 g c zs hc h2 h3 hg hb => rput_own (w := w) (f := f) (s := s) (g0 := g0) (o0 := o0) (cap := cap) (zs := zs) (g := g) (c := c) (W2 := W2) (W3 := W3) hN hc h2 h3 hg hb)
  have H0 := Lib.hid (put0_is w f s (some ⟨g0, o0, none⟩) N cap).2.1
  have H0f := Lib.hid (put0_is w f s (some ⟨g0, o0, none⟩) N cap).2.2.1
  unfold put0 at HPO H0 H0f
  clear hS hN hcap hd hf h0 h1
  go_enter Tryz.func68, Tryz.ntmps68
  go_wp2_with fail
  go_fit (HV.out _ H0.out)
  rintro e w2 ⟨rfl, hb2⟩
  obtain ⟨⟨x0, x1, x2, x3, x4⟩, _⟩ := (H0f.out.below hb2 H0f.out.lt).cells
  go_wp2_with fail
  go_fit (HC.out _ (H0.out.trans (hb2.mono H0.out.size)))
  rintro e w3 ⟨g, c, rfl, hc, ⟨zs, hg, hbk⟩, hb3⟩
  obtain ⟨P4, z2⟩ := HPO.out w2 w3 g c zs hc hb2 hb3 hg hbk
  obtain ⟨⟨v0, v1, v2, v3, v4⟩, f0, f1, f2, f3, f4⟩ := z2.cells
  have hlt := z2.lt
  have HP4 := Lib.hid P4
  unfold set5 at HP4
  clear P4 z2 HV HC HPO H0 H0f hb2 hb3 hbk x0 x1 x2 x3 x4
  go_wp2_with fail
  go_fit (HO.out _)
  rintro e w5 ⟨rfl, hb5⟩
  have HP5 := Lib.hid (HP4.out.next hb5)
  obtain ⟨⟨x0, x1, x2, x3, x4⟩, _⟩ := HP5.out.fr.cells
  obtain ⟨t0, t1, t2, t3⟩ := HP5.out.styc
  clear HO hb5 v0 v1 v2 v3 v4 f0 f1 f2 f3 f4 hlt HP4
  go_wp2_with fail
  go_fit (HY.out _)
  rintro e w7 ⟨rfl, hb7⟩
  have HP7 := Lib.hid (HP5.out.next hb7)
  obtain ⟨⟨x0, x1, x2, x3, x4⟩, _⟩ := HP7.out.fr.cells
  clear HY hb7 HP5 t0 t1 t2 t3
  obtain ⟨⟨r0, r1, r2, r3, r4⟩, g0', g1, g2, g3, g4⟩ := HP7.out.res.cells
  have HD := Lib.hid HP7.out.doneR
  have hlt := HP7.out.res.lt
  clear HP7
  go_wp2
  obtain ⟨⟨y0, y1, y2, y3, y4⟩, _⟩ := HD.out.1.cells
  unfold set5 at y0 y1 y2 y3 y4
  exact bodyPost_ret (v := .agg #[.int .i64 f.rows, .int .i64 f.cols, .slice (some ⟨g, 0, none⟩) N c, .int .i64 f.row, .int .i64 f.col]) (by simp [results, Tryz.results68, go_sem, y0, y1, y2, y3, y4]) rfl ⟨_, rfl, HD.out.2.1, HD.out.2.2⟩

set_option maxRecDepth 100000 in
set_option maxHeartbeats 1000000 in
theorem rputR_no2 (row col r : Int) (s : Sty) (w : World) (hf : OkF f m n) (hN : N = f.cells.length) (hcap : N ≤ cap) (hS : CelsW ok w (.slice (some ⟨g0, o0, none⟩) N cap) f.cells) (h0 : ofN r ≠ 0) (h1 : styB s = true) (h2 : row < 0 ∨ (0 ≤ row ∧ f.rows ≤ row) ∨ (0 ≤ row ∧ row < f.rows ∧ col < 0) ∨ (0 ≤ row ∧ row < f.rows ∧ 0 ≤ col ∧ f.cols ≤ col) ∨ (0 ≤ row ∧ row < f.rows ∧ 0 ≤ col ∧ col < f.cols ∧ f.cols < col + (ofN r : Int))) :
    Calls Tryz.prog 68 #[.agg #[.int .i64 f.rows, .int .i64 f.cols, .slice (some ⟨g0, o0, none⟩) N cap, .int .i64 f.row, .int .i64 f.col], .int .i64 row, .int .i64 col, .int .i32 r, .agg #[.int .i64 s.1, .bool s.2.1, .bool s.2.2.1, .bool s.2.2.2]] w fun e w' => ∃ v', e = .returned v' ∧ OwnR w.heap.size w' v' f ∧ Below w.heap.size w w' := by
  obtain ⟨HV, HC, HO, HY⟩ := rput_calls r s w hf hN hcap hS
  rw [h1] at HY
  have hdl := ofN_le r
  have hcl := hf.cols
  have hn2 := hf.hn
  obtain ⟨d, hd⟩ : ∃ d, ofN r = d := ⟨_, rfl⟩
  rw [hd] at HO h0 h2 hdl
  have b0 : ((d : Int) == 0) = false := by rw [beq_eq_false_iff_ne]; omega
  have k1 : f.cols ≤ 200 := by omega
  have k5 : (d : Int) ≤ 2 := by omega
  have k6 : (0 : Int) ≤ (d : Int) := by omega
  have HPO := Lib.hid (fun W2 W3 g c zs hc h2 h3 hg hb => rput_own (w := w) (f := f) (s := s) (g0 := g0) (o0 := o0) (cap := cap) (zs := zs) (g := g) (c := c) (W2 := W2) (W3 := W3) hN hc h2 h3 hg hb)
  have H0 := Lib.hid (put0_is w f s (some ⟨g0, o0, none⟩) N cap).2.1
  have H0f := Lib.hid (put0_is w f s (some ⟨g0, o0, none⟩) N cap).2.2.1
  unfold put0 at HPO H0 H0f
  clear hS hN hcap hd hf h0 h1 hdl hcl hn2
  rcases h2 with h2 | ⟨h2, h3⟩ | ⟨h2, h3, h4⟩ | ⟨h2, h3, h4, h5⟩ | ⟨h2, h3, h4, h5, h6⟩
  all_goals
    go_enter Tryz.func68, Tryz.ntmps68
    go_wp2_with fail
    go_fit (HV.out _ H0.out)
    rintro e w2 ⟨rfl, hb2⟩
    obtain ⟨⟨x0, x1, x2, x3, x4⟩, _⟩ := (H0f.out.below hb2 H0f.out.lt).cells
    go_wp2_with fail
    go_fit (HC.out _ (H0.out.trans (hb2.mono H0.out.size)))
    rintro e w3 ⟨g, c, rfl, hc, ⟨zs, hg, hbk⟩, hb3⟩
    obtain ⟨P4, z2⟩ := HPO.out w2 w3 g c zs hc hb2 hb3 hg hbk
    obtain ⟨⟨v0, v1, v2, v3, v4⟩, f0, f1, f2, f3, f4⟩ := z2.cells
    have hlt := z2.lt
    have HP4 := Lib.hid P4
    unfold set5 at HP4
    clear P4 z2 HV HC HPO H0 H0f hb2 hb3 hbk x0 x1 x2 x3 x4
    go_wp2_with fail
    go_fit (HO.out _)
    rintro e w5 ⟨rfl, hb5⟩
    have HP5 := Lib.hid (HP4.out.next hb5)
    obtain ⟨⟨x0, x1, x2, x3, x4⟩, _⟩ := HP5.out.fr.cells
    obtain ⟨t0, t1, t2, t3⟩ := HP5.out.styc
    clear HO hb5 v0 v1 v2 v3 v4 f0 f1 f2 f3 f4 hlt HP4
    go_wp2_with fail
    go_fit (HY.out _)
    rintro e w7 ⟨rfl, hb7⟩
    have HP7 := Lib.hid (HP5.out.next hb7)
    obtain ⟨⟨x0, x1, x2, x3, x4⟩, _⟩ := HP7.out.fr.cells
    clear HY hb7 HP5 t0 t1 t2 t3
    obtain ⟨⟨r0, r1, r2, r3, r4⟩, g0', g1, g2, g3, g4⟩ := HP7.out.res.cells
    have HD := Lib.hid HP7.out.doneR
    have hlt := HP7.out.res.lt
    clear HP7
    go_wp2
    obtain ⟨⟨y0, y1, y2, y3, y4⟩, _⟩ := HD.out.1.cells
    unfold set5 at y0 y1 y2 y3 y4
    exact bodyPost_ret (v := .agg #[.int .i64 f.rows, .int .i64 f.cols, .slice (some ⟨g, 0, none⟩) N c, .int .i64 f.row, .int .i64 f.col]) (by simp [results, Tryz.results68, go_sem, y0, y1, y2, y3, y4]) rfl ⟨_, rfl, HD.out.2.1, HD.out.2.2⟩
end
end Go.Proofs.YtpkjaallhhjleaaGreatDoor
