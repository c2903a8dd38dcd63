/-
  Texts of this proof, one behind the other; each begins with its own remark.
-/
import Derived.Test.YtdibpoecdjnpaaaDoorBa18
import Derived.Test.YtdibpoecdjnpaaaDoorBa23
/-
  limnerref06.Put: what it returns, and lays: a frame that may not be; what the calls on the way give.
-/
namespace Go.Proofs.YtdibpoecdjnpaaaDoor
open Go.RowKit

section
variable {ok : Nat → Prop} {g0 o0 N cap : Nat} {f : Frm} {m n : Nat}

theorem rput_bad {ao : Option Addr} (row col r : Int) (s : Sty) (w : World) (hS : CelsW ok w (.slice ao N cap) f.cells) (hn : N = f.cells.length) (hcap : N ≤ cap) (hv : validB f = false) :
    Calls Tryd.prog 18 #[.agg #[.int .i64 f.rows, .int .i64 f.cols, .slice ao N cap, .int .i64 f.row, .int .i64 f.col], .int .i64 row, .int .i64 col, .int .i32 r, .agg #[.int .i64 s.1, .bool s.2.1, .bool s.2.2.1, .bool s.2.2.2]] w fun e w' => e = .returned (.agg #[.int .i64 0, .int .i64 0, .slice none 0 0, .int .i64 0, .int .i64 0]) ∧ Below w.heap.size w w' := by
  have HV : Hid (∀ W, Below w.heap.size w W → Calls Tryd.prog 27 #[.agg #[.int .i64 f.rows, .int .i64 f.cols, .slice ao N cap, .int .i64 f.row, .int .i64 f.col]] W fun e w' => e = .returned (.bool false) ∧ Below W.heap.size W w') := fun W hW => by
    have := rvalid_any W (FrameW.below ⟨ao, N, cap, rfl, hn, hcap, hS⟩ hW)
    rwa [hv] at this
  have H0 := put0_is w f s ao N cap
  obtain ⟨hz, hb, _, _, hres⟩ := H0
  have HZ := Lib.hid hz
  have HR := Lib.hid hres
  have HB := Lib.hid hb
  unfold put0 at HZ HR HB
  clear hS hn hcap hv hz hb hres
  go_enter Tryd.func18, Tryd.ntmps18
  go_wp2_with fail
  go_fit (HV.out _ HB.out)
  rintro e w2 ⟨rfl, hb2⟩
  have hr := HR.out.below hb2 HR.out.lt
  have HE : Hid (frB (set5 w2 (w.heap.size + 1 + 1) 0 0 (.slice none 0 0) 0 0) (w.heap.size + 1 + 1) 0 0 (.slice none 0 0) 0 0 ∧ Below w.heap.size w (set5 w2 (w.heap.size + 1 + 1) 0 0 (.slice none 0 0) 0 0)) := by
    have b := HB.out.trans (hb2.mono HB.out.size)
    have hk := set5_keep (ok := fun k => k ≠ w.heap.size + 1 + 1) w2 (w.heap.size + 1 + 1) 0 0 (.slice none 0 0) 0 0 (fun k => k rfl)
    exact ⟨hr.all, KeepW.below b hk b.size (fun k hk => by show _ ≠ _; omega)⟩
  obtain ⟨⟨d0, d1, d2, d3, d4⟩, f0, f1, f2, f3, f4⟩ := hr.cells
  have hlt := hr.lt
  clear hr hb2 HR HB HV HZ
  go_wp2
  obtain ⟨⟨y0, y1, y2, y3, y4⟩, _⟩ := HE.out.1.cells
  unfold set5 at y0 y1 y2 y3 y4
  exact bodyPost_ret (v := .agg #[.int .i64 0, .int .i64 0, .slice none 0 0, .int .i64 0, .int .i64 0]) (by simp [results, Tryd.results18, go_sem, y0, y1, y2, y3, y4]) rfl ⟨rfl, HE.out.2⟩

theorem rput_calls (r : Int) (s : Sty) (w : World) (hf : OkF f m n) (hN : N = f.cells.length) (hcap : N ≤ cap) (hS : CelsW ok w (.slice (some ⟨g0, o0, none⟩) N cap) f.cells) :
    Hid (∀ W, Below w.heap.size w W → Calls Tryd.prog 27 #[.agg #[.int .i64 f.rows, .int .i64 f.cols, .slice (some ⟨g0, o0, none⟩) N cap, .int .i64 f.row, .int .i64 f.col]] W fun e w' => e = .returned (.bool true) ∧ Below W.heap.size W w') ∧
    Hid (∀ W, Below w.heap.size w W → Calls Tryd.prog 16 #[.agg #[.int .i64 f.rows, .int .i64 f.cols, .slice (some ⟨g0, o0, none⟩) N cap, .int .i64 f.row, .int .i64 f.col]] W fun e w' => ∃ g' c', e = .returned (.agg #[.int .i64 f.rows, .int .i64 f.cols, .slice (some ⟨g', 0, none⟩) N c', .int .i64 f.row, .int .i64 f.col]) ∧ N ≤ c' ∧ NewL W w' g' f.cells ∧ Below W.heap.size W w') ∧
    Hid (∀ W, Calls Tryd.prog 40 #[.int .i32 r] W fun e w' => e = .returned (.int .i64 (ofN r : Int)) ∧ Below W.heap.size W w') ∧
    Hid (∀ W, Calls Tryd.prog 41 #[.agg #[.int .i64 s.1, .bool s.2.1, .bool s.2.2.1, .bool s.2.2.2]] W fun e w' => e = .returned (.bool (styB s)) ∧ Below W.heap.size W w') := by
  have hroom := hf.room
  have hpos : 0 < N := by
    have h1 := hf.len; have h2 := hf.hm; have h3 := hf.hn
    rw [hN, h1]; exact Nat.mul_pos (by omega) (by omega)
  refine ⟨fun W hW => ?_, fun W hW => ?_, fun W => ?_, fun W => ?_⟩
  · have := rvalid_any W (FrameW.below ⟨_, N, cap, rfl, hN, hcap, hS⟩ hW)
    rwa [hf.valid] at this
  · exact copy_any g0 o0 cap N f.rows f.cols f.row f.col W (hS.below hW) hN.symm hpos (by omega)
  · exact refOf_any r W
  · exact style_any s W
/-- The frame's cells are of its own now. -/
theorem rput_own {w W3 : World} {s : Sty} {g c : Nat} {zs : List Value} {W2 : World} (hN : N = f.cells.length) (hc : N ≤ c) (h2 : Below (put0 w f s (some ⟨g0, o0, none⟩) N cap).heap.size (put0 w f s (some ⟨g0, o0, none⟩) N cap) W2) (h3 : Below W2.heap.size W2 W3) (hg : W2.heap.size ≤ g) (hb : blkL W3 g f.cells zs) :
    PutS w (set5 W3 w.heap.size f.rows f.cols (.slice (some ⟨g, 0, none⟩) N c) f.row f.col) f s N g c f.cells zs ∧ frB W3 w.heap.size f.rows f.cols (.slice (some ⟨g0, o0, none⟩) N cap) f.row f.col := by
  obtain ⟨hz, q0, q1, q2, q3⟩ := put0_is w f s (some ⟨g0, o0, none⟩) N cap
  have h := h2.trans (h3.mono h2.size)
  rw [hz] at h h2
  have hsz := h2.size
  have r1 := q1.below h (by omega)
  have r2 := (h.block (w.heap.size + 1) (by omega)).trans q2
  have r3 := q3.below h (by omega)
  have hk := set5_keep (ok := fun k => k ≠ w.heap.size) W3 w.heap.size f.rows f.cols (.slice (some ⟨g, 0, none⟩) N c) f.row f.col (fun k => k rfl)
  have hb1 : Below w.heap.size w W3 := q0.trans (h.mono (by omega))
  exact ⟨⟨KeepW.below hb1 hk hb1.size (fun k hk => by show _ ≠ _; omega), r1.all, (hk.same _ (Array.getElem?_eq_some_iff.1 r2).1 (by show _ ≠ _; omega)).trans r2, r3.keep hk (by show _ ≠ _; omega), by omega, hb.keep hk (by show _ ≠ _; omega), hN.symm, hc⟩, r1⟩
end
end Go.Proofs.YtdibpoecdjnpaaaDoor

/-
  limnerref06.Put: what it returns, and lays: a frame that may be: nothing is put in.
-/
namespace Go.Proofs.YtdibpoecdjnpaaaDoor
open Go.RowKit

section
variable {ok : Nat → Prop} {g0 o0 N cap : Nat} {f : Frm} {m n : Nat}

set_option maxRecDepth 100000 in
set_option maxHeartbeats 1000000 in
theorem rput_no0 (row col r : Int) (s : Sty) (w : World) (hf : OkF f m n) (hN : N = f.cells.length) (hcap : N ≤ cap) (hS : CelsW ok w (.slice (some ⟨g0, o0, none⟩) N cap) f.cells) (h0 : ofN r = 0) :
    Calls Tryd.prog 18 #[.agg #[.int .i64 f.rows, .int .i64 f.cols, .slice (some ⟨g0, o0, none⟩) N cap, .int .i64 f.row, .int .i64 f.col], .int .i64 row, .int .i64 col, .int .i32 r, .agg #[.int .i64 s.1, .bool s.2.1, .bool s.2.2.1, .bool s.2.2.2]] w fun e w' => ∃ v', e = .returned v' ∧ FrameW AnyB w' v' f ∧ Below w.heap.size w w' := by
  obtain ⟨HV, HC, HO, HY⟩ := rput_calls r s w hf hN hcap hS
  obtain ⟨d, hd⟩ : ∃ d, ofN r = d := ⟨_, rfl⟩
  rw [hd] at HO h0
  have b0 : ((d : Int) == 0) = true := by rw [beq_iff_eq]; omega
  have HPO := Lib.hid (fun W2 W3 g c zs hc h2 h3 hg hb => rput_own (w := w) (f := f) (s := s) (g0 := g0) (o0 := o0) (cap := cap) (zs := zs) (g := g) (c := c) (W2 := W2) (W3 := W3) hN hc h2 h3 hg hb)
  have H0 := Lib.hid (put0_is w f s (some ⟨g0, o0, none⟩) N cap).2.1
  have H0f := Lib.hid (put0_is w f s (some ⟨g0, o0, none⟩) N cap).2.2.1
  unfold put0 at HPO H0 H0f
  clear hS hN hcap hd hf h0
  go_enter Tryd.func18, Tryd.ntmps18
  go_wp2_with fail
  go_fit (HV.out _ H0.out)
  rintro e w2 ⟨rfl, hb2⟩
  obtain ⟨⟨x0, x1, x2, x3, x4⟩, _⟩ := (H0f.out.below hb2 H0f.out.lt).cells
  go_wp2_with fail
  go_fit (HC.out _ (H0.out.trans (hb2.mono H0.out.size)))
  rintro e w3 ⟨g, c, rfl, hc, ⟨zs, hg, hbk⟩, hb3⟩
  obtain ⟨P4, z2⟩ := HPO.out w2 w3 g c zs hc hb2 hb3 hg hbk
  obtain ⟨⟨v0, v1, v2, v3, v4⟩, f0, f1, f2, f3, f4⟩ := z2.cells
  have hlt := z2.lt
  have HP4 := Lib.hid P4
  unfold set5 at HP4
  clear P4 z2 HV HC HPO H0 H0f hb2 hb3 hbk x0 x1 x2 x3 x4
  go_wp2_with fail
  go_fit (HO.out _)
  rintro e w5 ⟨rfl, hb5⟩
  have HP5 := Lib.hid (HP4.out.next hb5)
  obtain ⟨⟨x0, x1, x2, x3, x4⟩, _⟩ := HP5.out.fr.cells
  obtain ⟨t0, t1, t2, t3⟩ := HP5.out.styc
  clear HO hb5 v0 v1 v2 v3 v4 f0 f1 f2 f3 f4 hlt HP4
  clear HY t0 t1 t2 t3
  obtain ⟨⟨r0, r1, r2, r3, r4⟩, g0', g1, g2, g3, g4⟩ := HP5.out.res.cells
  have HD := Lib.hid HP5.out.done
  have hlt := HP5.out.res.lt
  clear HP5
  go_wp2
  obtain ⟨⟨y0, y1, y2, y3, y4⟩, _⟩ := HD.out.1.cells
  unfold set5 at y0 y1 y2 y3 y4
  exact bodyPost_ret (v := .agg #[.int .i64 f.rows, .int .i64 f.cols, .slice (some ⟨g, 0, none⟩) N c, .int .i64 f.row, .int .i64 f.col]) (by simp [results, Tryd.results18, go_sem, y0, y1, y2, y3, y4]) rfl ⟨_, rfl, HD.out.2.1, HD.out.2.2⟩

set_option maxRecDepth 100000 in
set_option maxHeartbeats 1000000 in
theorem rput_no1 (row col r : Int) (s : Sty) (w : World) (hf : OkF f m n) (hN : N = f.cells.length) (hcap : N ≤ cap) (hS : CelsW ok w (.slice (some ⟨g0, o0, none⟩) N cap) f.cells) (h0 : ofN r ≠ 0) (h1 : styB s = false) :
    Calls Tryd.prog 18 #[.agg #[.int .i64 f.rows, .int .i64 f.cols, .slice (some ⟨g0, o0, none⟩) N cap, .int .i64 f.row, .int .i64 f.col], .int .i64 row, .int .i64 col, .int .i32 r, .agg #[.int .i64 s.1, .bool s.2.1, .bool s.2.2.1, .bool s.2.2.2]] w fun e w' => ∃ v', e = .returned v' ∧ FrameW AnyB w' v' f ∧ Below w.heap.size w w' := by
  obtain ⟨HV, HC, HO, HY⟩ := rput_calls r s w hf hN hcap hS
  rw [h1] at HY
  obtain ⟨d, hd⟩ : ∃ d, ofN r = d := ⟨_, rfl⟩
  rw [hd] at HO h0
  have b0 : ((d : Int) == 0) = false := by rw [beq_eq_false_iff_ne]; omega
  have HPO := Lib.hid (fun W2 W3 g c zs hc h2 h3 hg hb => rput_own (w := w) (f := f) (s := s) (g0 := g0) (o0 := o0) (cap := cap) (zs := zs) (g := g) (c := c) (W2 := W2) (W3 := W3) hN hc h2 h3 hg hb)
  have H0 := Lib.hid (put0_is w f s (some ⟨g0, o0, none⟩) N cap).2.1
  have H0f := Lib.hid (put0_is w f s (some ⟨g0, o0, none⟩) N cap).2.2.1
  unfold put0 at HPO H0 H0f
  clear hS hN hcap hd hf h0 h1
  go_enter Tryd.func18, Tryd.ntmps18
  go_wp2_with fail
  go_fit (HV.out _ H0.out)
  rintro e w2 ⟨rfl, hb2⟩
  obtain ⟨⟨x0, x1, x2, x3, x4⟩, _⟩ := (H0f.out.below hb2 H0f.out.lt).cells
  go_wp2_with fail
  go_fit (HC.out _ (H0.out.trans (hb2.mono H0.out.size)))
  rintro e w3 ⟨g, c, rfl, hc, ⟨zs, hg, hbk⟩, hb3⟩
  obtain ⟨P4, z2⟩ := HPO.out w2 w3 g c zs hc hb2 hb3 hg hbk
  obtain ⟨⟨v0, v1, v2, v3, v4⟩, f0, f1, f2, f3, f4⟩ := z2.cells
  have hlt := z2.lt
  have HP4 := Lib.hid P4
  unfold set5 at HP4
  clear P4 z2 HV HC HPO H0 H0f hb2 hb3 hbk x0 x1 x2 x3 x4
  go_wp2_with fail
  go_fit (HO.out _)
  rintro e w5 ⟨rfl, hb5⟩
  have HP5 := Lib.hid (HP4.out.next hb5)
  obtain ⟨⟨x0, x1, x2, x3, x4⟩, _⟩ := HP5.out.fr.cells
  obtain ⟨t0, t1, t2, t3⟩ := HP5.out.styc
  clear HO hb5 v0 v1 v2 v3 v4 f0 f1 f2 f3 f4 hlt HP4
  go_wp2_with fail
  go_fit (HY.out _)
  rintro e w7 ⟨rfl, hb7⟩
  have HP7 := Lib.hid (HP5.out.next hb7)
  obtain ⟨⟨x0, x1, x2, x3, x4⟩, _⟩ := HP7.out.fr.cells
  clear HY hb7 HP5 t0 t1 t2 t3
  obtain ⟨⟨r0, r1, r2, r3, r4⟩, g0', g1, g2, g3, g4⟩ := HP7.out.res.cells
  have HD := Lib.hid HP7.out.done
  have hlt := HP7.out.res.lt
  clear HP7
  go_wp2
  obtain ⟨⟨y0, y1, y2, y3, y4⟩, _⟩ := HD.out.1.cells
  unfold set5 at y0 y1 y2 y3 y4
  exact bodyPost_ret (v := .agg #[.int .i64 f.rows, .int .i64 f.cols, .slice (some ⟨g, 0, none⟩) N c, .int .i64 f.row, .int .i64 f.col]) (by simp [results, Tryd.results18, go_sem, y0, y1, y2, y3, y4]) rfl ⟨_, rfl, HD.out.2.1, HD.out.2.2⟩

set_option maxRecDepth 100000 in
set_option maxHeartbeats 1000000 in
theorem rput_no2 (row col r : Int) (s : Sty) (w : World) (hf : OkF f m n) (hN : N = f.cells.length) (hcap : N ≤ cap) (hS : CelsW ok w (.slice (some ⟨g0, o0, none⟩) N cap) f.cells) (h0 : ofN r ≠ 0) (h1 : styB s = true) (h2 : row < 0 ∨ (0 ≤ row ∧ f.rows ≤ row) ∨ (0 ≤ row ∧ row < f.rows ∧ col < 0) ∨ (0 ≤ row ∧ row < f.rows ∧ 0 ≤ col ∧ f.cols ≤ col) ∨ (0 ≤ row ∧ row < f.rows ∧ 0 ≤ col ∧ col < f.cols ∧ f.cols < col + (ofN r : Int))) :
    Calls Tryd.prog 18 #[.agg #[.int .i64 f.rows, .int .i64 f.cols, .slice (some ⟨g0, o0, none⟩) N cap, .int .i64 f.row, .int .i64 f.col], .int .i64 row, .int .i64 col, .int .i32 r, .agg #[.int .i64 s.1, .bool s.2.1, .bool s.2.2.1, .bool s.2.2.2]] w fun e w' => ∃ v', e = .returned v' ∧ FrameW AnyB w' v' f ∧ Below w.heap.size w w' := by
  obtain ⟨HV, HC, HO, HY⟩ := rput_calls r s w hf hN hcap hS
  rw [h1] at HY
  have hdl := ofN_le r
  have hcl := hf.cols
  have hn2 := hf.hn
  obtain ⟨d, hd⟩ : ∃ d, ofN r = d := ⟨_, rfl⟩
  rw [hd] at HO h0 h2 hdl
  have b0 : ((d : Int) == 0) = false := by rw [beq_eq_false_iff_ne]; omega
  have k1 : f.cols ≤ 200 := by omega
  have k5 : (d : Int) ≤ 2 := by omega
  have k6 : (0 : Int) ≤ (d : Int) := by omega
  have HPO := Lib.hid (fun W2 W3 g c zs hc h2 h3 hg hb => rput_own (w := w) (f := f) (s := s) (g0 := g0) (o0 := o0) (cap := cap) (zs := zs) (g := g) (c := c) (W2 := W2) (W3 := W3) hN hc h2 h3 hg hb)
  have H0 := Lib.hid (put0_is w f s (some ⟨g0, o0, none⟩) N cap).2.1
  have H0f := Lib.hid (put0_is w f s (some ⟨g0, o0, none⟩) N cap).2.2.1
  unfold put0 at HPO H0 H0f
  clear hS hN hcap hd hf h0 h1 hdl hcl hn2
  rcases h2 with h2 | ⟨h2, h3⟩ | ⟨h2, h3, h4⟩ | ⟨h2, h3, h4, h5⟩ | ⟨h2, h3, h4, h5, h6⟩
  all_goals
    go_enter Tryd.func18, Tryd.ntmps18
    go_wp2_with fail
    go_fit (HV.out _ H0.out)
    rintro e w2 ⟨rfl, hb2⟩
    obtain ⟨⟨x0, x1, x2, x3, x4⟩, _⟩ := (H0f.out.below hb2 H0f.out.lt).cells
    go_wp2_with fail
    go_fit (HC.out _ (H0.out.trans (hb2.mono H0.out.size)))
    rintro e w3 ⟨g, c, rfl, hc, ⟨zs, hg, hbk⟩, hb3⟩
    obtain ⟨P4, z2⟩ := HPO.out w2 w3 g c zs hc hb2 hb3 hg hbk
    obtain ⟨⟨v0, v1, v2, v3, v4⟩, f0, f1, f2, f3, f4⟩ := z2.cells
    have hlt := z2.lt
    have HP4 := Lib.hid P4
    unfold set5 at HP4
    clear P4 z2 HV HC HPO H0 H0f hb2 hb3 hbk x0 x1 x2 x3 x4
    go_wp2_with fail
    go_fit (HO.out _)
    rintro e w5 ⟨rfl, hb5⟩
    have HP5 := Lib.hid (HP4.out.next hb5)
    obtain ⟨⟨x0, x1, x2, x3, x4⟩, _⟩ := HP5.out.fr.cells
    obtain ⟨t0, t1, t2, t3⟩ := HP5.out.styc
    clear HO hb5 v0 v1 v2 v3 v4 f0 f1 f2 f3 f4 hlt HP4
    go_wp2_with fail
    go_fit (HY.out _)
    rintro e w7 ⟨rfl, hb7⟩
    have HP7 := Lib.hid (HP5.out.next hb7)
    obtain ⟨⟨x0, x1, x2, x3, x4⟩, _⟩ := HP7.out.fr.cells
    clear HY hb7 HP5 t0 t1 t2 t3
    obtain ⟨⟨r0, r1, r2, r3, r4⟩, g0', g1, g2, g3, g4⟩ := HP7.out.res.cells
    have HD := Lib.hid HP7.out.done
    have hlt := HP7.out.res.lt
    clear HP7
    go_wp2
    obtain ⟨⟨y0, y1, y2, y3, y4⟩, _⟩ := HD.out.1.cells
    unfold set5 at y0 y1 y2 y3 y4
    exact bodyPost_ret (v := .agg #[.int .i64 f.rows, .int .i64 f.cols, .slice (some ⟨g, 0, none⟩) N c, .int .i64 f.row, .int .i64 f.col]) (by simp [results, Tryd.results18, go_sem, y0, y1, y2, y3, y4]) rfl ⟨_, rfl, HD.out.2.1, HD.out.2.2⟩
end
end Go.Proofs.YtdibpoecdjnpaaaDoor
