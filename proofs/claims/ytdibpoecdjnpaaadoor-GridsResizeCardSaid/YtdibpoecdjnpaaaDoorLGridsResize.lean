/-
  limnerlaw06.GridsResize: it returns true: for every input that a row tells.
-/
import Derived.Deep.Cut
import Derived.Test.YtdibpoecdjnpaaaDoorBa41
import Derived.Test.YtdibpoecdjnpaaaDoorBa42
import Derived.Test.YtdibpoecdjnpaaaDoorBa45
namespace Go.Proofs.YtdibpoecdjnpaaaDoor
open Go.RowKit

theorem resF_room (f : Frm) (a b : Int) : (resF f a b).cells.length ≤ 1000000 := by
  unfold resF
  cases hv : validB f && sizedB a b with
  | false => simp [zeroF]
  | true =>
    rw [if_pos rfl]
    show (resC f a.toNat b.toNat).length ≤ _
    rw [resC_len]
    obtain ⟨h1, h2, h3, h4⟩ := (sizedB_iff _ _).1 (Bool.and_eq_true _ _ ▸ hv).2
    exact Nat.le_trans (Nat.mul_le_mul (show a.toNat ≤ 100 by omega) (show b.toNat ≤ 200 by omega)) (by decide)

/-- Two frames in boxes of the law. -/
structure TwoF (w W : World) (f : Frm) (H1 H2 : Nat) (a1 a2 : Option Addr) (n1 n2 c1 c2 : Nat) : Prop where
  below : Below w.heap.size w W
  b1 : frB W H1 f.rows f.cols (.slice a1 n1 c1) f.row f.col
  b2 : frB W H2 f.rows f.cols (.slice a2 n2 c2) f.row f.col
  f1 : FrameW AnyB W (.agg #[.int .i64 f.rows, .int .i64 f.cols, .slice a1 n1 c1, .int .i64 f.row, .int .i64 f.col]) f
  f2 : FrameW AnyB W (.agg #[.int .i64 f.rows, .int .i64 f.cols, .slice a2 n2 c2, .int .i64 f.row, .int .i64 f.col]) f
theorem TwoF.next {w W W' : World} {f : Frm} {H1 H2 : Nat} {a1 a2 : Option Addr} {n1 n2 c1 c2 : Nat} (h : TwoF w W f H1 H2 a1 a2 n1 n2 c1 c2) (hb : Below W.heap.size W W') : TwoF w W' f H1 H2 a1 a2 n1 n2 c1 c2 :=
  ⟨h.below.trans (hb.mono h.below.size), h.b1.below hb h.b1.lt, h.b2.below hb h.b2.lt, h.f1.below hb, h.f2.below hb⟩

set_option maxRecDepth 100000 in
set_option maxHeartbeats 8000000 in
theorem resize_any {ao : Option Addr} {N cap : Nat} (p : Pnt) (rows cols : Int) (w : World) (hI : InkW w ao N cap p.ink) (hL : LaidW w) :
    Calls Tryd.prog 5 #[.agg #[.int .i64 p.rows, .int .i64 p.cols, .slice ao N cap, .int .i64 p.row, .int .i64 p.col], .int .i64 rows, .int .i64 cols] w fun e w' => e = .returned (.bool true) ∧ Below w.heap.size w w' := by
  have HS := Lib.hid (fun W (hW : Below w.heap.size w W) => lshown_any W (hL.below hW))
  have HG := Lib.hid (fun W => great_any (ao := ao) (n := N) (cap := cap) p.rows p.cols p.row p.col W)
  have b0 : Below w.heap.size w (w.alloc (.cells #[.int .i64 p.rows, .int .i64 p.cols, .slice ao N cap, .int .i64 p.row, .int .i64 p.col] 24)) := (Below.refl _ w).alloc (Nat.le_refl _) _
  have HB0 := Lib.hid b0
  have HP0 := Lib.hid (pnB.new w p (.slice ao N cap))
  by_cases hg : 60 < N
  · rw [decide_eq_true hg] at HG
    clear hI hL hg b0 HP0
    go_enter Tryd.func5, Tryd.ntmps5
    go_wp2_with fail
    go_fit (HG.out _)
    rintro e w2 ⟨rfl, hb2⟩
    have HB2 := Lib.hid (HB0.out.trans (hb2.mono HB0.out.size))
    clear hb2 HB0 HG
    go_wp2_with fail
    go_fit (HS.out _ HB2.out)
    rintro e w3 ⟨rfl, hb3⟩
    have HB3 := Lib.hid (HB2.out.trans (hb3.mono HB2.out.size))
    clear hb3 HB2 HS
    go_wp2
    go_ret
    exact ⟨rfl, HB3.out⟩
  · rw [decide_eq_false hg] at HG
    have HPt := Lib.hid (fun W (hW : Below w.heap.size w W) => paint_any p W (hI.below hW) (by omega))
    have hok := paint_ok p
    have h1 := dimR_in p.rows
    have h2 := dimC_in p.cols
    have hFr : (paintF p).rows = dimR p.rows := by rw [hok.rows]; omega
    have hFc : (paintF p).cols = dimC p.cols := by rw [hok.cols]; omega
    have hF0 : (paintF p).cells.length ≤ 1000000 := Nat.le_trans hok.room (by decide)
    obtain ⟨F, hF⟩ : ∃ F, paintF p = F := ⟨_, rfl⟩
    have HPt2 : Hid (∀ W, Below w.heap.size w W → Calls Tryd.prog 15 #[.agg #[.int .i64 p.rows, .int .i64 p.cols, .slice ao N cap, .int .i64 p.row, .int .i64 p.col]] W fun e w' => ∃ fo fn fc, e = .returned (.agg #[.int .i64 F.rows, .int .i64 F.cols, .slice fo fn fc, .int .i64 F.row, .int .i64 F.col]) ∧ FrameW AnyB w' (.agg #[.int .i64 F.rows, .int .i64 F.cols, .slice fo fn fc, .int .i64 F.row, .int .i64 F.col]) F ∧ Below W.heap.size W w') := fun W hW => by
      have := HPt.out W hW
      rw [hF] at this
      exact this
    rw [hF] at hok hFr hFc hF0
    have HCp := Lib.hid (fun fo fn fc W (h : FrameW AnyB W (.agg #[.int .i64 F.rows, .int .i64 F.cols, .slice fo fn fc, .int .i64 F.row, .int .i64 F.col]) F) => frame_out (copy_all W h hok))
    have HRg : Hid (∀ fo fn fc W m n, Below w.heap.size w W → FrameW AnyB W (.agg #[.int .i64 F.rows, .int .i64 F.cols, .slice fo fn fc, .int .i64 F.row, .int .i64 F.col]) F → ∀ R E, resF F m n = R → resE F m n = E → Calls Tryd.prog 24 #[.agg #[.int .i64 F.rows, .int .i64 F.cols, .slice fo fn fc, .int .i64 F.row, .int .i64 F.col], .int .i64 m, .int .i64 n] W fun e w' => ∃ ao n cap, e = .returned (.tuple #[.agg #[.int .i64 R.rows, .int .i64 R.cols, .slice ao n cap, .int .i64 R.row, .int .i64 R.col], .int .i64 E]) ∧ FrameW AnyB w' (.agg #[.int .i64 R.rows, .int .i64 R.cols, .slice ao n cap, .int .i64 R.row, .int .i64 R.col]) R ∧ Below W.heap.size W w') := fun fo fn fc W m n hW h R E hR hE => by
      have := frame_out2 (gres_any m n W h (hL.below hW))
      rw [hR, hE] at this
      exact this
    have HRr : Hid (∀ fo fn fc W m n, FrameW AnyB W (.agg #[.int .i64 F.rows, .int .i64 F.cols, .slice fo fn fc, .int .i64 F.row, .int .i64 F.col]) F → ∀ R E, resF F m n = R → resE F m n = E → Calls Tryd.prog 25 #[.agg #[.int .i64 F.rows, .int .i64 F.cols, .slice fo fn fc, .int .i64 F.row, .int .i64 F.col], .int .i64 m, .int .i64 n] W fun e w' => ∃ ao n cap, e = .returned (.tuple #[.agg #[.int .i64 R.rows, .int .i64 R.cols, .slice ao n cap, .int .i64 R.row, .int .i64 R.col], .int .i64 E]) ∧ FrameW AnyB w' (.agg #[.int .i64 R.rows, .int .i64 R.cols, .slice ao n cap, .int .i64 R.row, .int .i64 R.col]) R ∧ Below W.heap.size W w') := fun fo fn fc W m n h R E hR hE => by
      have := frame_out2 (rres_any m n W h)
      rw [hR, hE] at this
      exact this
    have HSm : Hid (∀ a b na nb ca cb W R, R.cells.length ≤ 1000000 → FrameW AnyB W (.agg #[.int .i64 R.rows, .int .i64 R.cols, .slice a na ca, .int .i64 R.row, .int .i64 R.col]) R → FrameW AnyB W (.agg #[.int .i64 R.rows, .int .i64 R.cols, .slice b nb cb, .int .i64 R.row, .int .i64 R.col]) R → Calls Tryd.prog 14 #[.agg #[.int .i64 R.rows, .int .i64 R.cols, .slice a na ca, .int .i64 R.row, .int .i64 R.col], .agg #[.int .i64 R.rows, .int .i64 R.cols, .slice b nb cb, .int .i64 R.row, .int .i64 R.col]] W fun e w' => e = .returned (.bool true) ∧ Below W.heap.size W w') := fun a b na nb ca cb W R hl h h' => by
      have := rsame_any W h h' hl
      rwa [sameB_self] at this
    have HF0 := Lib.hid hF0
    have HRm := Lib.hid (fun m n => resF_room F m n)
    have i1 : 2 ≤ F.rows := by omega
    have i2 : F.rows ≤ 10 := by omega
    have i3 : 8 ≤ F.cols := by omega
    have i4 : F.cols ≤ 20 := by omega
    clear hI hL hg b0 hok h1 h2 hFr hFc hF0 hF HPt
    go_enter Tryd.func5, Tryd.ntmps5
    go_wp2_with fail
    go_fit (HG.out _)
    rintro e w2 ⟨rfl, hb2⟩
    have HB2 := Lib.hid (HB0.out.trans (hb2.mono HB0.out.size))
    obtain ⟨x0, x1, x2, x3, x4⟩ := (HP0.out.below hb2 HP0.out.lt).cells
    clear hb2 HB0 HG HP0
    go_wp2_with fail
    go_fit (HPt2.out _ HB2.out)
    rintro e w3 ⟨fo, fn, fc, rfl, hF3, hb3⟩
    have HB3 := Lib.hid ((HB2.out.trans (hb3.mono HB2.out.size)).alloc (Nat.le_trans HB2.out.size hb3.size) (.cells #[.int .i64 F.rows, .int .i64 F.cols, .slice fo fn fc, .int .i64 F.row, .int .i64 F.col] 28))
    have HF3 := Lib.hid (hF3.below ((Below.refl _ w3).alloc (Nat.le_refl _) (.cells #[.int .i64 F.rows, .int .i64 F.cols, .slice fo fn fc, .int .i64 F.row, .int .i64 F.col] 28)))
    have Hb3 := Lib.hid (frB.new (r := F.rows) (c := F.cols) (v := .slice fo fn fc) (a := F.row) (b := F.col) w3)
    clear hb3 hF3 HB2 HPt2 x0 x1 x2 x3 x4
    go_wp2_with fail
    go_fit (HCp.out fo fn fc _ HF3.out)
    rintro e w4 ⟨go, gn, gc, rfl, hF4, hb4⟩
    have hT4 := hb4.alloc hb4.size (.cells #[.int .i64 F.rows, .int .i64 F.cols, .slice go gn gc, .int .i64 F.row, .int .i64 F.col] 28)
    have HI0 : Hid (TwoF w (w4.alloc (.cells #[.int .i64 F.rows, .int .i64 F.cols, .slice go gn gc, .int .i64 F.row, .int .i64 F.col] 28)) F w3.heap.size w4.heap.size fo go fn gn fc gc) :=
      ⟨HB3.out.trans (hT4.mono HB3.out.size), Hb3.out.below hT4 Hb3.out.lt, frB.new w4, HF3.out.below hT4, hF4.below ((Below.refl _ w4).alloc (Nat.le_refl _) _)⟩
    clear hT4 hb4 hF4 HB3 HF3 Hb3 HCp
    obtain ⟨H1, hH1⟩ : ∃ H1, w3.heap.size = H1 := ⟨_, rfl⟩
    rw [hH1] at HI0
    obtain ⟨H2, hH2⟩ : ∃ H2, w4.heap.size = H2 := ⟨_, rfl⟩
    rw [hH2] at HI0
    go_wp2
    go_loopw [9] (fun s9 wr => ∃ k : Int, s9 = .int .i64 k ∧ -1 ≤ k ∧ k ≤ 3 ∧ Hid (TwoF w wr F H1 H2 fo go fn gn fc gc)) (fun s9 _ => (3 - intOf s9).toNat)
    case atStart => exact ⟨-1, by simp, by omega, by omega, HI0⟩
    case round =>
      obtain ⟨k, rfl, hk1, hk2, HI⟩ := hrel
      clear HI0
      by_cases hlt : k ≤ 2
      · obtain ⟨y, hy⟩ : ∃ y, k + 1 = y := ⟨_, rfl⟩
        have hy1 : -1 ≤ y := by omega
        have hy2 : y ≤ 3 := by omega
        have HY := Lib.hid hy
        obtain ⟨⟨x0, x1, x2, x3, x4⟩, _⟩ := HI.out.b1.cells
        by_cases hk : k < 2
        · obtain ⟨m, hm⟩ : ∃ m, F.rows + k = m := ⟨_, rfl⟩
          obtain ⟨n, hn⟩ : ∃ n, F.cols - k = n := ⟨_, rfl⟩
          have hwm : IntKind.i64.wrap (F.rows + k) = m := by rw [IntWalk.i64_in _ (by omega)]; exact hm
          have hwn : IntKind.i64.wrap (F.cols - k) = n := by rw [IntWalk.i64_in _ (by omega)]; exact hn
          obtain ⟨R, hR⟩ : ∃ R, resF F m n = R := ⟨_, rfl⟩
          obtain ⟨E, hE⟩ : ∃ E, resE F m n = E := ⟨_, rfl⟩
          have bE : (E != E) = false := by simp
          have HRl : Hid (R.cells.length ≤ 1000000) := by rw [← hR]; exact HRm.out m n
          have HRE := Lib.hid (And.intro hR hE)
          clear hR hE
          go_wp2
          go_quiet (fail)
          obtain ⟨V, hV⟩ : ∃ V, wr.drewN nq = V := ⟨_, rfl⟩
          have HI2 : Hid (TwoF w V F H1 H2 fo go fn gn fc gc) := by rw [← hV]; exact HI.out.next ⟨rfl, rfl, rfl, Nat.le_refl _, fun _ _ => rfl⟩
          rw [hV]
          clear hV HI x0 x1 x2 x3 x4
          have HI := HI2
          clear HI2
          obtain ⟨⟨x0, x1, x2, x3, x4⟩, _⟩ := HI.out.b1.cells
          go_wp2_with fail
          go_fit (HRg.out fo fn fc _ m n HI.out.below HI.out.f1 R E HRE.out.1 HRE.out.2)
          rintro e w5 ⟨a5, n5, c5, rfl, hF5, hb5⟩
          have hT5 := hb5.alloc hb5.size (.cells #[.int .i64 R.rows, .int .i64 R.cols, .slice a5 n5 c5, .int .i64 R.row, .int .i64 R.col] 28)
          have HI5 := Lib.hid (HI.out.next hT5)
          have HF5 := Lib.hid (hF5.below ((Below.refl _ w5).alloc (Nat.le_refl _) (.cells #[.int .i64 R.rows, .int .i64 R.cols, .slice a5 n5 c5, .int .i64 R.row, .int .i64 R.col] 28)))
          have Hb5 := Lib.hid (frB.new (r := R.rows) (c := R.cols) (v := .slice a5 n5 c5) (a := R.row) (b := R.col) w5)
          clear HI hb5 hF5 hT5 x0 x1 x2 x3 x4
          obtain ⟨⟨x0, x1, x2, x3, x4⟩, _⟩ := HI5.out.b2.cells
          have hl5 := HI5.out.b2.lt
          rw [World.size_alloc] at hl5
          go_wp2_with fail
          go_fit (HRr.out go gn gc _ m n HI5.out.f2 R E HRE.out.1 HRE.out.2)
          rintro e w6 ⟨a6, n6, c6, rfl, hF6, hb6⟩
          have hT6 := hb6.alloc hb6.size (.cells #[.int .i64 R.rows, .int .i64 R.cols, .slice a6 n6 c6, .int .i64 R.row, .int .i64 R.col] 28)
          have HI6 := Lib.hid (HI5.out.next hT6)
          have HF6 := Lib.hid (hF6.below ((Below.refl _ w6).alloc (Nat.le_refl _) (.cells #[.int .i64 R.rows, .int .i64 R.cols, .slice a6 n6 c6, .int .i64 R.row, .int .i64 R.col] 28)))
          have HF56 := Lib.hid (HF5.out.below hT6)
          have hb56 := Hb5.out.below hb6 Hb5.out.lt
          clear x0 x1 x2 x3 x4
          obtain ⟨⟨x0, x1, x2, x3, x4⟩, _⟩ := hb56.cells
          have hl6 := hb56.lt
          clear HI5 HF5 hb6 hF6 hT6 hb56 hl5 HRr HRg
          go_wp2_with fail
          go_fit (HSm.out a5 a6 n5 n6 c5 c6 _ R HRl.out HF56.out HF6.out)
          rintro e w7 ⟨rfl, hb7⟩
          have HI7 := Lib.hid (HI6.out.next hb7)
          clear HF56 HF6 hb7 HI6 x0 x1 x2 x3 x4 hl6 Hb5
          obtain ⟨⟨x0, x1, x2, x3, x4⟩, _⟩ := HI7.out.b1.cells
          obtain ⟨⟨y0, y1, y2, y3, y4⟩, _⟩ := HI7.out.b2.cells
          go_wp2_with fail
          go_fit (HSm.out fo go fn gn fc gc _ F HF0.out HI7.out.f1 HI7.out.f2)
          rintro e w8 ⟨rfl, hb8⟩
          have HI8 := Lib.hid (HI7.out.next hb8)
          clear HI7 hb8 HSm x0 x1 x2 x3 x4 y0 y1 y2 y3 y4
          go_wp2
          go_roundw
          case rel => exact ⟨y, rfl, hy1, hy2, HI8⟩
          case measure => simp [intOf]; have := HY.out; omega
        · have hk3 : ¬ k < 2 := hk
          obtain ⟨m, hm⟩ : ∃ m, rows = m := ⟨_, rfl⟩
          obtain ⟨n, hn⟩ : ∃ n, cols = n := ⟨_, rfl⟩
          subst hm hn
          obtain ⟨R, hR⟩ : ∃ R, resF F rows cols = R := ⟨_, rfl⟩
          obtain ⟨E, hE⟩ : ∃ E, resE F rows cols = E := ⟨_, rfl⟩
          have bE : (E != E) = false := by simp
          have HRl : Hid (R.cells.length ≤ 1000000) := by rw [← hR]; exact HRm.out rows cols
          have HRE := Lib.hid (And.intro hR hE)
          clear hR hE
          go_wp2_with fail
          go_fit (HRg.out fo fn fc _ rows cols HI.out.below HI.out.f1 R E HRE.out.1 HRE.out.2)
          rintro e w5 ⟨a5, n5, c5, rfl, hF5, hb5⟩
          have hT5 := hb5.alloc hb5.size (.cells #[.int .i64 R.rows, .int .i64 R.cols, .slice a5 n5 c5, .int .i64 R.row, .int .i64 R.col] 28)
          have HI5 := Lib.hid (HI.out.next hT5)
          have HF5 := Lib.hid (hF5.below ((Below.refl _ w5).alloc (Nat.le_refl _) (.cells #[.int .i64 R.rows, .int .i64 R.cols, .slice a5 n5 c5, .int .i64 R.row, .int .i64 R.col] 28)))
          have Hb5 := Lib.hid (frB.new (r := R.rows) (c := R.cols) (v := .slice a5 n5 c5) (a := R.row) (b := R.col) w5)
          clear HI hb5 hF5 hT5 x0 x1 x2 x3 x4
          obtain ⟨⟨x0, x1, x2, x3, x4⟩, _⟩ := HI5.out.b2.cells
          have hl5 := HI5.out.b2.lt
          rw [World.size_alloc] at hl5
          go_wp2_with fail
          go_fit (HRr.out go gn gc _ rows cols HI5.out.f2 R E HRE.out.1 HRE.out.2)
          rintro e w6 ⟨a6, n6, c6, rfl, hF6, hb6⟩
          have hT6 := hb6.alloc hb6.size (.cells #[.int .i64 R.rows, .int .i64 R.cols, .slice a6 n6 c6, .int .i64 R.row, .int .i64 R.col] 28)
          have HI6 := Lib.hid (HI5.out.next hT6)
          have HF6 := Lib.hid (hF6.below ((Below.refl _ w6).alloc (Nat.le_refl _) (.cells #[.int .i64 R.rows, .int .i64 R.cols, .slice a6 n6 c6, .int .i64 R.row, .int .i64 R.col] 28)))
          have HF56 := Lib.hid (HF5.out.below hT6)
          have hb56 := Hb5.out.below hb6 Hb5.out.lt
          clear x0 x1 x2 x3 x4
          obtain ⟨⟨x0, x1, x2, x3, x4⟩, _⟩ := hb56.cells
          have hl6 := hb56.lt
          clear HI5 HF5 hb6 hF6 hT6 hb56 hl5 HRr HRg
          go_wp2_with fail
          go_fit (HSm.out a5 a6 n5 n6 c5 c6 _ R HRl.out HF56.out HF6.out)
          rintro e w7 ⟨rfl, hb7⟩
          have HI7 := Lib.hid (HI6.out.next hb7)
          clear HF56 HF6 hb7 HI6 x0 x1 x2 x3 x4 hl6 Hb5
          obtain ⟨⟨x0, x1, x2, x3, x4⟩, _⟩ := HI7.out.b1.cells
          obtain ⟨⟨y0, y1, y2, y3, y4⟩, _⟩ := HI7.out.b2.cells
          go_wp2_with fail
          go_fit (HSm.out fo go fn gn fc gc _ F HF0.out HI7.out.f1 HI7.out.f2)
          rintro e w8 ⟨rfl, hb8⟩
          have HI8 := Lib.hid (HI7.out.next hb8)
          clear HI7 hb8 HSm x0 x1 x2 x3 x4 y0 y1 y2 y3 y4
          go_wp2
          go_roundw
          case rel => exact ⟨y, rfl, hy1, hy2, HI8⟩
          case measure => simp [intOf]; have := HY.out; omega
      · have HB9 := Lib.hid HI.out.below
        clear HRg HRr HSm HI HRm HF0
        go_wp2_with fail
        go_fit (HS.out _ HB9.out)
        rintro e w9 ⟨rfl, hb9⟩
        have HB10 := Lib.hid (HB9.out.trans (hb9.mono HB9.out.size))
        clear hb9 HS HB9
        go_wp2
        go_ret
        exact ⟨rfl, HB10.out⟩
end Go.Proofs.YtdibpoecdjnpaaaDoor
