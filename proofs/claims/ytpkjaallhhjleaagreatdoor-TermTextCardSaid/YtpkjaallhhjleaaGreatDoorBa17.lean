/-
  term: show: what it leaves.
-/
import Derived.IntWalk
import Derived.Test.YtpkjaallhhjleaaGreatDoorBa16
namespace Go.Proofs.YtpkjaallhhjleaaGreatDoor
open Go.RowKit

section
variable {w0 : World} {B G N cap : Nat} {t : Tm}

set_option maxRecDepth 20000 in
set_option maxHeartbeats 8000000 in
theorem tshow_W {m n : Nat} (r : Int) (w : World) (h : TmS w0 w B G N cap t) (hok : OkF t.f m n) (hL : LaidW w0) (hT : TBlankW w0) (hw : t.waits = true) :
    Calls Tryz.prog 57 #[.pointer (some ⟨B, 0, none⟩), .int .i32 r] w (TmD w0 w B G N cap (showT t r)) := by
  have hm := hok.hm
  have hn := hok.hn
  have hcol := hok.col
  have hcols := hok.cols
  have hle := ofN_le r
  obtain ⟨x0, hx0⟩ : ∃ x, x = t := ⟨_, rfl⟩
  obtain ⟨t2, ht2⟩ : ∃ t2 : Tm, t2 = { t with f := feedF { t.f with col := 0 } } := ⟨_, rfl⟩
  have hok2 : OkF t2.f m n := by rw [ht2]; exact feed_ok' (hok.curs hok.row (by omega))
  obtain ⟨t3, ht3⟩ : ∃ t3 : Tm, t3 = { t2 with f := putF t2.f t2.f.row t2.f.col r t2.sty } := ⟨_, rfl⟩
  have hok3 : OkF t3.f m n := by rw [ht3]; exact put_okF hok2 _ _ _ _
  obtain ⟨t4, ht4⟩ : ∃ t4 : Tm, t4 = { t3 with waits := decide (t3.f.col + (ofN r : Int) = t3.f.cols) } := ⟨_, rfl⟩
  have hok4 : OkF t4.f m n := by rw [ht4]; exact hok3
  have hEnd : showT t r = { t4 with f := goF t4.f t4.f.row (t4.f.col + (ofN r : Int)) } := by
    unfold showT
    dsimp only
    rw [if_pos (Or.inl hw)]
    rw [ht4, ht3, ht2]
  rw [hEnd]
  have HO : Hid (∀ W, Below w.heap.size w W → Calls Tryz.prog 22 #[.int .i32 r] W fun e w' => e = .returned (.int .i64 (ofN r : Int)) ∧ Below w.heap.size w w') := fun W hW => (of_any r W ((hL.below (h.next hW).below).1)).mono fun e w' ⟨k1, k2⟩ => ⟨k1, hW.trans (k2.mono hW.size)⟩
  have HF : Hid (∀ W, TmS w0 W B G N cap { t with f := { t.f with col := 0 } } → Calls Tryz.prog 91 #[.pointer (some ⟨B, 0, none⟩)] W (TmD w0 W B G N cap t2)) := fun W hW => by
    have := tfeed_any W hW (hok.curs hok.row (by omega)) hT
    rwa [ht2]
  have HP : Hid (∀ W, TmS w0 W B G N cap t2 → Calls Tryz.prog 92 #[.pointer (some ⟨B, 0, none⟩), .int .i32 r] W (TmD w0 W B G N cap t3)) := fun W hW => by
    have := tput_any r W hW hok2 hL
    rwa [ht3]
  have HG : Hid (∀ W, TmS w0 W B G N cap t4 → Calls Tryz.prog 93 #[.pointer (some ⟨B, 0, none⟩), .int .i64 t3.f.row, .int .i64 (t3.f.col + (ofN r : Int))] W (TmD w0 W B G N cap { t4 with f := goF t4.f t4.f.row (t4.f.col + (ofN r : Int)) })) := fun W hW => by
    have e1 : t3.f = t4.f := by rw [ht4]
    rw [e1]
    exact goto_any _ _ W hW (by rw [hok4.rows]; omega) (by rw [hok4.cols]; omega)
  have HWt : Hid (∀ W, TmS w0 W B G N cap t3 → TmS w0 (W.drew.setCell ⟨B, 10, none⟩ (.bool (decide (t3.f.col + (ofN r : Int) = t3.f.cols)))) B G N cap t4 ∧ KeepW (NotBG B G) W (W.drew.setCell ⟨B, 10, none⟩ (.bool (decide (t3.f.col + (ofN r : Int) = t3.f.cols)))) ∧ B < W.drew.heap.size ∧ W.drew.cell? ⟨B, 10, none⟩ = some (.bool t3.waits) ∧ W.drew.frozen? ⟨B, 10, none⟩ = false) := fun W hW => by
    have hb : Below W.heap.size W W.drew := (Below.refl _ _).drew
    have h1 := hW.next hb
    obtain ⟨a1, a2⟩ := h1.waits_ (decide (t3.f.col + (ofN r : Int) = t3.f.cols))
    rw [← ht4] at a1
    exact ⟨a1, (keep_below _ hb).trans a2, h1.box.lt, h1.box.cells.2.2.1.2.1, h1.box.cells.2.2.2 10⟩
  have e43 : t4.f = t3.f := by rw [ht4]
  have hc3 := hok3.col
  have hk3 := hok3.cols
  obtain ⟨d, hd⟩ : ∃ d : Int, (ofN r : Int) = d := ⟨_, rfl⟩
  rw [hd] at HO HG HWt ⊢
  have hd0 : 0 ≤ d := by omega
  have hd2 : d ≤ 2 := by omega
  obtain ⟨R, hR⟩ : ∃ R : Tm, { t4 with f := goF t4.f t4.f.row (t4.f.col + d) } = R := ⟨_, rfl⟩
  rw [hR] at HG ⊢
  have HS := Lib.hid h
  have H34 := Lib.hid e43
  obtain ⟨⟨_, x1, _, _, x4⟩, _, ⟨_, x10, _⟩, hf⟩ := h.box.cells
  have hlt := h.box.lt
  have hf4 := hf 4
  rw [hw] at x10
  rw [hcols] at x1
  clear hR hEnd hok hok2 hok3 hok4 ht2 ht3 ht4 hx0 e43 hf hm hle hd
  obtain ⟨hn1, hn2⟩ := hn
  obtain ⟨hc1, hc2⟩ := hcol
  obtain ⟨hp1, hp2⟩ := hc3
  go_enter Tryz.func57, Tryz.ntmps57
  go_wp2_with fail
  go_fit (HO.out _ (Below.refl _ _))
  rintro e w1 ⟨rfl, hb1⟩
  have HS1 := Lib.hid (HS.out.next hb1)
  have HK1 : Hid (KeepW (NotBG B G) w w1) := keep_below _ hb1
  obtain ⟨⟨_, y1, _, _, y4⟩, _, ⟨_, y10, _⟩, hf⟩ := HS1.out.box.cells
  rw [hw] at y10
  rw [hcols] at y1
  clear HS HO x1 x4 x10 hf4 hlt hb1
  go_wp2_with fail
  go_quiet (fail)
  obtain ⟨W2, hW2⟩ : ∃ W2, w1.drewN nq = W2 := ⟨_, rfl⟩
  have hb2 : Below w1.heap.size w1 W2 := by rw [← hW2]; exact below_drewN (Below.refl _ _) nq
  try rw [hW2]
  have HS2 := Lib.hid (HS1.out.next hb2)
  have HK2 : Hid (KeepW (NotBG B G) w W2) := HK1.out.trans (keep_below _ hb2)
  clear HS1 HK1 hb2 hW2 y1 y4 y10 hf
  obtain ⟨⟨_, _, _, _, y4⟩, _, _, hf⟩ := HS2.out.box.cells
  have hlt := HS2.out.box.lt
  have hf4 := hf 4
  have HC0 := Lib.hid (HS2.out.col_ 0)
  clear hf
  go_wp2_with fail
  go_fit (HF.out _ HC0.out.1)
  rintro e w3 ⟨rfl, hS3, hK3⟩
  have HS3 := Lib.hid hS3
  have HK3 : Hid (KeepW (NotBG B G) w w3) := (HK2.out.trans HC0.out.2).trans hK3
  clear hS3 hK3 HC0 HF HK2 HS2 y4 hlt hf4
  go_wp2_with fail
  go_fit (HP.out _ HS3.out)
  rintro e w4 ⟨rfl, hS4, hK4⟩
  have HS4 := Lib.hid hS4
  have HK4 : Hid (KeepW (NotBG B G) w w4) := HK3.out.trans hK4
  clear hS4 hK4 HS3 HK3
  obtain ⟨⟨_, z1, _, _, z4⟩, _, _, _⟩ := HS4.out.box.cells
  rw [hk3] at z1
  obtain ⟨hS5, hK5, hlt5, c10, f10⟩ := HWt.out w4 HS4.out
  rw [hk3] at hS5 hK5
  obtain ⟨a3, ha3⟩ : ∃ a, t3.f.row = a := ⟨_, rfl⟩
  obtain ⟨a4, ha4⟩ : ∃ a, t3.f.col = a := ⟨_, rfl⟩
  rw [ha3] at HG
  rw [ha4] at z4 hS5 hK5 HG hp1 hp2
  obtain ⟨W5, hW5⟩ : ∃ W5, w4.drew.setCell ⟨B, 10, none⟩ (.bool (a4 + d == (n : Int))) = W5 := ⟨_, rfl⟩
  have hS5 : TmS w0 (w4.drew.setCell ⟨B, 10, none⟩ (.bool (a4 + d == (n : Int)))) B G N cap t4 := hS5
  have hK5 : KeepW (NotBG B G) w4 (w4.drew.setCell ⟨B, 10, none⟩ (.bool (a4 + d == (n : Int)))) := hK5
  rw [hW5] at hS5 hK5
  have HS5 := Lib.hid hS5
  have HK5 : Hid (KeepW (NotBG B G) w W5) := HK4.out.trans hK5
  obtain ⟨⟨_, _, _, u3, u4⟩, _, _, _⟩ := HS5.out.box.cells
  rw [H34.out] at u3 u4
  rw [ha3] at u3
  rw [ha4] at u4
  have wd : IntKind.i64.wrap (a4 + d) = a4 + d := by rw [IntWalk.i64_in _ (by omega)]
  clear hS5 hK5 HWt ha3 ha4 HS4 HK4
  go_wp2_with fail
  go_still_tail 16, (by kernel_rfl)
  change wpList _ _ _ _ _ w4.drew
  go_wp2_with fail
  try rw [hW5]
  clear hW5 c10 f10 z1 z4
  go_still_tail 13, (by kernel_rfl)
  have HG2 : Hid (∀ e w', TmD w0 W5.drew B G N cap R e w' → TmD w0 w B G N cap R e w') := fun e w' ⟨k1, k2, k3⟩ => ⟨k1, k2, (HK5.out.trans (keep_drew _ _)).trans k3⟩
  have HS6 : Hid (TmS w0 W5.drew B G N cap t4) := HS5.out.next (Below.refl _ _).drew
  change wpList _ _ _ _ _ W5.drew
  go_wp2_with fail
  go_fit (HG.out _ HS6.out)
  rintro e w7 h7
  obtain ⟨rfl, h8⟩ := HG2.out _ _ h7
  go_wp2_with fail
  go_end0
  exact ⟨rfl, h8⟩

set_option maxRecDepth 20000 in
set_option maxHeartbeats 8000000 in
theorem tshow_G {m n : Nat} (r : Int) (w : World) (h : TmS w0 w B G N cap t) (hok : OkF t.f m n) (hL : LaidW w0) (hT : TBlankW w0) (hw : t.waits = false) (hc : t.f.cols < t.f.col + (ofN r : Int)) :
    Calls Tryz.prog 57 #[.pointer (some ⟨B, 0, none⟩), .int .i32 r] w (TmD w0 w B G N cap (showT t r)) := by
  have hm := hok.hm
  have hn := hok.hn
  have hcol := hok.col
  have hcols := hok.cols
  have hle := ofN_le r
  obtain ⟨x0, hx0⟩ : ∃ x, x = t := ⟨_, rfl⟩
  obtain ⟨t2, ht2⟩ : ∃ t2 : Tm, t2 = { t with f := feedF { t.f with col := 0 } } := ⟨_, rfl⟩
  have hok2 : OkF t2.f m n := by rw [ht2]; exact feed_ok' (hok.curs hok.row (by omega))
  obtain ⟨t3, ht3⟩ : ∃ t3 : Tm, t3 = { t2 with f := putF t2.f t2.f.row t2.f.col r t2.sty } := ⟨_, rfl⟩
  have hok3 : OkF t3.f m n := by rw [ht3]; exact put_okF hok2 _ _ _ _
  obtain ⟨t4, ht4⟩ : ∃ t4 : Tm, t4 = { t3 with waits := decide (t3.f.col + (ofN r : Int) = t3.f.cols) } := ⟨_, rfl⟩
  have hok4 : OkF t4.f m n := by rw [ht4]; exact hok3
  have hEnd : showT t r = { t4 with f := goF t4.f t4.f.row (t4.f.col + (ofN r : Int)) } := by
    unfold showT
    dsimp only
    rw [if_pos (Or.inr hc)]
    rw [ht4, ht3, ht2]
  rw [hEnd]
  have HO : Hid (∀ W, Below w.heap.size w W → Calls Tryz.prog 22 #[.int .i32 r] W fun e w' => e = .returned (.int .i64 (ofN r : Int)) ∧ Below w.heap.size w w') := fun W hW => (of_any r W ((hL.below (h.next hW).below).1)).mono fun e w' ⟨k1, k2⟩ => ⟨k1, hW.trans (k2.mono hW.size)⟩
  have HF : Hid (∀ W, TmS w0 W B G N cap { t with f := { t.f with col := 0 } } → Calls Tryz.prog 91 #[.pointer (some ⟨B, 0, none⟩)] W (TmD w0 W B G N cap t2)) := fun W hW => by
    have := tfeed_any W hW (hok.curs hok.row (by omega)) hT
    rwa [ht2]
  have HP : Hid (∀ W, TmS w0 W B G N cap t2 → Calls Tryz.prog 92 #[.pointer (some ⟨B, 0, none⟩), .int .i32 r] W (TmD w0 W B G N cap t3)) := fun W hW => by
    have := tput_any r W hW hok2 hL
    rwa [ht3]
  have HG : Hid (∀ W, TmS w0 W B G N cap t4 → Calls Tryz.prog 93 #[.pointer (some ⟨B, 0, none⟩), .int .i64 t3.f.row, .int .i64 (t3.f.col + (ofN r : Int))] W (TmD w0 W B G N cap { t4 with f := goF t4.f t4.f.row (t4.f.col + (ofN r : Int)) })) := fun W hW => by
    have e1 : t3.f = t4.f := by rw [ht4]
    rw [e1]
    exact goto_any _ _ W hW (by rw [hok4.rows]; omega) (by rw [hok4.cols]; omega)
  have HWt : Hid (∀ W, TmS w0 W B G N cap t3 → TmS w0 (W.drew.setCell ⟨B, 10, none⟩ (.bool (decide (t3.f.col + (ofN r : Int) = t3.f.cols)))) B G N cap t4 ∧ KeepW (NotBG B G) W (W.drew.setCell ⟨B, 10, none⟩ (.bool (decide (t3.f.col + (ofN r : Int) = t3.f.cols)))) ∧ B < W.drew.heap.size ∧ W.drew.cell? ⟨B, 10, none⟩ = some (.bool t3.waits) ∧ W.drew.frozen? ⟨B, 10, none⟩ = false) := fun W hW => by
    have hb : Below W.heap.size W W.drew := (Below.refl _ _).drew
    have h1 := hW.next hb
    obtain ⟨a1, a2⟩ := h1.waits_ (decide (t3.f.col + (ofN r : Int) = t3.f.cols))
    rw [← ht4] at a1
    exact ⟨a1, (keep_below _ hb).trans a2, h1.box.lt, h1.box.cells.2.2.1.2.1, h1.box.cells.2.2.2 10⟩
  have e43 : t4.f = t3.f := by rw [ht4]
  have hc3 := hok3.col
  have hk3 := hok3.cols
  obtain ⟨d, hd⟩ : ∃ d : Int, (ofN r : Int) = d := ⟨_, rfl⟩
  rw [hd] at HO HG HWt hc ⊢
  have hd0 : 0 ≤ d := by omega
  have hd2 : d ≤ 2 := by omega
  obtain ⟨R, hR⟩ : ∃ R : Tm, { t4 with f := goF t4.f t4.f.row (t4.f.col + d) } = R := ⟨_, rfl⟩
  rw [hR] at HG ⊢
  have HS := Lib.hid h
  have H34 := Lib.hid e43
  obtain ⟨⟨_, x1, _, _, x4⟩, _, ⟨_, x10, _⟩, hf⟩ := h.box.cells
  have hlt := h.box.lt
  have hf4 := hf 4
  rw [hw] at x10
  rw [hcols] at x1 hc
  clear hR hEnd hok hok2 hok3 hok4 ht2 ht3 ht4 hx0 e43 hf hm hle hd
  obtain ⟨hn1, hn2⟩ := hn
  obtain ⟨hc1, hc2⟩ := hcol
  obtain ⟨hp1, hp2⟩ := hc3
  go_enter Tryz.func57, Tryz.ntmps57
  go_wp2_with fail
  go_fit (HO.out _ (Below.refl _ _))
  rintro e w1 ⟨rfl, hb1⟩
  have HS1 := Lib.hid (HS.out.next hb1)
  have HK1 : Hid (KeepW (NotBG B G) w w1) := keep_below _ hb1
  obtain ⟨⟨_, y1, _, _, y4⟩, _, ⟨_, y10, _⟩, hf⟩ := HS1.out.box.cells
  rw [hw] at y10
  rw [hcols] at y1
  clear HS HO x1 x4 x10 hf4 hlt hb1
  have hdc : decide (t.f.col + d > (n : Int)) = true := decide_eq_true hc
  go_wp2_with fail
  go_quiet (fail)
  obtain ⟨W2, hW2⟩ : ∃ W2, w1.drewN nq = W2 := ⟨_, rfl⟩
  have hb2 : Below w1.heap.size w1 W2 := by rw [← hW2]; exact below_drewN (Below.refl _ _) nq
  try rw [hW2]
  have HS2 := Lib.hid (HS1.out.next hb2)
  have HK2 : Hid (KeepW (NotBG B G) w W2) := HK1.out.trans (keep_below _ hb2)
  clear HS1 HK1 hb2 hW2 y1 y4 y10 hf
  obtain ⟨⟨_, _, _, _, y4⟩, _, _, hf⟩ := HS2.out.box.cells
  have hlt := HS2.out.box.lt
  have hf4 := hf 4
  have HC0 := Lib.hid (HS2.out.col_ 0)
  clear hf
  go_wp2_with fail
  go_fit (HF.out _ HC0.out.1)
  rintro e w3 ⟨rfl, hS3, hK3⟩
  have HS3 := Lib.hid hS3
  have HK3 : Hid (KeepW (NotBG B G) w w3) := (HK2.out.trans HC0.out.2).trans hK3
  clear hS3 hK3 HC0 HF HK2 HS2 y4 hlt hf4
  go_wp2_with fail
  go_fit (HP.out _ HS3.out)
  rintro e w4 ⟨rfl, hS4, hK4⟩
  have HS4 := Lib.hid hS4
  have HK4 : Hid (KeepW (NotBG B G) w w4) := HK3.out.trans hK4
  clear hS4 hK4 HS3 HK3
  obtain ⟨⟨_, z1, _, _, z4⟩, _, _, _⟩ := HS4.out.box.cells
  rw [hk3] at z1
  obtain ⟨hS5, hK5, hlt5, c10, f10⟩ := HWt.out w4 HS4.out
  rw [hk3] at hS5 hK5
  obtain ⟨a3, ha3⟩ : ∃ a, t3.f.row = a := ⟨_, rfl⟩
  obtain ⟨a4, ha4⟩ : ∃ a, t3.f.col = a := ⟨_, rfl⟩
  rw [ha3] at HG
  rw [ha4] at z4 hS5 hK5 HG hp1 hp2
  obtain ⟨W5, hW5⟩ : ∃ W5, w4.drew.setCell ⟨B, 10, none⟩ (.bool (a4 + d == (n : Int))) = W5 := ⟨_, rfl⟩
  have hS5 : TmS w0 (w4.drew.setCell ⟨B, 10, none⟩ (.bool (a4 + d == (n : Int)))) B G N cap t4 := hS5
  have hK5 : KeepW (NotBG B G) w4 (w4.drew.setCell ⟨B, 10, none⟩ (.bool (a4 + d == (n : Int)))) := hK5
  rw [hW5] at hS5 hK5
  have HS5 := Lib.hid hS5
  have HK5 : Hid (KeepW (NotBG B G) w W5) := HK4.out.trans hK5
  obtain ⟨⟨_, _, _, u3, u4⟩, _, _, _⟩ := HS5.out.box.cells
  rw [H34.out] at u3 u4
  rw [ha3] at u3
  rw [ha4] at u4
  have wd : IntKind.i64.wrap (a4 + d) = a4 + d := by rw [IntWalk.i64_in _ (by omega)]
  clear hS5 hK5 HWt ha3 ha4 HS4 HK4
  go_wp2_with fail
  go_still_tail 16, (by kernel_rfl)
  change wpList _ _ _ _ _ w4.drew
  go_wp2_with fail
  try rw [hW5]
  clear hW5 c10 f10 z1 z4
  go_still_tail 13, (by kernel_rfl)
  have HG2 : Hid (∀ e w', TmD w0 W5.drew B G N cap R e w' → TmD w0 w B G N cap R e w') := fun e w' ⟨k1, k2, k3⟩ => ⟨k1, k2, (HK5.out.trans (keep_drew _ _)).trans k3⟩
  have HS6 : Hid (TmS w0 W5.drew B G N cap t4) := HS5.out.next (Below.refl _ _).drew
  change wpList _ _ _ _ _ W5.drew
  go_wp2_with fail
  go_fit (HG.out _ HS6.out)
  rintro e w7 h7
  obtain ⟨rfl, h8⟩ := HG2.out _ _ h7
  go_wp2_with fail
  go_end0
  exact ⟨rfl, h8⟩

set_option maxRecDepth 20000 in
set_option maxHeartbeats 8000000 in
theorem tshow_N {m n : Nat} (r : Int) (w : World) (h : TmS w0 w B G N cap t) (hok : OkF t.f m n) (hL : LaidW w0) (_hT : TBlankW w0) (hw : t.waits = false) (hc : ¬ t.f.cols < t.f.col + (ofN r : Int)) :
    Calls Tryz.prog 57 #[.pointer (some ⟨B, 0, none⟩), .int .i32 r] w (TmD w0 w B G N cap (showT t r)) := by
  have hm := hok.hm
  have hn := hok.hn
  have hcol := hok.col
  have hcols := hok.cols
  have hle := ofN_le r
  obtain ⟨x0, hx0⟩ : ∃ x, x = t := ⟨_, rfl⟩
  obtain ⟨t2, ht2⟩ : ∃ t2 : Tm, t2 = t := ⟨_, rfl⟩
  have hok2 : OkF t2.f m n := by rw [ht2]; exact hok
  obtain ⟨t3, ht3⟩ : ∃ t3 : Tm, t3 = { t2 with f := putF t2.f t2.f.row t2.f.col r t2.sty } := ⟨_, rfl⟩
  have hok3 : OkF t3.f m n := by rw [ht3]; exact put_okF hok2 _ _ _ _
  obtain ⟨t4, ht4⟩ : ∃ t4 : Tm, t4 = { t3 with waits := decide (t3.f.col + (ofN r : Int) = t3.f.cols) } := ⟨_, rfl⟩
  have hok4 : OkF t4.f m n := by rw [ht4]; exact hok3
  have hEnd : showT t r = { t4 with f := goF t4.f t4.f.row (t4.f.col + (ofN r : Int)) } := by
    unfold showT
    dsimp only
    rw [if_neg (by rw [hw]; simp only [Bool.false_eq_true, false_or]; exact hc)]
    rw [ht4, ht3, ht2]
  rw [hEnd]
  have HO : Hid (∀ W, Below w.heap.size w W → Calls Tryz.prog 22 #[.int .i32 r] W fun e w' => e = .returned (.int .i64 (ofN r : Int)) ∧ Below w.heap.size w w') := fun W hW => (of_any r W ((hL.below (h.next hW).below).1)).mono fun e w' ⟨k1, k2⟩ => ⟨k1, hW.trans (k2.mono hW.size)⟩
  have HP : Hid (∀ W, TmS w0 W B G N cap t2 → Calls Tryz.prog 92 #[.pointer (some ⟨B, 0, none⟩), .int .i32 r] W (TmD w0 W B G N cap t3)) := fun W hW => by
    have := tput_any r W hW hok2 hL
    rwa [ht3]
  have HG : Hid (∀ W, TmS w0 W B G N cap t4 → Calls Tryz.prog 93 #[.pointer (some ⟨B, 0, none⟩), .int .i64 t3.f.row, .int .i64 (t3.f.col + (ofN r : Int))] W (TmD w0 W B G N cap { t4 with f := goF t4.f t4.f.row (t4.f.col + (ofN r : Int)) })) := fun W hW => by
    have e1 : t3.f = t4.f := by rw [ht4]
    rw [e1]
    exact goto_any _ _ W hW (by rw [hok4.rows]; omega) (by rw [hok4.cols]; omega)
  have HWt : Hid (∀ W, TmS w0 W B G N cap t3 → TmS w0 (W.drew.setCell ⟨B, 10, none⟩ (.bool (decide (t3.f.col + (ofN r : Int) = t3.f.cols)))) B G N cap t4 ∧ KeepW (NotBG B G) W (W.drew.setCell ⟨B, 10, none⟩ (.bool (decide (t3.f.col + (ofN r : Int) = t3.f.cols)))) ∧ B < W.drew.heap.size ∧ W.drew.cell? ⟨B, 10, none⟩ = some (.bool t3.waits) ∧ W.drew.frozen? ⟨B, 10, none⟩ = false) := fun W hW => by
    have hb : Below W.heap.size W W.drew := (Below.refl _ _).drew
    have h1 := hW.next hb
    obtain ⟨a1, a2⟩ := h1.waits_ (decide (t3.f.col + (ofN r : Int) = t3.f.cols))
    rw [← ht4] at a1
    exact ⟨a1, (keep_below _ hb).trans a2, h1.box.lt, h1.box.cells.2.2.1.2.1, h1.box.cells.2.2.2 10⟩
  have e43 : t4.f = t3.f := by rw [ht4]
  have hc3 := hok3.col
  have hk3 := hok3.cols
  obtain ⟨d, hd⟩ : ∃ d : Int, (ofN r : Int) = d := ⟨_, rfl⟩
  rw [hd] at HO HG HWt hc ⊢
  have hd0 : 0 ≤ d := by omega
  have hd2 : d ≤ 2 := by omega
  obtain ⟨R, hR⟩ : ∃ R : Tm, { t4 with f := goF t4.f t4.f.row (t4.f.col + d) } = R := ⟨_, rfl⟩
  rw [hR] at HG ⊢
  have HS := Lib.hid h
  have H34 := Lib.hid e43
  obtain ⟨⟨_, x1, _, _, x4⟩, _, ⟨_, x10, _⟩, hf⟩ := h.box.cells
  have hlt := h.box.lt
  have hf4 := hf 4
  rw [hw] at x10
  rw [hcols] at x1 hc
  have HT2 := Lib.hid ht2
  clear hR hEnd hok hok2 hok3 hok4 ht2 ht3 ht4 hx0 e43 hf hm hle hd
  obtain ⟨hn1, hn2⟩ := hn
  obtain ⟨hc1, hc2⟩ := hcol
  obtain ⟨hp1, hp2⟩ := hc3
  go_enter Tryz.func57, Tryz.ntmps57
  go_wp2_with fail
  go_fit (HO.out _ (Below.refl _ _))
  rintro e w1 ⟨rfl, hb1⟩
  have HS1 := Lib.hid (HS.out.next hb1)
  have HK1 : Hid (KeepW (NotBG B G) w w1) := keep_below _ hb1
  obtain ⟨⟨_, y1, _, _, y4⟩, _, ⟨_, y10, _⟩, hf⟩ := HS1.out.box.cells
  rw [hw] at y10
  rw [hcols] at y1
  clear HS HO x1 x4 x10 hf4 hlt hb1
  have hdc : decide (t.f.col + d > (n : Int)) = false := decide_eq_false (by omega)
  go_wp2_with fail
  go_quiet (fail)
  obtain ⟨W2, hW2⟩ : ∃ W2, w1.drewN nq = W2 := ⟨_, rfl⟩
  have hb2 : Below w1.heap.size w1 W2 := by rw [← hW2]; exact below_drewN (Below.refl _ _) nq
  try rw [hW2]
  have HS2 := Lib.hid (HS1.out.next hb2)
  have HK2 : Hid (KeepW (NotBG B G) w W2) := HK1.out.trans (keep_below _ hb2)
  clear HS1 HK1 hb2 hW2 y1 y4 y10 hf
  obtain ⟨⟨_, _, _, _, y4⟩, _, _, hf⟩ := HS2.out.box.cells
  have hlt := HS2.out.box.lt
  have hf4 := hf 4
  have HS3 : Hid (TmS w0 W2 B G N cap t2) := by rw [HT2.out]; exact HS2.out
  have HK3 := HK2
  clear HS2 HK2 hf
  go_wp2_with fail
  go_fit (HP.out _ HS3.out)
  rintro e w4 ⟨rfl, hS4, hK4⟩
  have HS4 := Lib.hid hS4
  have HK4 : Hid (KeepW (NotBG B G) w w4) := HK3.out.trans hK4
  clear hS4 hK4 HS3 HK3
  obtain ⟨⟨_, z1, _, _, z4⟩, _, _, _⟩ := HS4.out.box.cells
  rw [hk3] at z1
  obtain ⟨hS5, hK5, hlt5, c10, f10⟩ := HWt.out w4 HS4.out
  rw [hk3] at hS5 hK5
  obtain ⟨a3, ha3⟩ : ∃ a, t3.f.row = a := ⟨_, rfl⟩
  obtain ⟨a4, ha4⟩ : ∃ a, t3.f.col = a := ⟨_, rfl⟩
  rw [ha3] at HG
  rw [ha4] at z4 hS5 hK5 HG hp1 hp2
  obtain ⟨W5, hW5⟩ : ∃ W5, w4.drew.setCell ⟨B, 10, none⟩ (.bool (a4 + d == (n : Int))) = W5 := ⟨_, rfl⟩
  have hS5 : TmS w0 (w4.drew.setCell ⟨B, 10, none⟩ (.bool (a4 + d == (n : Int)))) B G N cap t4 := hS5
  have hK5 : KeepW (NotBG B G) w4 (w4.drew.setCell ⟨B, 10, none⟩ (.bool (a4 + d == (n : Int)))) := hK5
  rw [hW5] at hS5 hK5
  have HS5 := Lib.hid hS5
  have HK5 : Hid (KeepW (NotBG B G) w W5) := HK4.out.trans hK5
  obtain ⟨⟨_, _, _, u3, u4⟩, _, _, _⟩ := HS5.out.box.cells
  rw [H34.out] at u3 u4
  rw [ha3] at u3
  rw [ha4] at u4
  have wd : IntKind.i64.wrap (a4 + d) = a4 + d := by rw [IntWalk.i64_in _ (by omega)]
  clear hS5 hK5 HWt ha3 ha4 HS4 HK4
  go_wp2_with fail
  go_still_tail 16, (by kernel_rfl)
  change wpList _ _ _ _ _ w4.drew
  go_wp2_with fail
  try rw [hW5]
  clear hW5 c10 f10 z1 z4
  go_still_tail 13, (by kernel_rfl)
  have HG2 : Hid (∀ e w', TmD w0 W5.drew B G N cap R e w' → TmD w0 w B G N cap R e w') := fun e w' ⟨k1, k2, k3⟩ => ⟨k1, k2, (HK5.out.trans (keep_drew _ _)).trans k3⟩
  have HS6 : Hid (TmS w0 W5.drew B G N cap t4) := HS5.out.next (Below.refl _ _).drew
  change wpList _ _ _ _ _ W5.drew
  go_wp2_with fail
  go_fit (HG.out _ HS6.out)
  rintro e w7 h7
  obtain ⟨rfl, h8⟩ := HG2.out _ _ h7
  go_wp2_with fail
  go_end0
  exact ⟨rfl, h8⟩
theorem tshow_any {m n : Nat} (r : Int) (w : World) (h : TmS w0 w B G N cap t) (hok : OkF t.f m n) (hL : LaidW w0) (hT : TBlankW w0) :
    Calls Tryz.prog 57 #[.pointer (some ⟨B, 0, none⟩), .int .i32 r] w (TmD w0 w B G N cap (showT t r)) := by
  cases hw : t.waits with
  | true => exact tshow_W r w h hok hL hT hw
  | false =>
    by_cases hc : t.f.cols < t.f.col + (ofN r : Int)
    · exact tshow_G r w h hok hL hT hw hc
    · exact tshow_N r w h hok hL hT hw hc
end
end Go.Proofs.YtpkjaallhhjleaaGreatDoor
