/-
  Texts of this proof, one behind the other; each begins with its own remark.
-/
import Derived.Test.YtpkjaallhhjleaaGreatDoorBe46
/-
  limnerref08: show: arm N.
-/
namespace Go.Proofs.YtpkjaallhhjleaaGreatDoor
open Go.RowKit

section
variable {w0 : World} {B G N cap : Nat} {T : ByteArray} {t : Tm}
set_option maxRecDepth 20000 in
set_option maxHeartbeats 8000000 in
theorem rtshow_N {m n : Nat} (r : Int) (w : World) (h : RtS w0 w B G N cap T t) (hok : OkF t.f m n) (hw : t.waits = false) (hd2 : (ofN r : Int) = 2) (hc : ¬ t.f.col + 1 = t.f.cols) :
    Calls Tryz.prog 32 #[.pointer (some ⟨B, 0, none⟩), .int .i32 r] w (RtD w0 w B G N T (showT t r)) := by
  have hm := hok.hm
  have hn := hok.hn
  have hcol := hok.col
  have hcols := hok.cols
  have hle := ofN_le r
  obtain ⟨t2, ht2⟩ : ∃ t2 : Tm, t2 = t := ⟨_, rfl⟩
  have hok2 : OkF t2.f m n := by rw [ht2]; exact hok
  have hroom : t2.f.col + (ofN r : Int) ≤ t2.f.cols := by rw [ht2]; have := wrap_ref hok r; omega
  obtain ⟨t3, ht3⟩ : ∃ t3 : Tm, t3 = { t2 with f := putF t2.f t2.f.row t2.f.col r t2.sty } := ⟨_, rfl⟩
  have hok3 : OkF t3.f m n := by rw [ht3]; exact put_okF hok2 _ _ _ _
  have hcl3 : t3.f.col = t2.f.col := by rw [ht3]; exact (put_curs hok2 _ _ _ _).2
  have hroom3 : t3.f.col + (ofN r : Int) ≤ t3.f.cols := by rw [hcl3, hok3.cols, ← hok2.cols]; exact hroom
  have hEnd : showT t r = { t3 with f := goF t3.f t3.f.row (t3.f.col + (ofN r : Int)), waits := decide (t3.f.col + (ofN r : Int) = t3.f.cols) } := by
    unfold showT
    dsimp only
    rw [if_neg (by rw [hw, wrap_ref hok r]; simp only [Bool.false_eq_true, false_or]; exact fun q => hc q.2)]
    rw [ht3, ht2]
  rw [hEnd]
  have HO := Lib.hid (fun W => refOf_any r W)
  have HP := Lib.hid (fun W G2 c2 (hS : RtS w0 W B G2 N c2 T t2) => rt_put r hS hok2)
  rw [← ht3] at HP
  obtain ⟨d, hd⟩ : ∃ d : Int, (ofN r : Int) = d := ⟨_, rfl⟩
  rw [hd] at HO hroom3 hd2 ⊢
  have hd0 : 0 ≤ d := by omega
  have hdl : d ≤ 2 := by omega
  obtain ⟨R, hR⟩ : ∃ R : Tm, { t3 with f := goF t3.f t3.f.row (t3.f.col + d), waits := decide (t3.f.col + d = t3.f.cols) } = R := ⟨_, rfl⟩
  have HL : Hid (∀ W G2 c2 x, RtS w0 W B G2 N c2 T { t3 with waits := decide (t3.f.cols ≤ t3.f.col + d) } → x = min (t3.f.col + d) (t3.f.cols - 1) → RtS w0 (W.setCell ⟨B, 4, none⟩ (.int .i64 x)) B G2 N c2 T R ∧ KeepW (NotBG B G2) W (W.setCell ⟨B, 4, none⟩ (.int .i64 x))) := fun W G2 c2 x hS hx => by
    rw [← hR]
    exact rt_last (t := { t3 with waits := decide (t3.f.cols ≤ t3.f.col + d) }) hS hok3 hd0 hroom3 x hx rfl rfl
  rw [hR]
  have hc3 := hok3.col
  have hk3 := hok3.cols
  rw [hk3] at HL hroom3
  have HK3 := Lib.hid hk3
  have HS := Lib.hid h
  obtain ⟨⟨_, x1, _, _, x4⟩, ⟨_, x10, _⟩, _, hf⟩ := h.box.cells
  have hlt := h.box.lt
  rw [hw] at x10
  rw [hcols] at x1
  rw [hcols] at hc
  have HCS : Hid (t.f.cols = (n : Int)) := hcols
  have HW := Lib.hid hw
  have HT2 := Lib.hid ht2
  clear hR hEnd hok hok2 hok3 ht2 ht3 hf hm hle hd hroom hcl3 hk3 h hcols 
  obtain ⟨hn1, hn2⟩ := hn
  obtain ⟨hc1, hc2⟩ := hcol
  obtain ⟨hp1, hp2⟩ := hc3
  obtain ⟨c4, hc4⟩ : ∃ c4, t.f.col = c4 := ⟨_, rfl⟩
  rw [hc4] at x4 hc1 hc2 hc
  have hdq : (d == 2) = true := by rw [beq_iff_eq]; exact hd2
  clear hd2
  go_enter Tryz.func32, Tryz.ntmps32
  go_wp2_with fail
  go_fit (HO.out w)
  rintro e w1 ⟨rfl, hb1⟩
  have HS1 := Lib.hid (HS.out.next hb1)
  have HK1 : Hid (KeepW (NotBG B G) w w1) := keep_below _ hb1
  obtain ⟨⟨_, y1, _, _, y4⟩, ⟨_, y10, _⟩, _, hf⟩ := HS1.out.box.cells
  have hlt1 := HS1.out.box.lt
  rw [HW.out] at y10
  rw [HCS.out] at y1
  rw [hc4] at y4
  have HC4 := Lib.hid hc4
  clear HS HO x1 x4 x10 hlt hb1 hf hc4
  have wq : IntKind.i64.wrap (c4 + 1) = c4 + 1 := IntWalk.i64_in _ (by omega)
  have gq : (c4 + 1 == (n : Int)) = false := by rw [beq_eq_false_iff_ne]; exact hc
  clear hc
  go_wp2_with fail
  go_quiet (fail)
  obtain ⟨W2, hW2⟩ : ∃ W2, w1.drewN nq = W2 := ⟨_, rfl⟩
  have hb2 : Below w1.heap.size w1 W2 := by rw [← hW2]; exact below_drewN (Below.refl _ _) nq
  try rw [hW2]
  have HS2 := Lib.hid (HS1.out.next hb2)
  have HK2 : Hid (KeepW (NotBG B G) w W2) := HK1.out.trans (keep_below _ hb2)
  have HZ2 : Hid (w.heap.size ≤ W2.heap.size) := HK2.out.size
  clear HS1 HK1 hb2 hW2 y1 y4 y10 hlt1
  have HS3 : Hid (RtS w0 W2 B G N cap T t2) := by rw [HT2.out]; exact HS2.out
  have HK3' := HK2
  have HG3 : Hid (G = G ∨ w.heap.size ≤ G) := Or.inl rfl
  obtain ⟨w3, hw3⟩ : ∃ w3, W2 = w3 := ⟨_, rfl⟩
  try rw [hw3]
  rw [hw3] at HS3 HK3'
  obtain ⟨G2, hG2⟩ : ∃ G2, G = G2 := ⟨_, rfl⟩
  obtain ⟨c2, hc2'⟩ : ∃ c2, cap = c2 := ⟨_, rfl⟩
  have HG3 : Hid (G2 = G ∨ w.heap.size ≤ G2) := Or.inl hG2.symm
  rw [hG2, hc2'] at HS3
  clear HK2 HS2 HZ2 hw3 hG2 hc2'
  have HN3 : Hid (∀ W, Below w3.heap.size w3 W → (W.cell? ⟨B, 0, none⟩ = some (.int .i64 t2.f.rows) ∧ W.cell? ⟨B, 1, none⟩ = some (.int .i64 t2.f.cols) ∧ W.cell? ⟨B, 2, none⟩ = some (.slice (some ⟨G2, 0, none⟩) N c2) ∧ W.cell? ⟨B, 3, none⟩ = some (.int .i64 t2.f.row) ∧ W.cell? ⟨B, 4, none⟩ = some (.int .i64 t2.f.col)) ∧ (∀ i, W.frozen? ⟨B, i, none⟩ = false) ∧ B < W.heap.size) := fun W hW => by
    have hS := HS3.out.next hW
    exact ⟨hS.box.cells.1, hS.box.cells.2.2.2, hS.box.lt⟩
  obtain ⟨⟨z0, z1, z2, z3, z4⟩, _, hl3⟩ := HN3.out w3 (Below.refl _ _)
  obtain ⟨z6, z7, z8, z9⟩ := HS3.out.box.cells.2.2.1
  have HKt : Hid (∀ W', KeepW (NotBG B G2) w3 W' → KeepW (NotBG B G) w W') := fun W' hk => rt_trans HK3'.out HG3.out hk
  have HPc := Lib.hid (HP.out w3.drew G2 c2 (HS3.out.next (Below.refl _ _).drew))
  clear HP HS3
  go_wp2_with fail
  go_cut [4] from 35 (fun s4 W4 => s4 = .int .i64 d ∧ ∃ g c5, (g = G ∨ w.heap.size ≤ g) ∧ Hid (RtS w0 W4 B g N c5 T t3 ∧ KeepW (NotBG B G) w W4))
  case first =>
    go_region_law (first | (go_simp; go_at_call 68; go_must (go_fit HPc.out); rintro e w5 ⟨a1, a2, a4, a5, g2, c6, rfl, hb5, hg5, hS1, hk1⟩; obtain ⟨⟨y0, y1, y2, y3, y4⟩, fy, hl5⟩ := HN3.out w5 ((Below.refl _ _).drew.trans (hb5.mono (Nat.le_refl _))); have f0 := fy 0; have f1 := fy 1; have f2 := fy 2; have f3 := fy 3; have f4 := fy 4))
    all_goals (go_wp2_with fail; go_meet; exact ⟨rfl, g2, c6, .inr (Nat.le_trans HK3'.out.size hg5), hS1, HKt.out _ ((keep_drew _ w3).trans hk1)⟩)
  case rest =>
    obtain ⟨rfl, g, c5, hg5, HR⟩ := hcut
    have HS4 := Lib.hid HR.out.1
    have HK4 := Lib.hid HR.out.2
    have HG4 := Lib.hid hg5
    clear HR hg5 z0 z1 z2 z3 z4 z6 z7 z8 z9 hl3 HPc HN3 HK3' HG3 HKt
    obtain ⟨b4, hb4⟩ : ∃ b, t3.f.col = b := ⟨_, rfl⟩
    obtain ⟨⟨_, z1, _, _, z4⟩, _, _, _⟩ := HS4.out.box.cells
    rw [HK3.out] at z1
    rw [hb4] at z4 HL hroom3 hp1 hp2
    have HW5 : Hid (∀ W5, wc.drew.setCell ⟨B, 10, none⟩ (.bool (decide ((n : Int) ≤ b4 + d))) = W5 → RtS w0 W5 B g N c5 T { t3 with waits := decide ((n : Int) ≤ b4 + d) } ∧ KeepW (NotBG B G) w W5 ∧ ((W5.cell? ⟨B, 1, none⟩ = some (.int .i64 (n : Int)) ∧ W5.cell? ⟨B, 4, none⟩ = some (.int .i64 b4)) ∧ W5.frozen? ⟨B, 4, none⟩ = false ∧ B < W5.heap.size)) := fun W5 h5 => by
      have hb : Below wc.heap.size wc wc.drew := (Below.refl _ _).drew
      obtain ⟨a1, a2⟩ := (HS4.out.next hb).waits_ (decide ((n : Int) ≤ b4 + d))
      rw [h5] at a1 a2
      have hbx := a1.box.cells
      dsimp only at hbx
      rw [HK3.out, hb4] at hbx
      exact ⟨a1, rt_trans HK4.out HG4.out ((keep_below _ hb).trans a2), ⟨hbx.1.2.1, hbx.1.2.2.2.2⟩, hbx.2.2.2 4, a1.box.lt⟩
    have c10 := (HS4.out.next (Below.refl _ _).drew).box.cells.2.1.2.1
    have f10 := (HS4.out.next (Below.refl _ _).drew).box.cells.2.2.2 10
    have l10 := (HS4.out.next (Below.refl _ _).drew).box.lt
    have wd : IntKind.i64.wrap (b4 + d) = b4 + d := IntWalk.i64_in _ (by omega)
    have wn : IntKind.i64.wrap ((n : Int) - 1) = (n : Int) - 1 := IntWalk.i64_in _ (by omega)
    clear hb4
    go_wp2_with fail
    go_still_tail 16, (by kernel_rfl)
    change wpList _ _ _ _ _ wc.drew
    go_wp2_with fail
    obtain ⟨W5, hW5⟩ : ∃ W5, (wc.setCell ⟨B, 10, none⟩ (.bool (decide ((n : Int) ≤ b4 + d)))).drew = W5 := ⟨_, rfl⟩
    rw [hW5]
    obtain ⟨k1, k2, ⟨k3, k4⟩, k5, k6⟩ := HW5.out W5 (by rw [← hW5]; rfl)
    have HEnd : Hid (∀ W6 x, W5.drew = W6 → x = min (b4 + d) ((n : Int) - 1) → (W6.cell? ⟨B, 4, none⟩ = some (.int .i64 b4) ∧ W6.frozen? ⟨B, 4, none⟩ = false ∧ B < W6.heap.size) ∧ Hid (RtD w0 w B G N T R (.returned (.tuple #[])) (W6.setCell ⟨B, 4, none⟩ (.int .i64 x)))) := fun W6 x h6 hx => by
      have hb : Below W5.heap.size W5 W6 := by rw [← h6]; exact (Below.refl _ _).drew
      have hS := k1.next hb
      obtain ⟨a1, a2⟩ := HL.out W6 g c5 x hS hx
      exact ⟨⟨by rw [← h6]; exact k4, by rw [← h6]; exact k5, hS.box.lt⟩, rfl, g, c5, HG4.out, a1, rt_trans (k2.trans (keep_below _ hb)) HG4.out a2⟩
    clear hW5 HW5 k1 k2 HL c10 f10 l10 z1 z4 HS4 HK4 HG4
    by_cases hq : b4 + d ≤ (n : Int) - 1
    · have hx : b4 + d = min (b4 + d) ((n : Int) - 1) := by omega
      have HE2 := Lib.hid (HEnd.out W5.drew (b4 + d) rfl hx)
      clear HEnd hx
      go_still_tail 15, (by kernel_rfl)
      obtain ⟨⟨m4, m5, m6⟩, HZ⟩ := HE2.out
      change wpList _ _ _ _ _ W5.drew
      obtain ⟨W6, hW6⟩ : ∃ W6, W5.drew = W6 := ⟨_, rfl⟩
      rw [hW6] at m4 m5 m6 HZ ⊢
      clear HE2 hW6 k3 k4 k5 k6
      go_wp2_with fail
      go_end0
      exact HZ.out
    · have hx : (n : Int) - 1 = min (b4 + d) ((n : Int) - 1) := by omega
      have HE2 := Lib.hid (HEnd.out W5.drew ((n : Int) - 1) rfl hx)
      clear HEnd hx
      go_still_tail 15, (by kernel_rfl)
      obtain ⟨⟨m4, m5, m6⟩, HZ⟩ := HE2.out
      change wpList _ _ _ _ _ W5.drew
      obtain ⟨W6, hW6⟩ : ∃ W6, W5.drew = W6 := ⟨_, rfl⟩
      rw [hW6] at m4 m5 m6 HZ ⊢
      clear HE2 hW6 k3 k4 k5 k6
      go_wp2_with fail
      go_end0
      exact HZ.out
end
end Go.Proofs.YtpkjaallhhjleaaGreatDoor

/-
  limnerref08: show: arm M.
-/
namespace Go.Proofs.YtpkjaallhhjleaaGreatDoor
open Go.RowKit

section
variable {w0 : World} {B G N cap : Nat} {T : ByteArray} {t : Tm}
set_option maxRecDepth 20000 in
set_option maxHeartbeats 8000000 in
theorem rtshow_M {m n : Nat} (r : Int) (w : World) (h : RtS w0 w B G N cap T t) (hok : OkF t.f m n) (hw : t.waits = false) (hd2 : ¬ (ofN r : Int) = 2) :
    Calls Tryz.prog 32 #[.pointer (some ⟨B, 0, none⟩), .int .i32 r] w (RtD w0 w B G N T (showT t r)) := by
  have hm := hok.hm
  have hn := hok.hn
  have hcol := hok.col
  have hcols := hok.cols
  have hle := ofN_le r
  obtain ⟨t2, ht2⟩ : ∃ t2 : Tm, t2 = t := ⟨_, rfl⟩
  have hok2 : OkF t2.f m n := by rw [ht2]; exact hok
  have hroom : t2.f.col + (ofN r : Int) ≤ t2.f.cols := by rw [ht2]; have := wrap_ref hok r; omega
  obtain ⟨t3, ht3⟩ : ∃ t3 : Tm, t3 = { t2 with f := putF t2.f t2.f.row t2.f.col r t2.sty } := ⟨_, rfl⟩
  have hok3 : OkF t3.f m n := by rw [ht3]; exact put_okF hok2 _ _ _ _
  have hcl3 : t3.f.col = t2.f.col := by rw [ht3]; exact (put_curs hok2 _ _ _ _).2
  have hroom3 : t3.f.col + (ofN r : Int) ≤ t3.f.cols := by rw [hcl3, hok3.cols, ← hok2.cols]; exact hroom
  have hEnd : showT t r = { t3 with f := goF t3.f t3.f.row (t3.f.col + (ofN r : Int)), waits := decide (t3.f.col + (ofN r : Int) = t3.f.cols) } := by
    unfold showT
    dsimp only
    rw [if_neg (by rw [hw, wrap_ref hok r]; simp only [Bool.false_eq_true, false_or]; exact fun q => hd2 q.1)]
    rw [ht3, ht2]
  rw [hEnd]
  have HO := Lib.hid (fun W => refOf_any r W)
  have HP := Lib.hid (fun W G2 c2 (hS : RtS w0 W B G2 N c2 T t2) => rt_put r hS hok2)
  rw [← ht3] at HP
  obtain ⟨d, hd⟩ : ∃ d : Int, (ofN r : Int) = d := ⟨_, rfl⟩
  rw [hd] at HO hroom3 hd2 ⊢
  have hd0 : 0 ≤ d := by omega
  have hdl : d ≤ 2 := by omega
  obtain ⟨R, hR⟩ : ∃ R : Tm, { t3 with f := goF t3.f t3.f.row (t3.f.col + d), waits := decide (t3.f.col + d = t3.f.cols) } = R := ⟨_, rfl⟩
  have HL : Hid (∀ W G2 c2 x, RtS w0 W B G2 N c2 T { t3 with waits := decide (t3.f.cols ≤ t3.f.col + d) } → x = min (t3.f.col + d) (t3.f.cols - 1) → RtS w0 (W.setCell ⟨B, 4, none⟩ (.int .i64 x)) B G2 N c2 T R ∧ KeepW (NotBG B G2) W (W.setCell ⟨B, 4, none⟩ (.int .i64 x))) := fun W G2 c2 x hS hx => by
    rw [← hR]
    exact rt_last (t := { t3 with waits := decide (t3.f.cols ≤ t3.f.col + d) }) hS hok3 hd0 hroom3 x hx rfl rfl
  rw [hR]
  have hc3 := hok3.col
  have hk3 := hok3.cols
  rw [hk3] at HL hroom3
  have HK3 := Lib.hid hk3
  have HS := Lib.hid h
  obtain ⟨⟨_, x1, _, _, x4⟩, ⟨_, x10, _⟩, _, hf⟩ := h.box.cells
  have hlt := h.box.lt
  rw [hw] at x10
  rw [hcols] at x1
  have HCS : Hid (t.f.cols = (n : Int)) := hcols
  have HW := Lib.hid hw
  have HT2 := Lib.hid ht2
  clear hR hEnd hok hok2 hok3 ht2 ht3 hf hm hle hd hroom hcl3 hk3 h hcols 
  obtain ⟨hn1, hn2⟩ := hn
  obtain ⟨hc1, hc2⟩ := hcol
  obtain ⟨hp1, hp2⟩ := hc3
  obtain ⟨c4, hc4⟩ : ∃ c4, t.f.col = c4 := ⟨_, rfl⟩
  rw [hc4] at x4 hc1 hc2 
  go_enter Tryz.func32, Tryz.ntmps32
  go_wp2_with fail
  go_fit (HO.out w)
  rintro e w1 ⟨rfl, hb1⟩
  have HS1 := Lib.hid (HS.out.next hb1)
  have HK1 : Hid (KeepW (NotBG B G) w w1) := keep_below _ hb1
  obtain ⟨⟨_, y1, _, _, y4⟩, ⟨_, y10, _⟩, _, hf⟩ := HS1.out.box.cells
  have hlt1 := HS1.out.box.lt
  rw [HW.out] at y10
  rw [HCS.out] at y1
  rw [hc4] at y4
  have HC4 := Lib.hid hc4
  clear HS HO x1 x4 x10 hlt hb1 hf hc4
  have hdq : (d == 2) = false := by rw [beq_eq_false_iff_ne]; exact hd2
  go_wp2_with fail
  go_quiet (fail)
  obtain ⟨W2, hW2⟩ : ∃ W2, w1.drewN nq = W2 := ⟨_, rfl⟩
  have hb2 : Below w1.heap.size w1 W2 := by rw [← hW2]; exact below_drewN (Below.refl _ _) nq
  try rw [hW2]
  have HS2 := Lib.hid (HS1.out.next hb2)
  have HK2 : Hid (KeepW (NotBG B G) w W2) := HK1.out.trans (keep_below _ hb2)
  have HZ2 : Hid (w.heap.size ≤ W2.heap.size) := HK2.out.size
  clear HS1 HK1 hb2 hW2 y1 y4 y10 hlt1
  have HS3 : Hid (RtS w0 W2 B G N cap T t2) := by rw [HT2.out]; exact HS2.out
  have HK3' := HK2
  have HG3 : Hid (G = G ∨ w.heap.size ≤ G) := Or.inl rfl
  obtain ⟨w3, hw3⟩ : ∃ w3, W2 = w3 := ⟨_, rfl⟩
  try rw [hw3]
  rw [hw3] at HS3 HK3'
  obtain ⟨G2, hG2⟩ : ∃ G2, G = G2 := ⟨_, rfl⟩
  obtain ⟨c2, hc2'⟩ : ∃ c2, cap = c2 := ⟨_, rfl⟩
  have HG3 : Hid (G2 = G ∨ w.heap.size ≤ G2) := Or.inl hG2.symm
  rw [hG2, hc2'] at HS3
  clear HK2 HS2 HZ2 hw3 hG2 hc2'
  have HN3 : Hid (∀ W, Below w3.heap.size w3 W → (W.cell? ⟨B, 0, none⟩ = some (.int .i64 t2.f.rows) ∧ W.cell? ⟨B, 1, none⟩ = some (.int .i64 t2.f.cols) ∧ W.cell? ⟨B, 2, none⟩ = some (.slice (some ⟨G2, 0, none⟩) N c2) ∧ W.cell? ⟨B, 3, none⟩ = some (.int .i64 t2.f.row) ∧ W.cell? ⟨B, 4, none⟩ = some (.int .i64 t2.f.col)) ∧ (∀ i, W.frozen? ⟨B, i, none⟩ = false) ∧ B < W.heap.size) := fun W hW => by
    have hS := HS3.out.next hW
    exact ⟨hS.box.cells.1, hS.box.cells.2.2.2, hS.box.lt⟩
  obtain ⟨⟨z0, z1, z2, z3, z4⟩, _, hl3⟩ := HN3.out w3 (Below.refl _ _)
  obtain ⟨z6, z7, z8, z9⟩ := HS3.out.box.cells.2.2.1
  have HKt : Hid (∀ W', KeepW (NotBG B G2) w3 W' → KeepW (NotBG B G) w W') := fun W' hk => rt_trans HK3'.out HG3.out hk
  have HPc := Lib.hid (HP.out w3.drew G2 c2 (HS3.out.next (Below.refl _ _).drew))
  clear HP HS3
  go_wp2_with fail
  go_cut [4] from 35 (fun s4 W4 => s4 = .int .i64 d ∧ ∃ g c5, (g = G ∨ w.heap.size ≤ g) ∧ Hid (RtS w0 W4 B g N c5 T t3 ∧ KeepW (NotBG B G) w W4))
  case first =>
    go_region_law (first | (go_simp; go_at_call 68; go_must (go_fit HPc.out); rintro e w5 ⟨a1, a2, a4, a5, g2, c6, rfl, hb5, hg5, hS1, hk1⟩; obtain ⟨⟨y0, y1, y2, y3, y4⟩, fy, hl5⟩ := HN3.out w5 ((Below.refl _ _).drew.trans (hb5.mono (Nat.le_refl _))); have f0 := fy 0; have f1 := fy 1; have f2 := fy 2; have f3 := fy 3; have f4 := fy 4))
    all_goals (go_wp2_with fail; go_meet; exact ⟨rfl, g2, c6, .inr (Nat.le_trans HK3'.out.size hg5), hS1, HKt.out _ ((keep_drew _ w3).trans hk1)⟩)
  case rest =>
    obtain ⟨rfl, g, c5, hg5, HR⟩ := hcut
    have HS4 := Lib.hid HR.out.1
    have HK4 := Lib.hid HR.out.2
    have HG4 := Lib.hid hg5
    clear HR hg5 z0 z1 z2 z3 z4 z6 z7 z8 z9 hl3 HPc HN3 HK3' HG3 HKt
    obtain ⟨b4, hb4⟩ : ∃ b, t3.f.col = b := ⟨_, rfl⟩
    obtain ⟨⟨_, z1, _, _, z4⟩, _, _, _⟩ := HS4.out.box.cells
    rw [HK3.out] at z1
    rw [hb4] at z4 HL hroom3 hp1 hp2
    have HW5 : Hid (∀ W5, wc.drew.setCell ⟨B, 10, none⟩ (.bool (decide ((n : Int) ≤ b4 + d))) = W5 → RtS w0 W5 B g N c5 T { t3 with waits := decide ((n : Int) ≤ b4 + d) } ∧ KeepW (NotBG B G) w W5 ∧ ((W5.cell? ⟨B, 1, none⟩ = some (.int .i64 (n : Int)) ∧ W5.cell? ⟨B, 4, none⟩ = some (.int .i64 b4)) ∧ W5.frozen? ⟨B, 4, none⟩ = false ∧ B < W5.heap.size)) := fun W5 h5 => by
      have hb : Below wc.heap.size wc wc.drew := (Below.refl _ _).drew
      obtain ⟨a1, a2⟩ := (HS4.out.next hb).waits_ (decide ((n : Int) ≤ b4 + d))
      rw [h5] at a1 a2
      have hbx := a1.box.cells
      dsimp only at hbx
      rw [HK3.out, hb4] at hbx
      exact ⟨a1, rt_trans HK4.out HG4.out ((keep_below _ hb).trans a2), ⟨hbx.1.2.1, hbx.1.2.2.2.2⟩, hbx.2.2.2 4, a1.box.lt⟩
    have c10 := (HS4.out.next (Below.refl _ _).drew).box.cells.2.1.2.1
    have f10 := (HS4.out.next (Below.refl _ _).drew).box.cells.2.2.2 10
    have l10 := (HS4.out.next (Below.refl _ _).drew).box.lt
    have wd : IntKind.i64.wrap (b4 + d) = b4 + d := IntWalk.i64_in _ (by omega)
    have wn : IntKind.i64.wrap ((n : Int) - 1) = (n : Int) - 1 := IntWalk.i64_in _ (by omega)
    clear hb4
    go_wp2_with fail
    go_still_tail 16, (by kernel_rfl)
    change wpList _ _ _ _ _ wc.drew
    go_wp2_with fail
    obtain ⟨W5, hW5⟩ : ∃ W5, (wc.setCell ⟨B, 10, none⟩ (.bool (decide ((n : Int) ≤ b4 + d)))).drew = W5 := ⟨_, rfl⟩
    rw [hW5]
    obtain ⟨k1, k2, ⟨k3, k4⟩, k5, k6⟩ := HW5.out W5 (by rw [← hW5]; rfl)
    have HEnd : Hid (∀ W6 x, W5.drew = W6 → x = min (b4 + d) ((n : Int) - 1) → (W6.cell? ⟨B, 4, none⟩ = some (.int .i64 b4) ∧ W6.frozen? ⟨B, 4, none⟩ = false ∧ B < W6.heap.size) ∧ Hid (RtD w0 w B G N T R (.returned (.tuple #[])) (W6.setCell ⟨B, 4, none⟩ (.int .i64 x)))) := fun W6 x h6 hx => by
      have hb : Below W5.heap.size W5 W6 := by rw [← h6]; exact (Below.refl _ _).drew
      have hS := k1.next hb
      obtain ⟨a1, a2⟩ := HL.out W6 g c5 x hS hx
      exact ⟨⟨by rw [← h6]; exact k4, by rw [← h6]; exact k5, hS.box.lt⟩, rfl, g, c5, HG4.out, a1, rt_trans (k2.trans (keep_below _ hb)) HG4.out a2⟩
    clear hW5 HW5 k1 k2 HL c10 f10 l10 z1 z4 HS4 HK4 HG4
    by_cases hq : b4 + d ≤ (n : Int) - 1
    · have hx : b4 + d = min (b4 + d) ((n : Int) - 1) := by omega
      have HE2 := Lib.hid (HEnd.out W5.drew (b4 + d) rfl hx)
      clear HEnd hx
      go_still_tail 15, (by kernel_rfl)
      obtain ⟨⟨m4, m5, m6⟩, HZ⟩ := HE2.out
      change wpList _ _ _ _ _ W5.drew
      obtain ⟨W6, hW6⟩ : ∃ W6, W5.drew = W6 := ⟨_, rfl⟩
      rw [hW6] at m4 m5 m6 HZ ⊢
      clear HE2 hW6 k3 k4 k5 k6
      go_wp2_with fail
      go_end0
      exact HZ.out
    · have hx : (n : Int) - 1 = min (b4 + d) ((n : Int) - 1) := by omega
      have HE2 := Lib.hid (HEnd.out W5.drew ((n : Int) - 1) rfl hx)
      clear HEnd hx
      go_still_tail 15, (by kernel_rfl)
      obtain ⟨⟨m4, m5, m6⟩, HZ⟩ := HE2.out
      change wpList _ _ _ _ _ W5.drew
      obtain ⟨W6, hW6⟩ : ∃ W6, W5.drew = W6 := ⟨_, rfl⟩
      rw [hW6] at m4 m5 m6 HZ ⊢
      clear HE2 hW6 k3 k4 k5 k6
      go_wp2_with fail
      go_end0
      exact HZ.out
end
end Go.Proofs.YtpkjaallhhjleaaGreatDoor
